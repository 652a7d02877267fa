/-
  The document's own answer to chapter 10, walked: products, Scale, what is reckoned of two numbers. Contracts that the proofs call; no statement is proved here.
-/
import Derived.LoopTactic
import Derived.Test.YtfjoobopfjahcaaDoorVuFits
namespace Go.Proofs.YtfjoobopfjahcaaDoor
open Go.RowKit

/-- A product that wrapped does not divide back. -/
theorem back_no {a b : Int} (hb : -9223372036854775808 ≤ b ∧ b ≤ 9223372036854775807) (hb0 : b ≠ 0) (hr : room (a * b) = false) : (wrap64 (a * b)).tdiv b ≠ a := by
  intro h
  have hw := room_false.1 hr
  have h1 := Int.tdiv_mul_add_tmod (wrap64 (a * b)) b
  rw [h] at h1
  have h2 := Int.tmod_lt_of_pos
  have hm : ((wrap64 (a * b)).tmod b).natAbs < b.natAbs := by
    rw [Int.natAbs_tmod]; exact Nat.mod_lt _ (by omega)
  generalize a * b = p at *
  unfold wrap64 at *
  omega
theorem tdiv_bd {x b : Int} (hx : -9223372036854775808 ≤ x ∧ x ≤ 9223372036854775807) (hb0 : b ≠ 0) (hb1 : b ≠ -1) : -9223372036854775808 ≤ x.tdiv b ∧ x.tdiv b ≤ 9223372036854775807 := by
  by_cases h1 : b = 1
  · rw [h1, Int.tdiv_one]; exact hx
  · have h := Int.natAbs_tdiv x b
    have h2 : x.natAbs / b.natAbs ≤ x.natAbs / 2 := Nat.div_le_div_left (by omega) (by omega)
    have h3 : (x.tdiv b).natAbs ≤ 4611686018427387904 := by rw [h]; exact Nat.le_trans h2 (by omega)
    generalize x.tdiv b = q at *
    omega
theorem back_yes {a b : Int} (hb0 : b ≠ 0) (hr : room (a * b) = true) : (wrap64 (a * b)).tdiv b = a := by
  have hw := room_true.1 hr
  rw [show wrap64 (a * b) = a * b by unfold wrap64; omega]
  exact Int.mul_tdiv_cancel _ hb0

/-- The document's product: the number, has it room? -/
def prodV (a b : Int) : Int × Bool := if room (a * b) then (a * b, true) else (0, false)

set_option maxHeartbeats 4000000 in
theorem ref_product (a b : Int) (ha : -9223372036854775808 ≤ a ∧ a ≤ 9223372036854775807) (hb : -9223372036854775808 ≤ b ∧ b ≤ 9223372036854775807) (w : World) :
    Calls Tryd.prog 35 #[.int .i64 a, .int .i64 b] w fun e w' => e = .returned (.tuple #[.int .i64 (prodV a b).1, .bool (prodV a b).2]) ∧ w = w' := by
  by_cases ha0 : a = 0
  · subst ha0
    have e : prodV 0 b = (0, true) := by unfold prodV; rw [Int.zero_mul]; rfl
    rw [e]
    go_enter Tryd.func35, Tryd.ntmps35
    go_wp2
    go_ret2
    exact ⟨rfl, rfl⟩
  by_cases hb0 : b = 0
  · subst hb0
    have e : prodV a 0 = (0, true) := by unfold prodV; rw [Int.mul_zero]; rfl
    have h1 : (a == 0) = false := by simpa using ha0
    rw [e]
    clear ha0
    go_enter Tryd.func35, Tryd.ntmps35
    go_wp2
    go_ret2
    exact ⟨rfl, rfl⟩
  have h1 : (a == 0) = false := by simpa using ha0
  have h2 : (b == 0) = false := by simpa using hb0
  by_cases g1 : a = -1
  · subst g1
    by_cases g2 : b = -9223372036854775808
    · subst g2
      go_enter Tryd.func35, Tryd.ntmps35
      go_wp2
      go_ret2
      exact ⟨rfl, rfl⟩
    · have e : prodV (-1) b = (-b, true) := by unfold prodV; rw [if_pos (by rw [room_true]; omega), Int.neg_one_mul]
      rw [e]
      have g2b : (b == -9223372036854775808) = false := by simpa using g2
      have hk : -9223372036854775807 ≤ b := by omega
      by_cases g3 : b = -1
      · subst g3
        go_enter Tryd.func35, Tryd.ntmps35
        go_wp2
        go_ret2
        exact ⟨rfl, rfl⟩
      · have g3b : (b == -1) = false := by simpa using g3
        have hd : (-b).tdiv b = -1 := by rw [Int.neg_tdiv, Int.tdiv_self hb0]
        have hd2 : ((-b).tdiv b != -1) = false := by rw [hd]; rfl
        clear e g2 g3 hd
        go_enter Tryd.func35, Tryd.ntmps35
        go_wp2
        go_ret2
        exact ⟨rfl, rfl⟩
  have g1b : (a == -1) = false := by simpa using g1
  by_cases g3 : b = -1
  · subst g3
    by_cases g2 : a = -9223372036854775808
    · subst g2
      go_enter Tryd.func35, Tryd.ntmps35
      go_wp2
      go_ret2
      exact ⟨rfl, rfl⟩
    · obtain ⟨b, hb1⟩ : ∃ b : Int, b = -1 := ⟨_, rfl⟩
      have e : prodV a (-1) = (a * b, true) := by unfold prodV; rw [hb1, if_pos (by rw [room_true]; omega)]
      rw [e, ← hb1]
      have g2b : (a == -9223372036854775808) = false := by simpa using g2
      have g3t : (b == -1) = true := by simpa using hb1
      have h2 : (b == 0) = false := by simp [hb1]
      have hd : (a * b).tdiv b = a := Int.mul_tdiv_cancel _ (by omega)
      have hp : -9223372036854775808 ≤ a * b ∧ a * b ≤ 9223372036854775807 := by rw [hb1]; omega
      have hq : -9223372036854775808 ≤ (a * b).tdiv b ∧ (a * b).tdiv b ≤ 9223372036854775807 := by rw [hd]; omega
      have hd2 : ((a * b).tdiv b != a) = false := by simp [hd]
      have hb0 : b ≠ 0 := by omega
      clear e g2 g1 hd hb1 ha0
      go_enter Tryd.func35, Tryd.ntmps35
      go_wp2
      go_ret2
      exact ⟨rfl, rfl⟩
  have g3b : (b == -1) = false := by simpa using g3
  cases hr : room (a * b)
  · have e : prodV a b = (0, false) := by unfold prodV; rw [hr]; rfl
    have hn := back_no hb hb0 hr
    rw [e]
    have h3 : ((wrap64 (a * b)).tdiv b != a) = true := by simpa using hn
    have hq := tdiv_bd (x := wrap64 (a * b)) (by unfold wrap64; omega) hb0 g3
    clear hn e hr g1 g3 ha0
    go_enter Tryd.func35, Tryd.ntmps35
    go_wp2
    all_goals
      go_ret2
      exact ⟨rfl, rfl⟩
  · have e : prodV a b = (a * b, true) := by unfold prodV; rw [hr]; rfl
    have hy := back_yes (a := a) hb0 hr
    have hw := room_true.1 hr
    have hwr : wrap64 (a * b) = a * b := by unfold wrap64; omega
    rw [e]
    rw [hwr] at hy
    have h3 : ((a * b).tdiv b != a) = false := by simpa using hy
    have hq : -9223372036854775808 ≤ (a * b).tdiv b ∧ (a * b).tdiv b ≤ 9223372036854775807 := by rw [hy]; exact ha
    clear hy hwr
    go_enter Tryd.func35, Tryd.ntmps35
    go_wp2
    go_ret2
    exact ⟨rfl, rfl⟩

/-- The document's Scale: a loop of products with 10. -/
theorem no_room_on {n : Int} {i k : Nat} (h : i + 1 ≤ k) (hr : room (n * 10 ^ (i + 1)) = false) : room (n * 10 ^ k) = false := by
  obtain ⟨j, rfl⟩ : ∃ j, k = (i + 1) + j := ⟨k - (i + 1), by omega⟩
  rw [Int.pow_add, ← Int.mul_assoc]
  have h1 := room_false.1 hr
  rw [room_false]
  have hp : (1 : Int) ≤ 10 ^ j := by
    have : (0 : Int) < 10 ^ j := Int.pow_pos (by decide)
    omega
  generalize n * 10 ^ (i + 1) = p at *
  generalize (10 : Int) ^ j = q at *
  intro h2
  by_cases hs : p < 0
  · have : p * q ≤ p * 1 := Int.mul_le_mul_of_nonpos_left (by omega) hp
    omega
  · have : p * 1 ≤ p * q := Int.mul_le_mul_of_nonneg_left hp (by omega)
    omega

set_option maxHeartbeats 4000000 in
theorem ref_scale (n f t : Int) (hn : -9223372036854775808 ≤ n ∧ n ≤ 9223372036854775807) (w : World) :
    Calls Tryd.prog 14 #[.int .i64 n, .int .i64 f, .int .i64 t] w fun e w' => e = .returned (.tuple #[.int .i64 (scaleV n f t).1, .int .i64 (scaleV n f t).2]) ∧ w = w' := by
  by_cases hc : 0 ≤ f ∧ f ≤ 9 ∧ f ≤ t ∧ t ≤ 9
  · obtain ⟨p, hp⟩ : ∃ p : Nat, (p : Int) = t - f := ⟨(t - f).toNat, by omega⟩
    have hv : scaleV n f t = fitN (n * 10 ^ p) := by unfold scaleV; rw [if_pos hc, show (t - f).toNat = p by omega]
    rw [hv]
    obtain ⟨g1, g2, g3, g4⟩ := hc
    obtain rfl : t = f + p := by omega
    clear hv hp
    go_enter Tryd.func14, Tryd.ntmps14
    go_wp2
    go_loop [0, 8] (fun v i => ∃ k : Nat, k ≤ p ∧ i = .int .i64 (f + k) ∧ v = .int .i64 (n * 10 ^ k) ∧ room (n * 10 ^ k) = true) (fun _ i => (f + p - intOf i).toNat)
    case atStart => exact ⟨0, by omega, by simp, by simp, by rw [room_true]; omega⟩
    case round =>
      obtain ⟨k, hk, rfl, rfl, hr⟩ := hrel
      have hb := room_true.1 hr
      by_cases hlt : k < p
      · have hst : n * 10 ^ k * 10 = n * 10 ^ (k + 1) := by rw [Int.pow_succ, Int.mul_assoc]
        have cp := fun w => ref_product (n * 10 ^ k) 10 hb (by omega) w
        unfold prodV at cp
        rw [hst] at cp
        have hlt' : f + (k : Int) < f + p := by omega
        cases hr2 : room (n * 10 ^ (k + 1))
        · have e : fitN (n * 10 ^ p) = (0, 11) := by unfold fitN; rw [if_neg (by rw [no_room_on (by omega) hr2]; simp)]
          rw [hr2] at cp
          simp only [Bool.false_eq_true, if_false] at cp
          have E := Lib.hid e
          clear e hst
          go_wp2_with (go_at_call 35; (with_reducible refine (cp _).mono ?_); rintro e w1 ⟨rfl, rfl⟩)
          go_ret2
          exact ⟨by rw [E.out]; rfl, rfl⟩
        · rw [hr2] at cp
          simp only [if_true] at cp
          have HR := Lib.hid hr2
          clear hst hr2 hr
          go_wp2_with (go_at_call 35; (with_reducible refine (cp _).mono ?_); rintro e w1 ⟨rfl, rfl⟩)
          go_round
          case rel => exact ⟨k + 1, by omega, by simp; omega, rfl, HR.out⟩
          case measure => simp [intOf]; omega
      · obtain rfl : k = p := by omega
        have e : fitN (n * 10 ^ k) = (n * 10 ^ k, 0) := by unfold fitN; rw [if_pos hr]
        have E := Lib.hid e
        clear e hr
        go_wp2
        go_ret2
        exact ⟨by rw [E.out]; rfl, rfl⟩
  · have hv : scaleV n f t = (0, 1) := by unfold scaleV; rw [if_neg hc]
    rw [hv]
    have hk : 0 ≤ f → f ≤ 9 → f ≤ t → 9 < t := fun h1 h2 h3 => by omega
    clear hv hc
    by_cases h1 : f < 0
    · go_enter Tryd.func14, Tryd.ntmps14
      go_wp2
      go_ret2
      exact ⟨rfl, rfl⟩
    · by_cases h2 : 9 < f
      · clear hk
        go_enter Tryd.func14, Tryd.ntmps14
        go_wp2
        go_ret2
        exact ⟨rfl, rfl⟩
      · by_cases h3 : t < f
        · clear hk
          go_enter Tryd.func14, Tryd.ntmps14
          go_wp2
          go_ret2
          exact ⟨rfl, rfl⟩
        · have h4 := hk (by omega) (by omega) (by omega)
          clear hk
          go_enter Tryd.func14, Tryd.ntmps14
          go_wp2
          go_ret2
          exact ⟨rfl, rfl⟩
end Go.Proofs.YtfjoobopfjahcaaDoor
