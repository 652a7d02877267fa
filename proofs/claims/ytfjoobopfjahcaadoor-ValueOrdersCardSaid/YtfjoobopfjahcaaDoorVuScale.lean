/-
  Package value's numbers of 128 bits, walked: times a power of ten; Scale. Contracts that the proofs call; no statement is proved here.
-/
import Derived.Test.YtfjoobopfjahcaaDoorVuWideC
import Derived.Test.YtfjoobopfjahcaaDoorVuLogic
namespace Go.Proofs.YtfjoobopfjahcaaDoor
open Go.RowKit

/-- A box of two cells, and the one behind it, that stand and are not frozen. -/
structure Bx (B : Nat) (x y : Value) (W : World) : Prop where
  c0 : W.cell? ⟨B, 0, none⟩ = some x
  c1 : W.cell? ⟨B, 1, none⟩ = some y
  z0 : W.frozen? ⟨B, 0, none⟩ = false
  z1 : W.frozen? ⟨B, 1, none⟩ = false
  r0 : W.cell? ⟨B + 1, 0, none⟩ = some (.int .i64 0)
  r1 : W.cell? ⟨B + 1, 1, none⟩ = some (.int .u64 0)
  y0 : W.frozen? ⟨B + 1, 0, none⟩ = false
  y1 : W.frozen? ⟨B + 1, 1, none⟩ = false
theorem Bx.on {B : Nat} {x y : Value} {W w1 : World} (h : Bx B x y W) (hb : Below W.heap.size W w1) : Bx B x y w1 :=
  ⟨stay_on hb h.c0, stay_on hb h.c1, free_on hb h.c0 h.z0, free_on hb h.c1 h.z1, stay_on hb h.r0, stay_on hb h.r1, free_on hb h.r0 h.y0, free_on hb h.r1 h.y1⟩
theorem Bx.drew {B : Nat} {x y : Value} {W : World} (h : Bx B x y W) : Bx B x y W.drew :=
  ⟨by simpa using h.c0, by simpa using h.c1, by simpa using h.z0, by simpa using h.z1, by simpa using h.r0, by simpa using h.r1, by simpa using h.y0, by simpa using h.y1⟩
theorem Bx.set {B : Nat} {x y : Value} {W : World} (h : Bx B x y W) (x' y' : Value) : Bx B x' y' ((W.setCell ⟨B, 0, none⟩ x').setCell ⟨B, 1, none⟩ y') := by
  have e0 : (W.setCell ⟨B, 0, none⟩ x').cell? ⟨B, 1, none⟩ = some y := by rw [World.cell?_setCell_other _ _ _ _ (by simp)]; exact h.c1
  refine ⟨?_, World.cell?_setCell_same _ _ _ e0, ?_, ?_, ?_, ?_, ?_, ?_⟩
  · rw [World.cell?_setCell_other _ _ _ _ (by simp)]; exact World.cell?_setCell_same _ _ _ h.c0
  · rw [World.frozen?_setCell, World.frozen?_setCell]; exact h.z0
  · rw [World.frozen?_setCell, World.frozen?_setCell]; exact h.z1
  · rw [World.cell?_setCell_other _ _ _ _ (by simp), World.cell?_setCell_other _ _ _ _ (by simp)]; exact h.r0
  · rw [World.cell?_setCell_other _ _ _ _ (by simp), World.cell?_setCell_other _ _ _ _ (by simp)]; exact h.r1
  · rw [World.frozen?_setCell, World.frozen?_setCell]; exact h.y0
  · rw [World.frozen?_setCell, World.frozen?_setCell]; exact h.y1

theorem ten_step (a : Int) (k : Nat) : a * 10 ^ k * 8 + a * 10 ^ k * 2 = a * 10 ^ (k + 1) := by
  rw [Int.pow_succ, ← Int.mul_assoc]; omega

set_option maxRecDepth 100000 in
set_option maxHeartbeats 8000000 in
theorem w_scaled (a : Int) (p : Nat) (hp : p ≤ 9) (w : World) :
    Calls Tryd.prog 33 #[.agg #[.int .i64 (whi a), .int .u64 (wlo a)], .int .i64 p] w fun e w' => e = .returned (.agg #[.int .i64 (whi (a * 10 ^ p)), .int .u64 (wlo (a * 10 ^ p))]) ∧ Below w.heap.size w w' := by
  obtain ⟨W, hW⟩ : ∃ W, W = (w.alloc (.cells #[.int .i64 (whi a), .int .u64 (wlo a)] 64)).alloc (.cells #[.int .i64 0, .int .u64 0] 64) := ⟨_, rfl⟩
  have HX : Bx w.heap.size (.int .i64 (whi a)) (.int .u64 (wlo a)) W := by
    rw [hW]; exact ⟨by go_simp, by go_simp, by go_simp, by go_simp, by go_simp, by go_simp, by go_simp, by go_simp⟩
  have hB : Below w.heap.size w W := by rw [hW]; exact b2
  have hs : w.heap.size + 1 + 1 ≤ W.heap.size := by rw [hW]; simp
  go_enter Tryd.func33, Tryd.ntmps33
  go_wp2
  rw [← hW]
  clear hW
  go_loopw [6] (fun i wr => ∃ k : Nat, k ≤ p ∧ i = .int .i64 k ∧ Bx w.heap.size (.int .i64 (whi (a * 10 ^ k))) (.int .u64 (wlo (a * 10 ^ k))) wr ∧ Below w.heap.size w wr ∧ w.heap.size + 1 + 1 ≤ wr.heap.size) (fun i _ => p - (intOf i).toNat)
  case atStart => exact ⟨0, by omega, rfl, by rw [Int.pow_zero, Int.mul_one]; exact HX, hB, hs⟩
  case round =>
    clear HX hB hs
    obtain ⟨k, hk, rfl, H, hB, hs⟩ := hrel
    have hst := Lib.hid (ten_step a k)
    by_cases hlt : k < p
    · have hlt' : (k : Int) < p := by omega
      generalize a * 10 ^ k = v at *
      obtain ⟨c0, c1, z0, z1, r0, r1, y0, y1⟩ := H
      have H : Bx w.heap.size (.int .i64 (whi v)) (.int .u64 (wlo v)) wr := ⟨c0, c1, z0, z1, r0, r1, y0, y1⟩
      go_wp2
      go_region_with (first
        | (go_at_call 45; (with_reducible refine (w_left3 _ _).mono ?_); rintro e w1 ⟨rfl, hb1⟩; have H1 := H.drew.on hb1; have hB1 := bt hB.drew hb1; have hs1 := Nat.le_trans hs hb1.size; obtain ⟨c0, c1, z0, z1, r0, r1, y0, y1⟩ := H1)
        | (go_at_call 45; (with_reducible refine (w_left1 _ _).mono ?_); rintro e w1 ⟨rfl, hb1⟩; have H2 := (Bx.mk c0 c1 z0 z1 r0 r1 y0 y1).on hb1; have hB2 := bt hB1 hb1; have hs2 := Nat.le_trans hs1 hb1.size; obtain ⟨c0, c1, z0, z1, r0, r1, y0, y1⟩ := H2)
        | (go_at_call 46; (with_reducible refine (w_plus _ _ _).mono ?_); rintro e w1 ⟨rfl, hb1⟩; have H3 := (Bx.mk c0 c1 z0 z1 r0 r1 y0 y1).on hb1; have hB3 := bt hB2 hb1; have hs3 := Nat.le_trans hs2 hb1.size; obtain ⟨c0, c1, z0, z1, r0, r1, y0, y1⟩ := H3))
      all_goals
        go_wp2
        go_roundw
        case rel => exact ⟨k + 1, by omega, by go_num, by rw [← hst.out]; exact (Bx.mk c0 c1 z0 z1 r0 r1 y0 y1).set _ _, (hB3.setCell (Nat.le_refl _) _).setCell (Nat.le_refl _) _, by simpa [World.setCell] using hs3⟩
        case measure => simp [intOf]; omega
    · obtain rfl : k = p := by omega
      clear hst
      obtain ⟨c0, c1, z0, z1, r0, r1, y0, y1⟩ := H
      go_wp2
      refine bodyPost_ret (v := .agg #[.int .i64 _, .int .u64 _]) ?_ rfl ⟨rfl, ?_⟩
      · rw [results_cell rfl]; go_simp
      · exact (hB.setCell (by simp) _).setCell (by simp) _

theorem plR_true {n : Int} : plR n = true ↔ 0 ≤ n ∧ n ≤ 9 := by unfold plR; simp

set_option maxRecDepth 100000 in
set_option maxHeartbeats 4000000 in
/-- Scale answers what the chapter says. -/
theorem val_scale (n f t : Int) (hn : -9223372036854775808 ≤ n ∧ n ≤ 9223372036854775807) (w : World) :
    Calls Tryd.prog 13 #[.int .i64 n, .int .i64 f, .int .i64 t] w fun e w' => e = .returned (.tuple #[.int .i64 (scaleV n f t).1, .int .i64 (scaleV n f t).2]) ∧ Below w.heap.size w w' := by
  by_cases hc : 0 ≤ f ∧ f ≤ 9 ∧ f ≤ t ∧ t ≤ 9
  · have hv : scaleV n f t = fitN (n * 10 ^ (t - f).toNat) := by unfold scaleV; rw [if_pos hc]
    rw [hv]
    obtain ⟨p, hp⟩ : ∃ p : Nat, (p : Int) = t - f := ⟨(t - f).toNat, by omega⟩
    have e : (t - f).toNat = p := by omega
    rw [e]
    have c2 := fun w => w_scaled n p (by omega) w
    have hb := mul_pow_bd p (by omega) hn
    have c3 := fun w => w_narrow (n * 10 ^ p) ⟨by omega, by omega⟩ w
    have c1 := fun w => w_widen n hn w
    have k1 : plR f = true := plR_true.2 ⟨hc.1, by omega⟩
    have k2 : plR t = true := plR_true.2 ⟨by omega, hc.2.2.2⟩
    have k3 : ¬ t < f := by omega
    generalize fitN (n * 10 ^ p) = r at *
    generalize n * 10 ^ p = v at *
    obtain ⟨r1, r2⟩ := r
    rw [hp] at c2
    obtain ⟨g1, g2, g3, g4⟩ := hc
    clear hp e hv hb
    go_enter Tryd.func13, Tryd.ntmps13
    go_wp2_with (first
      | (go_at_call 31; (with_reducible refine (val_places _ _).mono ?_); rintro e w1 ⟨rfl, rfl⟩)
      | (go_at_call 32; (with_reducible refine (c1 _).mono ?_); rintro e w1 ⟨rfl, hb1⟩)
      | (go_at_call 33; (with_reducible refine (c2 _).mono ?_); rintro e w2 ⟨rfl, hb2⟩; have hB2 := bt hb1 hb2)
      | (go_at_call 34; (with_reducible refine (c3 _).mono ?_); rintro e w3 ⟨rfl, hb3⟩; have hB3 := bt hB2 hb3))
    go_ret2
    exact ⟨rfl, hB3⟩
  · have hv : scaleV n f t = (0, 1) := by unfold scaleV; rw [if_neg hc]
    rw [hv]
    have hk : plR f = true → plR t = true → t < f := fun h1 h2 => by
      have := plR_true.1 h1; have := plR_true.1 h2; omega
    clear hv hc
    cases h1 : plR f <;> cases h2 : plR t
    all_goals
      first | (have h3 := hk h1 h2; clear hk) | clear hk
      go_enter Tryd.func13, Tryd.ntmps13
      go_wp2_with (go_at_call 31; (with_reducible refine (val_places _ _).mono ?_); rintro e w1 ⟨rfl, rfl⟩)
      go_ret2
      exact ⟨rfl, Below.refl _ _⟩
end Go.Proofs.YtfjoobopfjahcaaDoor
