/-
  Package num's own parts: the quotient, and the rest, of two numbers, walked. Contracts that the proofs call; no statement is proved here.
-/
import Derived.Test.YtfbgejgapdpjcaaDoorNumHolds
namespace Go.Proofs.YtfbgejgapdpjcaaDoor
open Go.RowKit

theorem ret_val {k : IntKind} {a b e : Int} (h : a = b) : Ending.returned (.tuple #[.int k a, .int .i64 e]) = .returned (.tuple #[.int k b, .int .i64 e]) := by rw [h]
theorem cdiv_bd {x y n : Int} (hx : -n ≤ x ∧ x < n) (ho : ¬ (x = -n ∧ y = -1)) : -n ≤ x.tdiv y ∧ x.tdiv y < n := by
  have hQ : (x.tdiv y).natAbs ≤ x.natAbs := by rw [Int.natAbs_tdiv]; exact Nat.div_le_self _ _
  by_cases hm : x = -n
  · have hy : y ≠ -1 := fun hy => ho ⟨hm, hy⟩
    by_cases h1 : y = 1
    · subst h1; rw [Int.tdiv_one]; omega
    · by_cases h0 : y = 0
      · subst h0; rw [Int.tdiv_zero]; omega
      · by_cases hx0 : x = 0
        · subst hx0; rw [Int.zero_tdiv]; omega
        · have hlt : (x.tdiv y).natAbs < x.natAbs := by rw [Int.natAbs_tdiv]; exact Nat.div_lt_self (by omega) (by omega)
          omega
  · omega
theorem cdiv_pos {x y : Int} (hx : x < 0) (hy : y < 0) : 0 ≤ x.tdiv y := by
  have h := Int.tdiv_nonneg (a := -x) (b := -y) (by omega) (by omega)
  rwa [Int.neg_tdiv_neg] at h
theorem cmod_bd {x y n : Int} (hx : -n ≤ x ∧ x < n) : -n ≤ x.tmod y ∧ x.tmod y < n := by
  have hn := Int.natAbs_tmod x y
  have hle : x.natAbs % y.natAbs ≤ x.natAbs := Nat.mod_le _ _
  by_cases h2 : x.tmod y = n
  · exfalso
    have := Int.tmod_nonneg (a := x) y
    by_cases h0 : 0 ≤ x
    · omega
    · have h3 : (-(-x)).tmod y = -((-x).tmod y) := Int.neg_tmod _ _
      have h4 := Int.tmod_nonneg (a := -x) y (by omega)
      rw [Int.neg_neg] at h3
      omega
  · omega

set_option maxHeartbeats 1000000 in
theorem code_divided32 (k a b : Int) (hk0 : 0 ≤ k) (hk1 : k ≤ 3) (ha0 : 0 ≤ a) (ha1 : a < 4294967296) (hb0 : 0 ≤ b) (hb1 : b < 4294967296) (w : World) :
    Calls Tryd.prog 51 #[.int .i64 (k + 3), .int .u32 a, .int .u32 b] w fun e w' => e = .returned (.tuple #[.int .u32 (dvd k 32 a b).1, .int .i64 (dvd k 32 a b).2]) ∧ w = w' := by
  by_cases hz : b = 0
  · subst hz
    have e : dvd k 32 a 0 = (0, 6) := by simp [dvd]
    rw [e]
    (go_enter Tryd.func51, Tryd.ntmps51; go_wp2; all_goals go_ret2)
    exact ⟨rfl, rfl⟩
  have hzb : (b == 0) = false := by simp [hz]
  have ru := Int.emod_lt_of_pos a (show 0 < b by omega)
  have ru0 := Int.emod_nonneg a hz
  have qu := Int.ediv_le_self (a := a) b ha0
  have qu0 := Int.ediv_nonneg ha0 hb0
  have sa := wrap32_sgn ha0 ha1
  have sb := wrap32_sgn hb0 hb1
  have hsz : sgnv 32 b ≠ 0 := by unfold sgnv; split <;> omega
  have hszb : (sgnv 32 b == 0) = false := by simp [hsz]
  have hab : -2147483648 ≤ sgnv 32 a ∧ sgnv 32 a < 2147483648 := by unfold sgnv; split <;> omega
  have hbb : -2147483648 ≤ sgnv 32 b ∧ sgnv 32 b < 2147483648 := by unfold sgnv; split <;> omega
  obtain rfl | rfl | rfl | rfl : k = 0 ∨ k = 1 ∨ k = 2 ∨ k = 3 := by omega
  · by_cases ho : sgnv 32 a = -2147483648 ∧ sgnv 32 b = -1
    · obtain rfl : a = 2147483648 := by have := ho.1; unfold sgnv at this; split at this <;> omega
      obtain rfl : b = 4294967295 := by have := ho.2; unfold sgnv at this; split at this <;> omega
      clear sa sb hsz hszb hab hbb ru ru0 qu qu0 hz hzb
      have e : dvd 0 32 2147483648 4294967295 = (0, 6) := by decide +kernel
      rw [e]
      have f1 : wrap32 2147483648 = -2147483648 := by decide +kernel
      have f2 : wrap32 4294967295 = -1 := by decide +kernel
      have f3 : IntKind.i32.wrap (Int.tdiv (-2147483648) (-1)) = -2147483648 := by decide +kernel
      (go_enter Tryd.func51, Tryd.ntmps51; go_wp2; all_goals go_ret2)
      all_goals exact ⟨by first | rfl | exact ret_val (by omega), rfl⟩
    · have e : dvd 0 32 a b = ((sgnv 32 a).tdiv (sgnv 32 b) % 4294967296, 0) := by
        unfold dvd; rw [if_neg hz, if_pos rfl]; exact if_neg ho
      rw [e]
      have hq := cdiv_bd (n := 2147483648) hab ho
      have hp := @cdiv_pos (sgnv 32 a) (sgnv 32 b)
      generalize sgnv 32 a = x at *
      generalize sgnv 32 b = y at *
      (go_enter Tryd.func51, Tryd.ntmps51; go_wp2; all_goals go_ret2)
      all_goals exact ⟨by first | rfl | exact ret_val (by omega), rfl⟩
  · have e : dvd 1 32 a b = (a / b, 0) := by unfold dvd; rw [if_neg hz]; rfl
    rw [e]
    (go_enter Tryd.func51, Tryd.ntmps51; go_wp2; all_goals go_ret2)
    all_goals exact ⟨by first | rfl | exact ret_val (by omega), rfl⟩
  · have e : dvd 2 32 a b = ((sgnv 32 a).tmod (sgnv 32 b) % 4294967296, 0) := by
      unfold dvd; rw [if_neg hz, if_neg (by decide), if_neg (by decide), if_pos rfl]
      split
      · rename_i h1; rw [h1, Int.tmod_neg, Int.tmod_one]; rfl
      · rfl
    rw [e]
    have hq := cmod_bd (y := sgnv 32 b) (n := 2147483648) hab
    generalize sgnv 32 a = x at *
    generalize sgnv 32 b = y at *
    (go_enter Tryd.func51, Tryd.ntmps51; go_wp2; all_goals go_ret2)
    all_goals exact ⟨by first | rfl | exact ret_val (by omega), rfl⟩
  · have e : dvd 3 32 a b = (a % b, 0) := by unfold dvd; rw [if_neg hz]; rfl
    rw [e]
    (go_enter Tryd.func51, Tryd.ntmps51; go_wp2; all_goals go_ret2)
    all_goals exact ⟨by first | rfl | exact ret_val (by omega), rfl⟩

set_option maxHeartbeats 1000000 in
theorem code_divided64 (k a b : Int) (hk0 : 0 ≤ k) (hk1 : k ≤ 3) (ha0 : 0 ≤ a) (ha1 : a < 18446744073709551616) (hb0 : 0 ≤ b) (hb1 : b < 18446744073709551616) (w : World) :
    Calls Tryd.prog 53 #[.int .i64 (k + 3), .int .u64 a, .int .u64 b] w fun e w' => e = .returned (.tuple #[.int .u64 (dvd k 64 a b).1, .int .i64 (dvd k 64 a b).2]) ∧ w = w' := by
  by_cases hz : b = 0
  · subst hz
    have e : dvd k 64 a 0 = (0, 6) := by simp [dvd]
    rw [e]
    (go_enter Tryd.func53, Tryd.ntmps53; go_wp2; all_goals go_ret2)
    exact ⟨rfl, rfl⟩
  have hzb : (b == 0) = false := by simp [hz]
  have ru := Int.emod_lt_of_pos a (show 0 < b by omega)
  have ru0 := Int.emod_nonneg a hz
  have qu := Int.ediv_le_self (a := a) b ha0
  have qu0 := Int.ediv_nonneg ha0 hb0
  have sa := wrap64_sgn ha0 ha1
  have sb := wrap64_sgn hb0 hb1
  have hsz : sgnv 64 b ≠ 0 := by unfold sgnv; split <;> omega
  have hszb : (sgnv 64 b == 0) = false := by simp [hsz]
  have hab : -9223372036854775808 ≤ sgnv 64 a ∧ sgnv 64 a < 9223372036854775808 := by unfold sgnv; split <;> omega
  have hbb : -9223372036854775808 ≤ sgnv 64 b ∧ sgnv 64 b < 9223372036854775808 := by unfold sgnv; split <;> omega
  obtain rfl | rfl | rfl | rfl : k = 0 ∨ k = 1 ∨ k = 2 ∨ k = 3 := by omega
  · by_cases ho : sgnv 64 a = -9223372036854775808 ∧ sgnv 64 b = -1
    · obtain rfl : a = 9223372036854775808 := by have := ho.1; unfold sgnv at this; split at this <;> omega
      obtain rfl : b = 18446744073709551615 := by have := ho.2; unfold sgnv at this; split at this <;> omega
      clear sa sb hsz hszb hab hbb ru ru0 qu qu0 hz hzb
      have e : dvd 0 64 9223372036854775808 18446744073709551615 = (0, 6) := by decide +kernel
      rw [e]
      have f1 : wrap64 9223372036854775808 = -9223372036854775808 := by decide +kernel
      have f2 : wrap64 18446744073709551615 = -1 := by decide +kernel
      have f3 : IntKind.i64.wrap (Int.tdiv (-9223372036854775808) (-1)) = -9223372036854775808 := by decide +kernel
      (go_enter Tryd.func53, Tryd.ntmps53; go_wp2; all_goals go_ret2)
      all_goals exact ⟨by first | rfl | exact ret_val (by omega), rfl⟩
    · have e : dvd 0 64 a b = ((sgnv 64 a).tdiv (sgnv 64 b) % 18446744073709551616, 0) := by
        unfold dvd; rw [if_neg hz, if_pos rfl]; exact if_neg ho
      rw [e]
      have hq := cdiv_bd (n := 9223372036854775808) hab ho
      have hp := @cdiv_pos (sgnv 64 a) (sgnv 64 b)
      generalize sgnv 64 a = x at *
      generalize sgnv 64 b = y at *
      (go_enter Tryd.func53, Tryd.ntmps53; go_wp2; all_goals go_ret2)
      all_goals exact ⟨by first | rfl | exact ret_val (by omega), rfl⟩
  · have e : dvd 1 64 a b = (a / b, 0) := by unfold dvd; rw [if_neg hz]; rfl
    rw [e]
    (go_enter Tryd.func53, Tryd.ntmps53; go_wp2; all_goals go_ret2)
    all_goals exact ⟨by first | rfl | exact ret_val (by omega), rfl⟩
  · have e : dvd 2 64 a b = ((sgnv 64 a).tmod (sgnv 64 b) % 18446744073709551616, 0) := by
      unfold dvd; rw [if_neg hz, if_neg (by decide), if_neg (by decide), if_pos rfl]
      split
      · rename_i h1; rw [h1, Int.tmod_neg, Int.tmod_one]; rfl
      · rfl
    rw [e]
    have hq := cmod_bd (y := sgnv 64 b) (n := 9223372036854775808) hab
    generalize sgnv 64 a = x at *
    generalize sgnv 64 b = y at *
    (go_enter Tryd.func53, Tryd.ntmps53; go_wp2; all_goals go_ret2)
    all_goals exact ⟨by first | rfl | exact ret_val (by omega), rfl⟩
  · have e : dvd 3 64 a b = (a % b, 0) := by unfold dvd; rw [if_neg hz]; rfl
    rw [e]
    (go_enter Tryd.func53, Tryd.ntmps53; go_wp2; all_goals go_ret2)
    all_goals exact ⟨by first | rfl | exact ret_val (by omega), rfl⟩
end Go.Proofs.YtfbgejgapdpjcaaDoor
