/-
  Numbers of 128 bits by their halves, as package value keeps them. No program is looked at.
-/
import Derived.RowKit
namespace Go.Proofs.YtfjoobopfjahcaaDoor
open Go.RowKit

/-- The upper half, with a sign; the lower half. -/
def whi (v : Int) : Int := wrap64 (v / 18446744073709551616)
def wlo (v : Int) : Int := v % 18446744073709551616
theorem whi_bd (v : Int) : -9223372036854775808 ≤ whi v ∧ whi v ≤ 9223372036854775807 := by unfold whi wrap64; omega
theorem wlo_bd (v : Int) : 0 ≤ wlo v ∧ wlo v ≤ 18446744073709551615 := by unfold wlo; omega
theorem whi_neg {n : Int} (h0 : -9223372036854775808 ≤ n) (h : n < 0) : whi n = -1 := by unfold whi wrap64; omega
theorem whi_pos {n : Int} (h0 : 0 ≤ n) (h : n ≤ 9223372036854775807) : whi n = 0 := by unfold whi wrap64; omega
theorem wlo_pos {n : Int} (h0 : 0 ≤ n) (h : n ≤ 9223372036854775807) : wlo n = n := by unfold wlo; omega
theorem wlo_wrap (n : Int) : wrap64 (wlo n) = wrap64 n := by unfold wlo wrap64; omega

theorem plus_lo (a b : Int) : (wlo a + wlo b) % 18446744073709551616 = wlo (a + b) := by unfold wlo; omega
theorem plus_hi (a b : Int) : wrap64 (whi a + whi b + (wlo a + wlo b) / 18446744073709551616) = whi (a + b) := by unfold whi wlo wrap64; omega
theorem minus_lo (a b : Int) : (wlo a - wlo b) % 18446744073709551616 = wlo (a - b) := by unfold wlo; omega
theorem minus_hi (a b : Int) : wrap64 (whi a - whi b - (if wlo a < wlo b then 1 else 0)) = whi (a - b) := by unfold whi wlo wrap64; split <;> omega
theorem left1_lo (a : Int) : (wlo a * 2) % 18446744073709551616 = wlo (a * 2) := by unfold wlo; omega
theorem left1_hi (a : Int) : wrap64 (whi a * 2) + wlo a / 9223372036854775808 = whi (a * 2) := by unfold whi wlo wrap64; omega
theorem left3_lo (a : Int) : (wlo a * 8) % 18446744073709551616 = wlo (a * 8) := by unfold wlo; omega
theorem left3_hi (a : Int) : wrap64 (whi a * 8) + wlo a / 2305843009213693952 = whi (a * 8) := by unfold whi wlo wrap64; omega

/-- A number that has room in 128 bits is told by its halves. -/
theorem halves_eq {a b : Int} (ha : -170141183460469231731687303715884105728 ≤ a ∧ a ≤ 170141183460469231731687303715884105727) (hb : -170141183460469231731687303715884105728 ≤ b ∧ b ≤ 170141183460469231731687303715884105727) (h1 : whi a = whi b) (h2 : wlo a = wlo b) : a = b := by
  unfold whi wlo wrap64 at *; omega
theorem halves_lt {a b : Int} (ha : -170141183460469231731687303715884105728 ≤ a ∧ a ≤ 170141183460469231731687303715884105727) (hb : -170141183460469231731687303715884105728 ≤ b ∧ b ≤ 170141183460469231731687303715884105727) : a < b ↔ whi a < whi b ∨ whi a = whi b ∧ wlo a < wlo b := by
  unfold whi wlo wrap64 at *; omega

/-- A number that has no room in 64 bits has other halves than its lowest bits have. -/
theorem narrow_no {v : Int} (hv : -170141183460469231731687303715884105728 ≤ v ∧ v ≤ 170141183460469231731687303715884105727) (h : ¬ (-9223372036854775808 ≤ v ∧ v ≤ 9223372036854775807)) : whi v ≠ whi (wrap64 v) := by
  unfold whi wrap64 at *; omega
theorem narrow_lo (v : Int) : wlo v = wlo (wrap64 v) := by unfold wlo wrap64; omega

/-- A product's halves. -/
theorem prod_hi (a b : Int) (ha : -9223372036854775808 ≤ a ∧ a ≤ 9223372036854775807) (hb : -9223372036854775808 ≤ b ∧ b ≤ 9223372036854775807) :
    wrap64 (wlo a * wlo b / 18446744073709551616 - (if a < 0 then b else 0) - (if b < 0 then a else 0)) = whi (a * b) := by
  have ea : wlo a = a + (if a < 0 then 18446744073709551616 else 0) := by unfold wlo; split <;> omega
  have eb : wlo b = b + (if b < 0 then 18446744073709551616 else 0) := by unfold wlo; split <;> omega
  rw [ea, eb]
  by_cases h1 : a < 0 <;> by_cases h2 : b < 0
  all_goals
    simp only [h1, h2, if_true, if_false]
    first
      | rw [show (a + 18446744073709551616) * (b + 18446744073709551616) = a * b + (a + b + 18446744073709551616) * 18446744073709551616 by rw [Int.add_mul, Int.mul_add, Int.mul_add, Int.add_mul, Int.add_mul, Int.mul_comm 18446744073709551616 b]; omega]
      | rw [show (a + 18446744073709551616) * (b + 0) = a * b + b * 18446744073709551616 by rw [Int.add_zero, Int.add_mul, Int.mul_comm 18446744073709551616 b]]
      | rw [show (a + 0) * (b + 18446744073709551616) = a * b + a * 18446744073709551616 by rw [Int.add_zero, Int.mul_add]]
      | rw [Int.add_zero, Int.add_zero]
    generalize a * b = p
    unfold whi wrap64
    omega
theorem prod_lo (a b : Int) : wlo a * wlo b % 18446744073709551616 = wlo (a * b) := by
  unfold wlo; rw [← Int.mul_emod]

theorem pow_bd (p : Nat) (h : p ≤ 9) : 1 ≤ (10 : Int) ^ p ∧ (10 : Int) ^ p ≤ 1000000000 := by
  rcases (show p = 0 ∨ p = 1 ∨ p = 2 ∨ p = 3 ∨ p = 4 ∨ p = 5 ∨ p = 6 ∨ p = 7 ∨ p = 8 ∨ p = 9 by omega) with rfl | rfl | rfl | rfl | rfl | rfl | rfl | rfl | rfl | rfl <;> decide
theorem mul_pow_bd {n : Int} (p : Nat) (h : p ≤ 9) (hn : -9223372036854775808 ≤ n ∧ n ≤ 9223372036854775807) : -9223372036854775808000000000 ≤ n * 10 ^ p ∧ n * 10 ^ p ≤ 9223372036854775807000000000 := by
  rcases (show p = 0 ∨ p = 1 ∨ p = 2 ∨ p = 3 ∨ p = 4 ∨ p = 5 ∨ p = 6 ∨ p = 7 ∨ p = 8 ∨ p = 9 by omega) with rfl | rfl | rfl | rfl | rfl | rfl | rfl | rfl | rfl | rfl <;> simp <;> omega
theorem mul_bd {a b : Int} (ha : -9223372036854775808 ≤ a ∧ a ≤ 9223372036854775807) (hb : -9223372036854775808 ≤ b ∧ b ≤ 9223372036854775807) : -85070591730234615865843651857942052864 ≤ a * b ∧ a * b ≤ 85070591730234615865843651857942052864 := by
  have h : (a * b).natAbs ≤ 9223372036854775808 * 9223372036854775808 := by
    rw [Int.natAbs_mul]; exact Nat.mul_le_mul (by omega) (by omega)
  omega

/-- -1, 0, 1, as a is below b, is b, or above. -/
def cmpI (a b : Int) : Int := if a < b then -1 else if b < a then 1 else 0
theorem cmpI_turn (a b : Int) : cmpI a b = -cmpI b a := by unfold cmpI; split <;> split <;> omega
theorem cmpI_self (a : Int) : cmpI a a = 0 := by unfold cmpI; rw [if_neg (Int.lt_irrefl a), if_neg (Int.lt_irrefl a)]
theorem cmpI_zero {a b : Int} : cmpI a b = 0 ↔ a = b := by unfold cmpI; split <;> (try split) <;> omega
theorem cmpI_halves {a b : Int} (ha : -170141183460469231731687303715884105728 ≤ a ∧ a ≤ 170141183460469231731687303715884105727) (hb : -170141183460469231731687303715884105728 ≤ b ∧ b ≤ 170141183460469231731687303715884105727) :
    (if cmpI (whi a) (whi b) ≠ 0 then cmpI (whi a) (whi b) else cmpI (wlo a) (wlo b)) = cmpI a b := by
  have h1 := halves_lt ha hb
  have h2 := halves_lt hb ha
  unfold cmpI
  repeat' split
  all_goals omega
end Go.Proofs.YtfjoobopfjahcaaDoor
