/-
  Scaling twice is scaling once: on Lean's numbers. No program is looked at.
-/
import Derived.Test.YtfjoobopfjahcaaDoorVuDivMath
import Derived.Test.YtfjoobopfjahcaaDoorVuCmp
namespace Go.Proofs.YtfjoobopfjahcaaDoor
set_option linter.unusedVariables false
open Go.RowKit

theorem pow_add10 {x y z : Int} (h : x ≤ y ∧ y ≤ z) : (10 : Int) ^ (y - x).toNat * 10 ^ (z - y).toNat = 10 ^ (z - x).toNat := by
  rw [← Int.pow_add, show (y - x).toNat + (z - y).toNat = (z - x).toNat by omega]
theorem room_less {m c : Int} (hc : 1 ≤ c) (h : room (m * c) = true) : room m = true := by
  have h' := room_true.1 h
  refine room_true.2 ?_
  by_cases hm : 0 ≤ m
  · have := Int.mul_le_mul_of_nonneg_left hc hm
    rw [Int.mul_one] at this
    omega
  · have := Int.mul_le_mul_of_nonneg_left hc (show 0 ≤ -m by omega)
    rw [Int.mul_one, Int.neg_mul] at this
    omega
/-- The three answers of Scale, from x to z, from x to y, from y to z: all are right and the same, or the first is refused, and one of the others, too. -/
theorem scale_three (n : Int) {x y z : Int} (h0 : 0 ≤ x) (h : x ≤ y ∧ y ≤ z) (hz : z ≤ 9) :
    (∃ m p, scaleV n x z = (p, 0) ∧ scaleV n x y = (m, 0) ∧ scaleV m y z = (p, 0) ∧ n * 10 ^ (z - x).toNat = p ∧ room m = true ∧ room p = true) ∨
    (scaleV n x z = (0, 11) ∧ scaleV n x y = (0, 11) ∧ scaleV 0 y z = (0, 0)) ∨
    (∃ m, scaleV n x z = (0, 11) ∧ scaleV n x y = (m, 0) ∧ room m = true ∧ scaleV m y z = (0, 11)) := by
  have e1 : scaleV n x z = fitN (n * 10 ^ (z - x).toNat) := by unfold scaleV; rw [if_pos (by omega)]
  have e2 : scaleV n x y = fitN (n * 10 ^ (y - x).toNat) := by unfold scaleV; rw [if_pos (by omega)]
  have e3 : ∀ m, scaleV m y z = fitN (m * 10 ^ (z - y).toNat) := fun m => by unfold scaleV; rw [if_pos (by omega)]
  have hp : n * 10 ^ (y - x).toNat * 10 ^ (z - y).toNat = n * 10 ^ (z - x).toNat := by rw [Int.mul_assoc, pow_add10 h]
  have hc : (1 : Int) ≤ 10 ^ (z - y).toNat := Int.pow_pos (by decide)
  rw [e1, e2]
  cases hr : room (n * 10 ^ (z - x).toNat)
  · refine Or.inr ?_
    cases hq : room (n * 10 ^ (y - x).toNat)
    · exact Or.inl ⟨fitN_no hr, fitN_no hq, by rw [e3, Int.zero_mul]; rfl⟩
    · exact Or.inr ⟨_, fitN_no hr, fitN_yes hq, hq, by rw [e3, hp, fitN_no hr]⟩
  · have hq := room_less hc (by rw [hp]; exact hr)
    exact Or.inl ⟨_, _, fitN_yes hr, fitN_yes hq, by rw [e3, hp, fitN_yes hr], rfl, hq, hr⟩

theorem cmpV_nums (a b : Int) {p q : Int} (hp : 0 ≤ p ∧ p ≤ 9) (hq : 0 ≤ q ∧ q ≤ 9) : cmpV false a ⟨#[]⟩ false b ⟨#[]⟩ (kindOf p) p (kindOf q) q = (cmpI (a * 10 ^ q.toNat) (b * 10 ^ p.toNat), true) := by
  have hf : ∀ (n s : Int), 0 ≤ s ∧ s ≤ 9 → fitV (kindOf s) s false false n ⟨#[]⟩ = true := fun n s hs => by
    have := fit_num s n hs
    unfold fitV at this ⊢
    simpa using this
  exact cmpV_num (by rw [hf a p hp, hf b q hq]; rfl) (by rw [num_num, num_num]; rfl)
theorem cmp_scaled (n : Int) {x z p : Int} (h0 : 0 ≤ x) (h : x ≤ z) (hz : z ≤ 9) (hp : n * 10 ^ (z - x).toNat = p) : cmpV false n ⟨#[]⟩ false p ⟨#[]⟩ (kindOf x) x (kindOf z) z = (0, true) := by
  rw [cmpV_nums n p (by omega) (by omega), ← hp, Int.mul_assoc, ← Int.pow_add, show (z - x).toNat + x.toNat = z.toNat by omega, cmpI_self]
theorem steps_in {x b : Int} (hx : 0 ≤ x ∧ x ≤ 9) (hb : 0 ≤ b) : x ≤ x + b % (10 - x) ∧ x + b % (10 - x) ≤ 9 := by
  have h1 := Int.emod_nonneg b (show 10 - x ≠ 0 by omega)
  have h2 := Int.emod_lt_of_pos b (show 0 < 10 - x by omega)
  omega
end Go.Proofs.YtfjoobopfjahcaaDoor
