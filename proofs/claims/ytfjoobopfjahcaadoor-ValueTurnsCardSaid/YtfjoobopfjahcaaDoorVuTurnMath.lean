/-
  Sums and products of numbers of two scales, turned: on Lean's numbers. No program is looked at.
-/
import Derived.Test.YtfjoobopfjahcaaDoorVuScaleMath
namespace Go.Proofs.YtfjoobopfjahcaaDoor
set_option linter.unusedVariables false
open Go.RowKit

theorem plus_num (a b : Int) {p q M : Int} (hp : 0 ≤ p ∧ p ≤ 9) (hq : 0 ≤ q ∧ q ≤ 9) (hM : max p q = M) : arV 43 false a ⟨#[]⟩ false b ⟨#[]⟩ (kindOf p) p (kindOf q) q =
    if (room (a * 10 ^ (M - p).toNat) && room (b * 10 ^ (M - q).toNat)) = true then (false, fitN (a * 10 ^ (M - p).toNat + b * 10 ^ (M - q).toNat)) else (false, 0, 11) := by
  have := arV_num (op := 43) (a := a) (b := b) hp hq (show scaleOf 43 p q = M from hM) (by omega)
  rw [this, if_pos (Or.inl rfl)]
  rfl
theorem plus_two (a b : Int) {p q M : Int} (hp : 0 ≤ p ∧ p ≤ 9) (hq : 0 ≤ q ∧ q ≤ 9) (hM : max p q = M) :
    (∃ S V, arV 43 false a ⟨#[]⟩ false b ⟨#[]⟩ (kindOf p) p (kindOf q) q = (false, S, 0) ∧ arV 43 false b ⟨#[]⟩ false a ⟨#[]⟩ (kindOf q) q (kindOf p) p = (false, S, 0) ∧ room S = true ∧ room V = true ∧
      arV 45 false S ⟨#[]⟩ false b ⟨#[]⟩ (kindOf M) M (kindOf q) q = (false, V, 0) ∧ cmpV false V ⟨#[]⟩ false a ⟨#[]⟩ (kindOf M) M (kindOf p) p = (0, true)) ∨
    (arV 43 false a ⟨#[]⟩ false b ⟨#[]⟩ (kindOf p) p (kindOf q) q = (false, 0, 11) ∧ arV 43 false b ⟨#[]⟩ false a ⟨#[]⟩ (kindOf q) q (kindOf p) p = (false, 0, 11)) := by
  have e1 := plus_num a b hp hq hM
  have e2 := plus_num b a hq hp (show max q p = M by omega)
  rw [Bool.and_comm, Int.add_comm] at e2
  cases hr : (room (a * 10 ^ (M - p).toNat) && room (b * 10 ^ (M - q).toNat))
  · rw [hr, if_neg (by simp)] at e1 e2
    exact Or.inr ⟨e1, e2⟩
  · rw [hr, if_pos rfl] at e1 e2
    simp only [Bool.and_eq_true] at hr
    cases hs : room (a * 10 ^ (M - p).toNat + b * 10 ^ (M - q).toNat)
    · rw [fitN_no hs] at e1 e2
      exact Or.inr ⟨e1, e2⟩
    · rw [fitN_yes hs] at e1 e2
      refine Or.inl ⟨_, a * 10 ^ (M - p).toNat, e1, e2, hs, hr.1, ?_, ?_⟩
      · have := arV_num (op := 45) (p := M) (q := q) (M := M) (a := a * 10 ^ (M - p).toNat + b * 10 ^ (M - q).toNat) (b := b) (by omega) hq (show scaleOf 45 M q = M by show max M q = M; omega) (by omega)
        rw [this, if_pos (Or.inr rfl), Int.sub_self, Int.toNat_zero, Int.pow_zero, Int.mul_one, hs, hr.2, if_pos (show (true && true) = true from rfl)]
        show (false, fitN (a * 10 ^ (M - p).toNat + b * 10 ^ (M - q).toNat - b * 10 ^ (M - q).toNat)) = _
        rw [Int.add_sub_cancel, fitN_yes hr.1]
      · rw [cmpV_nums _ _ (by omega) hp, Int.mul_assoc, ← Int.pow_add, show (M - p).toNat + p.toNat = M.toNat by omega, cmpI_self]
theorem times_two (a b : Int) {p q : Int} (hp : 0 ≤ p ∧ p ≤ 9) (hq : 0 ≤ q ∧ q ≤ 9) :
    ∃ R e, arV 42 false a ⟨#[]⟩ false b ⟨#[]⟩ (kindOf p) p (kindOf q) q = (false, R, e) ∧ arV 42 false b ⟨#[]⟩ false a ⟨#[]⟩ (kindOf q) q (kindOf p) p = (false, R, e) := by
  by_cases h : p + q ≤ 9
  · have s1 : scaleOf 42 p q = p + q := by unfold scaleOf; rw [if_neg (by omega), if_pos rfl, if_pos h]
    have s2 : scaleOf 42 q p = p + q := by unfold scaleOf; rw [if_neg (by omega), if_pos rfl, if_pos (by omega), Int.add_comm]
    have e1 := arV_num (a := a) (b := b) hp hq s1 (by omega)
    have e2 := arV_num (a := b) (b := a) hq hp s2 (by omega)
    rw [if_neg (by omega)] at e1 e2
    refine ⟨(reck 42 a b).1, (reck 42 a b).2, e1, e2.trans ?_⟩
    show (false, fitN (b * a)) = (false, fitN (a * b))
    rw [Int.mul_comm]
  · have s1 : arS 42 (kindOf p) p (kindOf q) q < 0 := by rw [arS_num 42 p q hp hq]; unfold scaleOf; rw [if_neg (by omega), if_pos rfl, if_neg h]; decide
    have s2 : arS 42 (kindOf q) q (kindOf p) p < 0 := by rw [arS_num 42 q p hq hp]; unfold scaleOf; rw [if_neg (by omega), if_pos rfl, if_neg (by omega)]; decide
    exact ⟨0, 4, arV_no s1, arV_no s2⟩
theorem cmp_two (a b : Int) {p q : Int} (hp : 0 ≤ p ∧ p ≤ 9) (hq : 0 ≤ q ∧ q ≤ 9) :
    ∃ c, cmpV false a ⟨#[]⟩ false b ⟨#[]⟩ (kindOf p) p (kindOf q) q = (c, true) ∧ cmpV false b ⟨#[]⟩ false a ⟨#[]⟩ (kindOf q) q (kindOf p) p = (-c, true) ∧ -1 ≤ c ∧ c ≤ 1 := by
  refine ⟨_, cmpV_nums a b hp hq, (cmpV_nums b a hq hp).trans (by rw [cmpI_turn]), ?_⟩
  unfold cmpI
  split
  · omega
  · split <;> omega
theorem arT_sum {p q M : Int} (hp : 0 ≤ p ∧ p ≤ 9) (hq : 0 ≤ q ∧ q ≤ 9) (hM : max p q = M) : arT 43 (kindOf p) p (kindOf q) q = (kindOf M, M, true) := by
  have h : arS 43 (kindOf p) p (kindOf q) q = M := (arS_num 43 p q hp hq).trans hM
  unfold arT
  rw [h, if_neg (by omega)]
end Go.Proofs.YtfjoobopfjahcaaDoor
