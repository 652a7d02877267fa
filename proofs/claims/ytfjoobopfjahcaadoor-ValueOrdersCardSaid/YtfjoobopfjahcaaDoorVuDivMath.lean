/-
  What Arith answers of whole numbers, and of numbers of two scales. No program is looked at.
-/
import Derived.Test.YtfjoobopfjahcaaDoorVuArith
namespace Go.Proofs.YtfjoobopfjahcaaDoor
set_option linter.unusedVariables false
open Go.RowKit

theorem fit_num (p n : Int) (h : 0 ≤ p ∧ p ≤ 9) : fitV (kindOf p) p true false n ⟨#[]⟩ = true := by
  unfold fitV kindOf
  have he : (⟨#[]⟩ : ByteArray).toList.isEmpty = true := by decide +kernel
  rw [he]
  have ht : tyR (if p = 0 then 1 else 2) p = true := tyR_true.2 (by split <;> omega)
  rw [ht]
  by_cases hp : p = 0 <;> simp [hp]
theorem num_num (p : Int) : numK (kindOf p) = true := by unfold numK kindOf; split <;> rfl
theorem tyR_kind (p : Int) (h : 0 ≤ p ∧ p ≤ 9) : tyR (kindOf p) p = true := by unfold kindOf; exact tyR_true.2 (by split <;> omega)
theorem arS_num (op p q : Int) (hp : 0 ≤ p ∧ p ≤ 9) (hq : 0 ≤ q ∧ q ≤ 9) : arS op (kindOf p) p (kindOf q) q = scaleOf op p q := by
  unfold arS
  rw [if_pos (by rw [num_num, num_num, tyR_kind p hp, tyR_kind q hq]; rfl)]
theorem arV_num {op p q M a b : Int} (hp : 0 ≤ p ∧ p ≤ 9) (hq : 0 ≤ q ∧ q ≤ 9) (hM : scaleOf op p q = M) (h : ¬ M < 0) : arV op false a ⟨#[]⟩ false b ⟨#[]⟩ (kindOf p) p (kindOf q) q =
    if op = 43 ∨ op = 45 then (if (room (a * 10 ^ (M - p).toNat) && room (b * 10 ^ (M - q).toNat)) = true then (false, reck op (a * 10 ^ (M - p).toNat) (b * 10 ^ (M - q).toNat)) else (false, 0, 11)) else (false, reck op a b) :=
  arV_rec ((arS_num op p q hp hq).trans hM) h (by rw [fit_num p a hp, fit_num q b hq]; rfl)
theorem arV_div (a b : Int) : arV 47 false a ⟨#[]⟩ false b ⟨#[]⟩ 1 0 1 0 = (false, reck 47 a b) := by
  have := arV_num (op := 47) (p := 0) (q := 0) (M := 0) (a := a) (b := b) (by omega) (by omega) (by decide) (by omega)
  rw [show kindOf 0 = 1 from rfl] at this
  rw [this, if_neg (by omega)]
theorem arV_mul (a b : Int) : arV 42 false a ⟨#[]⟩ false b ⟨#[]⟩ 1 0 1 0 = (false, fitN (a * b)) := by
  have := arV_num (op := 42) (p := 0) (q := 0) (M := 0) (a := a) (b := b) (by omega) (by omega) (by decide) (by omega)
  rw [show kindOf 0 = 1 from rfl] at this
  rw [this, if_neg (by omega)]
  rfl
theorem arV_sub (a b : Int) (ha : room a = true) (hb : room b = true) : arV 45 false a ⟨#[]⟩ false b ⟨#[]⟩ 1 0 1 0 = (false, fitN (a - b)) := by
  have := arV_num (op := 45) (p := 0) (q := 0) (M := 0) (a := a) (b := b) (by omega) (by omega) (by decide) (by omega)
  rw [show kindOf 0 = 1 from rfl] at this
  rw [this, if_pos (by omega)]
  simp only [Int.sub_self, Int.toNat_zero, Int.pow_zero, Int.mul_one]
  rw [ha, hb, if_pos (show (true && true) = true from rfl)]
  rfl

theorem tmod_in {x b : Int} (h : 0 ≤ x) : 0 ≤ x.tmod b ∧ x.tmod b ≤ x := by
  refine ⟨Int.tmod_nonneg b h, ?_⟩
  have e : (x.tmod b).natAbs = x.natAbs % b.natAbs := Int.natAbs_tmod x b
  have := Nat.mod_le x.natAbs b.natAbs
  have := Int.tmod_nonneg b h
  omega
theorem div_facts (a b : Int) (ha : -9223372036854775808 ≤ a ∧ a ≤ 9223372036854775807) (hb0 : b ≠ 0) (hm : ¬ (a = -9223372036854775808 ∧ b = -1)) :
    room (a.tdiv b) = true ∧ room (a.tdiv b * b) = true ∧ room (a - a.tdiv b * b) = true ∧ a - a.tdiv b * b = a.tmod b := by
  have hr : a - a.tdiv b * b = a.tmod b := by rw [Int.tmod_def, Int.mul_comm]
  have hmod : (0 ≤ a → 0 ≤ a.tmod b ∧ a.tmod b ≤ a) ∧ (a ≤ 0 → a ≤ a.tmod b ∧ a.tmod b ≤ 0) := by
    refine ⟨tmod_in, fun h => ?_⟩
    have := tmod_in (x := -a) (b := b) (by omega)
    rw [Int.neg_tmod] at this
    omega
  have hd : (a.tdiv b).natAbs = a.natAbs / b.natAbs := Int.natAbs_tdiv a b
  have hq : -9223372036854775808 ≤ a.tdiv b ∧ a.tdiv b ≤ 9223372036854775807 := by
    by_cases h1 : b = 1
    · subst h1; rw [Int.tdiv_one]; exact ha
    · by_cases h2 : b = -1
      · subst h2; rw [Int.tdiv_neg, Int.tdiv_one]; omega
      · have hb2 : 2 ≤ b.natAbs := by omega
        have := Nat.div_le_div_left (a := a.natAbs) hb2 (by omega)
        omega
  refine ⟨room_true.2 hq, room_true.2 ?_, room_true.2 ?_, hr⟩ <;> omega
end Go.Proofs.YtfjoobopfjahcaaDoor
