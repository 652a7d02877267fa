/-
  An order of values: on Lean's numbers and lists. No program is looked at.
-/
import Derived.Test.YtfjoobopfjahcaaDoorVuScaleMath
namespace Go.Proofs.YtfjoobopfjahcaaDoor
set_option linter.unusedVariables false
open Go.RowKit

theorem cb_range : ∀ a b : List UInt8, -1 ≤ Lib.compareBytes a b ∧ Lib.compareBytes a b ≤ 1
  | [], [] => by simp [Lib.compareBytes]
  | [], _ :: _ => by simp [Lib.compareBytes]
  | _ :: _, [] => by simp [Lib.compareBytes]
  | a :: l, b :: bs => by
    have := cb_range l bs
    unfold Lib.compareBytes
    split
    · omega
    · split <;> omega
theorem cb_turn : ∀ a b : List UInt8, Lib.compareBytes a b = -Lib.compareBytes b a
  | [], [] => by simp [Lib.compareBytes]
  | [], _ :: _ => by simp [Lib.compareBytes]
  | _ :: _, [] => by simp [Lib.compareBytes]
  | a :: l, b :: bs => by
    have := cb_turn l bs
    unfold Lib.compareBytes
    by_cases h1 : a < b
    · have h2 : ¬ b < a := by rw [UInt8.lt_iff_toNat_lt] at h1 ⊢; omega
      rw [if_pos h1, if_neg h2, if_pos h1]
    · by_cases h2 : b < a
      · rw [if_neg h1, if_pos h2, if_pos h2]; rfl
      · rw [if_neg h1, if_neg h2, if_neg h2, if_neg h1]; exact this
theorem cb_zero : ∀ {a b : List UInt8}, Lib.compareBytes a b = 0 ↔ a = b
  | [], [] => by simp [Lib.compareBytes]
  | [], _ :: _ => by simp [Lib.compareBytes]
  | _ :: _, [] => by simp [Lib.compareBytes]
  | a :: l, b :: bs => by
    have := @cb_zero l bs
    unfold Lib.compareBytes
    by_cases h1 : a < b
    · rw [if_pos h1]
      refine ⟨fun h => absurd h (by decide), fun h => ?_⟩
      rw [(List.cons.inj h).1] at h1
      exact absurd h1 (by rw [UInt8.lt_iff_toNat_lt]; omega)
    · by_cases h2 : b < a
      · rw [if_neg h1, if_pos h2]
        refine ⟨fun h => absurd h (by decide), fun h => ?_⟩
        rw [(List.cons.inj h).1] at h2
        exact absurd h2 (by rw [UInt8.lt_iff_toNat_lt]; omega)
      · rw [if_neg h1, if_neg h2, this]
        have hab : a = b := by rw [UInt8.lt_iff_toNat_lt] at h1 h2; exact UInt8.toNat_inj.1 (by omega)
        rw [hab]
        exact ⟨fun h => by rw [h], fun h => (List.cons.inj h).2⟩
theorem cb_trans : ∀ {a b c : List UInt8}, Lib.compareBytes a b ≤ 0 → Lib.compareBytes b c ≤ 0 → Lib.compareBytes a c ≤ 0
  | [], _, [], _, _ => by simp [Lib.compareBytes]
  | [], _, _ :: _, _, _ => by simp [Lib.compareBytes]
  | _ :: _, [], _, h, _ => by simp [Lib.compareBytes] at h
  | _ :: _, _ :: _, [], _, h => by simp [Lib.compareBytes] at h
  | a :: l, b :: bs, c :: cs, h1, h2 => by
    have ih := @cb_trans l bs cs
    unfold Lib.compareBytes at h1 h2 ⊢
    simp only [UInt8.lt_iff_toNat_lt] at h1 h2 ⊢
    split at h1
    · split at h2
      · rw [if_pos (by omega)]; decide
      · split at h2
        · omega
        · rw [if_pos (by omega)]; decide
    · split at h1
      · omega
      · split at h2
        · rw [if_pos (by omega)]; decide
        · split at h2
          · omega
          · rw [if_neg (by omega), if_neg (by omega)]; exact ih h1 h2
theorem cmpI_range (a b : Int) : -1 ≤ cmpI a b ∧ cmpI a b ≤ 1 := by
  unfold cmpI
  split
  · omega
  · split <;> omega
theorem cmpI_trans {a b c : Int} (h1 : cmpI a b ≤ 0) (h2 : cmpI b c ≤ 0) : cmpI a c ≤ 0 := by
  unfold cmpI at h1 h2 ⊢
  split
  · omega
  · split
    · exfalso
      split at h1
      · split at h2
        · omega
        · split at h2 <;> omega
      · split at h1
        · omega
        · split at h2
          · omega
          · split at h2 <;> omega
    · omega

/-- A comparison. -/
structure IsCmp {α : Type} (c : α → α → Int) : Prop where
  range : ∀ x y, -1 ≤ c x y ∧ c x y ≤ 1
  turn : ∀ x y, c x y = -c y x
  zero : ∀ x y, c x y = 0 ↔ x = y
  trans : ∀ x y z, c x y ≤ 0 → c y z ≤ 0 → c x z ≤ 0
theorem cmp_ints : IsCmp cmpI := ⟨cmpI_range, cmpI_turn, fun _ _ => cmpI_zero, fun _ _ _ => cmpI_trans⟩
theorem cmp_bytes : IsCmp cmpB := ⟨fun _ _ => cb_range _ _, fun _ _ => cb_turn _ _, fun x y => by
  unfold cmpB
  rw [cb_zero]
  exact ⟨fun h => Go.WideShapes.bytes_inj h, fun h => by rw [h]⟩, fun _ _ _ => cb_trans⟩

/-- An order: nothing stands first. -/
def ordO {α : Type} (c : α → α → Int) (ua : Bool) (x : α) (ub : Bool) (y : α) : Int := if (ua && ub) = true then 0 else if ua = true then -1 else if ub = true then 1 else c x y
theorem ordO_facts {α : Type} {c : α → α → Int} (hc : IsCmp c) (ua ub uc : Bool) (x y z : α) (hn : ua = true → ub = true → x = y) :
    (-1 ≤ ordO c ua x ub y ∧ ordO c ua x ub y ≤ 1) ∧ ordO c ub y ua x = -ordO c ua x ub y ∧ (0 < ordO c ua x ub y ∨ 0 < ordO c ub y uc z ∨ ordO c ua x uc z ≤ 0) ∧ (ordO c ua x ub y = 0 ↔ ua = ub ∧ x = y) ∧ (ua = true → ordO c ua x ub y ≤ 0) ∧ ordO c ua x ua x = 0 ∧ (-1 ≤ ordO c ub y uc z ∧ ordO c ub y uc z ≤ 1) ∧ (-1 ≤ ordO c ua x uc z ∧ ordO c ua x uc z ≤ 1) := by
  have r1 := hc.range x y
  have r2 := hc.range y z
  have r3 := hc.range x z
  have t1 := hc.turn x y
  have z1 := hc.zero x y
  have z2 := (hc.zero x x).2 rfl
  have tr := hc.trans x y z
  clear hc
  unfold ordO
  generalize c x y = d1 at *
  generalize c y x = d2 at *
  generalize c y z = d3 at *
  generalize c x z = d4 at *
  generalize c x x = d5 at *
  refine ⟨?_, ?_, ?_, ?_, ?_, ?_, ?_, ?_⟩ <;> cases ua <;> cases ub <;> cases uc <;> simp at hn ⊢ <;> first | done | omega | exact z1 | exact hn | (rw [z2]) | skip
end Go.Proofs.YtfjoobopfjahcaaDoor
