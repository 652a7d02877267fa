/-
  Package op: which codes have to do with floats: walked. A contract that the proofs call; no statement is proved here.
-/
import Derived.Shelf.Slices.Turned
import Derived.Shelf.SlicesE.IndexFunc
import Derived.Test.YthfipknfdnfalaaGreatDoorKaOpFields
import Derived.Test.YthfipknfdnfalaaGreatDoorKaOpRefFind
namespace Go.Proofs.YthfipknfdnfalaaGreatDoor
open Go.RowKit
set_option maxRecDepth 100000 in
set_option maxHeartbeats 4000000 in
theorem op_float (c : Int) (_ : -9223372036854775808 ≤ c) (_ : c ≤ 9223372036854775807) (w : World) : Calls Tryz.prog 148 #[.int .i64 c] w fun e w' => e = .returned (.bool (isFloat c)) ∧ Below w.heap.size w w' := by
  rcases (show c < 42 ∨ c = 42 ∨ c = 43 ∨ (43 < c ∧ c < 56) ∨ c = 56 ∨ c = 57 ∨ (57 < c ∧ c < 67) ∨ c = 67 ∨ c = 68 ∨ (68 < c ∧ c < 91) ∨ (91 ≤ c ∧ c ≤ 102) ∨ (102 < c ∧ c < 139) ∨ (139 ≤ c ∧ c ≤ 166) ∨ c = 167 ∨ (168 ≤ c ∧ c ≤ 171) ∨ (171 < c ∧ c < 174) ∨ (174 ≤ c ∧ c ≤ 191) ∨ 191 < c by omega) with h | rfl | rfl | h | rfl | rfl | h | rfl | rfl | h | h | h | h | rfl | h | h | h | h
  all_goals
    first
      | (have e : isFloat c = true := by simp only [isFloat, decide_eq_true_eq]; omega
         rw [e])
      | (have e : isFloat c = false := by simp only [isFloat, decide_eq_false_iff_not]; omega
         rw [e])
      | skip
    go_enter Tryz.func148, Tryz.ntmps148
    go_wp2
    go_ret
    exact ⟨by first | rfl | exact ret_bl (by simp; omega), Below.refl _ w⟩
end Go.Proofs.YthfipknfdnfalaaGreatDoor
