/-
  The document's own answer to chapter 10, walked: types, truths, order. Contracts that the proofs call; no statement is proved here.
-/
import Derived.Test.YtfjoobopfjahcaaDoorVuTy
namespace Go.Proofs.YtfjoobopfjahcaaDoor
open Go.RowKit

set_option maxHeartbeats 1000000 in
theorem ref_ty (k s : Int) (w : World) : Calls Tryd.prog 16 #[.agg #[.int .i64 k, .int .i64 s]] w fun e w' => e = .returned (.bool (tyR k s)) ∧ Below w.heap.size w w' := by
  go_enter Tryd.func16, Tryd.ntmps16
  go_wp2
  all_goals
    go_ret
    exact ⟨ret_bool (by unfold tyR; rw [Bool.eq_iff_iff]; simp_all; try omega), (Below.refl _ _).alloc (Nat.le_refl _) _⟩
set_option maxHeartbeats 1000000 in
theorem ref_number (k s : Int) (w : World) : Calls Tryd.prog 29 #[.agg #[.int .i64 k, .int .i64 s]] w fun e w' => e = .returned (.bool (numK k)) ∧ Below w.heap.size w w' := by
  go_enter Tryd.func29, Tryd.ntmps29
  go_wp2
  all_goals
    go_ret
    exact ⟨ret_bool (by unfold numK; simp_all), (Below.refl _ _).alloc (Nat.le_refl _) _⟩
set_option maxHeartbeats 1000000 in
theorem ref_typed (s : Int) (w : World) : Calls Tryd.prog 30 #[.int .i64 s] w fun e w' => e = .returned (.agg #[.int .i64 (kindOf s), .int .i64 s]) ∧ Below w.heap.size w w' := by
  by_cases h : s = 0
  · subst h
    go_enter Tryd.func30, Tryd.ntmps30
    go_wp2
    refine bodyPost_ret (v := .agg #[.int .i64 _, .int .i64 _]) ?_ rfl ⟨rfl, ?_⟩
    · rw [results_cell rfl]; go_simp; try decide
    · exact (Below.refl _ _).alloc (Nat.le_refl _) _
  · have h2 : (s == 0) = false := by simpa using h
    go_enter Tryd.func30, Tryd.ntmps30
    go_wp2
    refine bodyPost_ret (v := .agg #[.int .i64 _, .int .i64 _]) ?_ rfl ⟨rfl, ?_⟩
    · rw [results_cell rfl]; go_simp; unfold kindOf; rw [if_neg h]
    · exact (Below.refl _ _).alloc (Nat.le_refl _) _
end Go.Proofs.YtfjoobopfjahcaaDoor
