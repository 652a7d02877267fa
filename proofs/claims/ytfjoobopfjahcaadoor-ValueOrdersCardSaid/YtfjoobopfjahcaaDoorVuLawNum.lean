/-
  The type of numbers of a scale, as the statements of chapter 10 make it: walked. A contract that the proofs call; no statement is proved here.
-/
import Derived.Test.YtfjoobopfjahcaaDoorVuHead
import Derived.Test.YtfjoobopfjahcaaDoorVuDivMath
namespace Go.Proofs.YtfjoobopfjahcaaDoor
set_option linter.unusedVariables false
open Go.RowKit

set_option maxHeartbeats 2000000 in
theorem law_number (s p : Int) (h0 : 0 ≤ s) (h1 : s ≤ 255) (hp : s % 10 = p) (w : World) : Calls Tryd.prog 19 #[.int .u8 s] w fun e w' => e = .returned (.agg #[.int .i64 (kindOf p), .int .i64 p]) ∧ Below w.heap.size w w' := by
  have hw : IntKind.i64.wrap p = p := by rw [IntKind.wrap_i64]; omega
  by_cases h : p = 0
  · subst h
    rw [show kindOf 0 = 1 from rfl]
    go_enter Tryd.func19, Tryd.ntmps19
    go_wp2
    refine bodyPost_ret (v := .agg #[.int .i64 _, .int .i64 _]) ?_ rfl ⟨rfl, ?_⟩
    · rw [results_cell rfl]; go_simp
    · repeat (refine Below.setCell ?_ (by first | (simp; done) | (simp; omega)) _)
      exact b1
  · have hk : (p == 0) = false := by simpa using h
    have hkind : kindOf p = 2 := by unfold kindOf; rw [if_neg h]
    rw [hkind]
    go_enter Tryd.func19, Tryd.ntmps19
    go_wp2
    refine bodyPost_ret (v := .agg #[.int .i64 _, .int .i64 _]) ?_ rfl ⟨rfl, ?_⟩
    · rw [results_cell rfl]; go_simp
    · repeat (refine Below.setCell ?_ (by first | (simp; done) | (simp; omega)) _)
      exact b1
end Go.Proofs.YtfjoobopfjahcaaDoor
