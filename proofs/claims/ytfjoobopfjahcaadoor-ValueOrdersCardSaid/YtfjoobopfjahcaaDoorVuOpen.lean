/-
  A type and a value that a statement is given, opened. No statement is proved here.
-/
import Derived.Test.YtfjoobopfjahcaaDoorVuTy
import Derived.OpenShut
import Derived.Lib.SmallJoins
namespace Go.Proofs.YtfjoobopfjahcaaDoor
set_option linter.unusedVariables false
open Go.Joins Go.ChangeShapes Go.WideShapes Go.ChangeAt Go.RowKit

set_option maxRecDepth 100000 in
theorem open_type {H : Type} {enc : TypeId × Value → H} {W : World} {base : Nat} {sp : Nat → Bool} {held : Bool} {r : Reach} {b0 : Nat} {v : Value} {d : DataW H} {p : List MemPlace} (hv : Value.okWide Tryd.prog W r b0 23 v) (h : DataW.Trod enc Tryd.prog W base sp held 23 v d p) :
    ∃ k s, v = .agg #[.int .i64 k, .int .i64 s] ∧ (-9223372036854775808 ≤ k ∧ k ≤ 9223372036854775807) ∧ (-9223372036854775808 ≤ s ∧ s ≤ 9223372036854775807) := by
  obtain ⟨c0, c1, y0, y1, m, rfl, _, _, h0, h1⟩ := open_agg2 Tryd.underlying23 (by kernel_rfl) (by kernel_rfl) hv h
  obtain ⟨k, e0, _, g0⟩ := DataW.trod_int Tryd.underlying3 h0
  obtain ⟨s, e1, _, g1⟩ := DataW.trod_int Tryd.underlying3 h1
  simp only [List.cons.injEq, and_true] at e0 e1
  subst e0 e1
  exact ⟨k, s, rfl, bounds_i64 g0, bounds_i64 g1⟩
set_option maxRecDepth 100000 in
theorem open_value {H : Type} {enc : TypeId × Value → H} {W : World} {base : Nat} {sp : Nat → Bool} {held : Bool} {r : Reach} {b0 : Nat} {v : Value} {d : DataW H} {p : List MemPlace} (hv : Value.okWide Tryd.prog W r b0 25 v) (h : DataW.Trod enc Tryd.prog W base sp held 25 v d p) :
    ∃ u n z, v = .agg #[.bool u, .int .i64 n, .string z] ∧ (-9223372036854775808 ≤ n ∧ n ≤ 9223372036854775807) ∧ z.size ≤ maxLen := by
  obtain ⟨c0, c1, c2, y0, y1, y2, m, rfl, _, _, h0, h1, h2⟩ := open_agg3 Tryd.underlying25 (by kernel_rfl) (by kernel_rfl) hv h
  obtain ⟨u, e0, _⟩ := DataW.trod_bool Tryd.underlying4 h0
  obtain ⟨n, e1, _, g1⟩ := DataW.trod_int Tryd.underlying2 h1
  obtain ⟨z, e2, _, g2⟩ := DataW.trod_string Tryd.underlying9 h2
  simp only [List.cons.injEq, and_true] at e0 e1 e2
  subst e0 e1 e2
  exact ⟨u, n, z, rfl, bounds_i64 g1, g2⟩
end Go.Proofs.YtfjoobopfjahcaaDoor
