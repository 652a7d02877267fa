/-
  Facts and contracts that the proof calls.
-/
import Derived.Test.YtdinpakclmnacaaGreatDoorKfModOpen
import Derived.Test.YtdinpakclmnacaaGreatDoorKfModRight
namespace Go.Proofs.YtdinpakclmnacaaGreatDoor
set_option maxRecDepth 100000
set_option maxHeartbeats 16000000
open Go Go.ChangeShapes Go.WideShapes Go.ChangeAt Go.RowKit
section
variable {H : Type} {enc : TypeId × Value → H} {w : World}
theorem open_step {n : Nat} {cs : List Value} {y : DataW H × List MemPlace} (h : DataW.trod enc Tryz.prog w 0 (fun _ => true) true n 89 cs = some y) (hs : Small 89 y.1) : ∃ x : StepV, cs = StepV.row x ∧ ((0 ≤ x.kind ∧ x.kind < 256) ∧ (0 ≤ x.op ∧ x.op < 256) ∧ inI64 x.a) := by
  obtain ⟨hl, hf⟩ := open_fields Tryz.underlying89 (by kernel_rfl) (by kernel_rfl) h hs
  obtain ⟨c0, c1, c2, c3, rfl⟩ := list4 hl
  obtain ⟨x0, rfl, b0⟩ := open_u8 Tryz.underlying5 (hf 0 _ c0 rfl rfl)
  obtain ⟨x1, rfl, b1⟩ := open_i64 Tryz.underlying2 (hf 1 _ c1 rfl rfl)
  obtain ⟨x2, rfl, _⟩ := open_i64 Tryz.underlying2 (hf 2 _ c2 rfl rfl)
  obtain ⟨x3, rfl, b3⟩ := open_u8 Tryz.underlying5 (hf 3 _ c3 rfl rfl)
  exact ⟨⟨x0, x1, x2, x3⟩, rfl, b0, b3, b1⟩
theorem open_steps {v : Value} (h : Reads enc w 22 v) : ∃ p cap, ∃ l : List StepV, v = .slice p l.length cap ∧ StepsAt w p l ∧ l.length ≤ cap := by
  obtain ⟨m, y, h, hs⟩ := h
  obtain ⟨p, cap, l, rfl, hr, hi, hm, hc⟩ := open_rows (row := StepV.row) (ok := fun x => (0 ≤ x.kind ∧ x.kind < 256) ∧ (0 ≤ x.op ∧ x.op < 256) ∧ inI64 x.a) (c := 4) (by0 := 32) Tryz.underlying22 (by kernel_rfl) (by decide) (by kernel_rfl) open_step h hs
  exact ⟨p, cap, l, rfl, ⟨hr, hi, by unfold reachBytes at hm; unfold mostThings; omega⟩, hc⟩
end
end Go.Proofs.YtdinpakclmnacaaGreatDoor
