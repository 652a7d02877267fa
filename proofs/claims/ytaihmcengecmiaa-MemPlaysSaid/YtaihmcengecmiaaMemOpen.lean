/-
  Deeds that came in as an argument: where they lie. Definitions that the proofs call; no statement is proved here.
-/
import Derived.Test.YtaihmcengecmiaaOpenRows
namespace Go.Proofs.Ytaihmcengecmiaa
open Go Go.ChangeShapes Go.WideShapes Go.ChangeAt Go.RowKit
set_option linter.unusedVariables false

structure DeedV where
  kind : Int
  at' : Int
  far : Bool
  size : Int
  n : Int
  s : ByteArray
def DeedV.row (u : DeedV) : List Value := [.int .u8 u.kind, .int .u64 u.at', .bool u.far, .int .i64 u.size, .int .u64 u.n, .string u.s]
def DeedV.ok (u : DeedV) : Prop := (0 ≤ u.kind ∧ u.kind < 256) ∧ (0 ≤ u.at' ∧ u.at' ≤ 18446744073709551615) ∧ inI64 u.size ∧ (0 ≤ u.n ∧ u.n ≤ 18446744073709551615) ∧ u.s.size ≤ maxLen
def DeedsAt (w : World) (p : Option Addr) (l : List DeedV) : Prop := RowsAt w p 6 DeedV.row l ∧ ∀ u ∈ l, u.ok
section
variable {H : Type} {enc : TypeId × Value → H} {w : World}
theorem list6 {α : Type} {l : List α} (h : l.length = 6) : ∃ a b c d e f, l = [a, b, c, d, e, f] := by
  match l, h with
  | [a, b, c, d, e, f], _ => exact ⟨a, b, c, d, e, f, rfl⟩
theorem open_deed {n : Nat} {cs : List Value} {y : DataW H × List MemPlace} (h : DataW.trod enc Try.prog w 0 (fun _ => true) true n 33 cs = some y) (hs : Small 33 y.1) : ∃ u : DeedV, cs = u.row ∧ u.ok := by
  obtain ⟨hl, hf⟩ := open_fields Try.underlying33 (by kernel_rfl) (by kernel_rfl) h hs
  obtain ⟨c0, c1, c2, c3, c4, c5, rfl⟩ := list6 hl
  obtain ⟨x0, rfl, b0⟩ := open_u8 Try.underlying5 (hf 0 _ c0 rfl rfl)
  obtain ⟨x1, rfl, b1⟩ := open_u64 Try.underlying31 (hf 1 _ c1 rfl rfl)
  obtain ⟨x2, rfl⟩ := open_truth Try.underlying4 (hf 2 _ c2 rfl rfl)
  obtain ⟨x3, rfl, b3⟩ := open_i64 Try.underlying3 (hf 3 _ c3 rfl rfl)
  obtain ⟨x4, rfl, b4⟩ := open_u64 Try.underlying31 (hf 4 _ c4 rfl rfl)
  obtain ⟨x5, rfl, b5, _⟩ := open_text Try.underlying9 (hf 5 _ c5 rfl rfl)
  exact ⟨⟨x0, x1, x2, x3, x4, x5⟩, rfl, b0, b1, b3, b4, b5⟩
theorem open_deeds {v : Value} (h : ∃ m y, DataW.trod enc Try.prog w 0 (fun _ => true) true m 22 [v] = some y ∧ Small 22 y.1) : ∃ p cap, ∃ l : List DeedV, v = .slice p l.length cap ∧ DeedsAt w p l ∧ l.length ≤ 140737488355328 ∧ l.length ≤ cap := by
  obtain ⟨m, y, h, hs⟩ := h
  obtain ⟨p, cap, l, rfl, hr, hi, hm, hc⟩ := open_rows (row := DeedV.row) (ok := DeedV.ok) (c := 6) (by0 := 56) Try.underlying22 (by kernel_rfl) (by decide) (by kernel_rfl) open_deed h hs
  exact ⟨p, cap, l, rfl, ⟨hr, hi⟩, by unfold reachBytes at hm; omega, hc⟩
end
end Go.Proofs.Ytaihmcengecmiaa
