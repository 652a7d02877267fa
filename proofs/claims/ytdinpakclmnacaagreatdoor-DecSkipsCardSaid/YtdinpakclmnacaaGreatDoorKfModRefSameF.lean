/-
  Facts and contracts that the proof calls.
-/
import Derived.Test.YtdinpakclmnacaaGreatDoorKfOpRefRows
import Derived.BigQuiet
import Derived.Deep.RegionWith
namespace Go.Proofs.YtdinpakclmnacaaGreatDoor
set_option maxRecDepth 100000
set_option maxHeartbeats 16000000
open Go.RowKit
end Go.Proofs.YtdinpakclmnacaaGreatDoor
namespace Go.Proofs.YtdinpakclmnacaaGreatDoor
set_option maxRecDepth 100000
set_option maxHeartbeats 16000000
open Go.RowKit
def sameL {α : Type} (p : α → α → Bool) : List α → List α → Bool
  | [], [] => true
  | x :: l, y :: m => p x y && sameL p l m
  | _, _ => false
theorem sameL_drop {α : Type} {p : α → α → Bool} {l m : List α} {k : Nat} (h1 : k < l.length) (h2 : k < m.length) : sameL p (l.drop k) (m.drop k) = (p l[k] m[k] && sameL p (l.drop (k + 1)) (m.drop (k + 1))) := by
  rw [List.drop_eq_getElem_cons h1, List.drop_eq_getElem_cons h2, sameL]
theorem sameL_len {α : Type} {p : α → α → Bool} : ∀ {l m : List α}, l.length ≠ m.length → sameL p l m = false
  | [], [], h => absurd rfl h
  | [], _ :: _, _ => rfl
  | _ :: _, [], _ => rfl
  | x :: l, y :: m, h => by rw [sameL, sameL_len (fun e => h (by simp [e])), Bool.and_false]
def sameTy (x y : TyV) : Bool := decide (x.params = y.params ∧ x.results = y.results)
def sameMem (x y : MemV) : Bool := decide (x.min = y.min ∧ x.max = y.max)
def sameGlob (x y : GlobV) : Bool := decide (x.type = y.type ∧ x.may = y.may ∧ x.init = y.init)
def sameExp (x y : ExpV) : Bool := decide (x.name = y.name ∧ x.kind = y.kind ∧ x.index = y.index)
def sameDat (x y : DatV) : Bool := decide (x.offset = y.offset ∧ x.bytes = y.bytes)
def sameMod (a b : MoV) : Bool := decide (a.start = b.start) && (sameL sameTy a.types b.types && (sameL sameFn a.funcs b.funcs && (sameL sameMem a.memory b.memory && (sameL sameGlob a.globals b.globals && (sameL sameExp a.exports b.exports && sameL sameDat a.data b.data)))))
theorem boxMM {w w1 : World} {a b c d e f g a' b' c' d' e' f' g' : Value} {t : TypeId} (hB : Below (w.heap.size + 1 + 1) ((w.alloc (.cells #[a, b, c, d, e, f, g] t)).alloc (.cells #[a', b', c', d', e', f', g'] t)) w1) :
    (w1.cell? ⟨w.heap.size, 0, none⟩ = some a ∧ w1.cell? ⟨w.heap.size, 1, none⟩ = some b ∧ w1.cell? ⟨w.heap.size, 2, none⟩ = some c ∧ w1.cell? ⟨w.heap.size, 3, none⟩ = some d ∧ w1.cell? ⟨w.heap.size, 4, none⟩ = some e ∧ w1.cell? ⟨w.heap.size, 5, none⟩ = some f ∧ w1.cell? ⟨w.heap.size, 6, none⟩ = some g) ∧
    (w1.cell? ⟨w.heap.size + 1, 0, none⟩ = some a' ∧ w1.cell? ⟨w.heap.size + 1, 1, none⟩ = some b' ∧ w1.cell? ⟨w.heap.size + 1, 2, none⟩ = some c' ∧ w1.cell? ⟨w.heap.size + 1, 3, none⟩ = some d' ∧ w1.cell? ⟨w.heap.size + 1, 4, none⟩ = some e' ∧ w1.cell? ⟨w.heap.size + 1, 5, none⟩ = some f' ∧ w1.cell? ⟨w.heap.size + 1, 6, none⟩ = some g') := by
  have h : ∀ j, w1.cell? ⟨w.heap.size, j, none⟩ = #[a, b, c, d, e, f, g][j]? := fun j => by
    rw [hB.cell (p := ⟨w.heap.size, j, none⟩) (by show w.heap.size < _; omega), World.cell?_alloc_lt _ _ _ (by simp), World.cell?_alloc_new]
  have i : ∀ j, w1.cell? ⟨w.heap.size + 1, j, none⟩ = #[a', b', c', d', e', f', g'][j]? := fun j => by
    rw [hB.cell (p := ⟨w.heap.size + 1, j, none⟩) (by show w.heap.size + 1 < _; omega), show w.heap.size + 1 = (w.alloc (.cells #[a, b, c, d, e, f, g] t)).heap.size by simp, World.cell?_alloc_new]
  exact ⟨⟨h 0, h 1, h 2, h 3, h 4, h 5, h 6⟩, i 0, i 1, i 2, i 3, i 4, i 5, i 6⟩
end Go.Proofs.YtdinpakclmnacaaGreatDoor
