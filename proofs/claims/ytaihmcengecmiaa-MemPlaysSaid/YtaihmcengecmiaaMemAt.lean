/-
  A memory that stands in the heap: its pages, what its bytes are, which blocks it holds. Definitions and laws that the proofs call; no statement is proved here.
-/
import Derived.Test.YtaihmcengecmiaaMemZero
import Derived.Test.YtaihmcengecmiaaMemSpec
import Derived.Test.YtaihmcengecmiaaMemSizes
import Derived.Laws.AppendOwn
namespace Go.Proofs.Ytaihmcengecmiaa
open Go.RowKit Go.Maps
set_option linter.unusedVariables false

def pgV (p : Nat) : Value := .pointer (some ⟨p, 0, none⟩)
/-- Block p is a page, the k-th. -/
def PgAt (w : World) (p : Nat) (f : Nat → UInt8) (k : Nat) : Prop :=
  ∃ cs : Array Value, w.heap[p]? = some (.cells cs 74 (0, 0)) ∧ cs.size = 65536 ∧ ∀ i, i < 65536 → cs[i]? = some (.int .u8 ((f (k * 65536 + i)).toNat : Int))
/-- What stands where: the memory's own block b, the row of its pages v, its map mb, its pages ps. -/
structure MemIs (O : Nat → Prop) (B b n most : Nat) (f : Nat → UInt8) (v : Value) (mb : Nat) (ps : List Nat) (w : World) : Prop where
  box : w.heap[b]? = some (.cells #[v, .int .i64 (most : Int), .map (some mb)] 55 (0, 0))
  row : w.ownsRow B 72 1 v n (ps.map pgV)
  szs : Sizes w mb
  pgs : ∀ (k p : Nat), ps[k]? = some p → PgAt w p f k
  one : ∀ (k j p : Nat), ps[k]? = some p → ps[j]? = some p → k = j
  le : n ≤ most
  top : most ≤ 256
  zero : ∀ i, n * 65536 ≤ i → f i = 0
  ob : O b
  om : O mb
  op : ∀ p ∈ ps, O p
  ov : ∀ g, v.ownBlock = some g → O g
  low : ∀ k, O k → B ≤ k ∧ k < w.heap.size
def MemAt (O : Nat → Prop) (B b n most : Nat) (f : Nat → UInt8) (w : World) : Prop := ∃ v mb ps, MemIs O B b n most f v mb ps w
/-- All blocks but those of O are as they were. -/
structure Kept (O : Nat → Prop) (w w' : World) : Prop where
  os : w'.os = w.os
  tape : w'.tape = w.tape
  output : w'.output = w.output
  size : w.heap.size ≤ w'.heap.size
  block : ∀ k, k < w.heap.size → ¬ O k → w'.heap[k]? = w.heap[k]?
variable {O O' : Nat → Prop} {B b n most : Nat} {f : Nat → UInt8} {v : Value} {mb : Nat} {ps : List Nat} {w w' w'' : World}
theorem Kept.refl (O : Nat → Prop) (w : World) : Kept O w w := ⟨rfl, rfl, rfl, Nat.le_refl _, fun _ _ _ => rfl⟩
theorem Kept.trans (h : Kept O w w') (h' : Kept O' w' w'') (hO : ∀ k, O' k → k < w.heap.size → O k) : Kept O w w'' :=
  ⟨h'.os.trans h.os, h'.tape.trans h.tape, h'.output.trans h.output, Nat.le_trans h.size h'.size, fun k hk hn => (h'.block k (Nat.lt_of_lt_of_le hk h.size) (fun e => hn (hO k e hk))).trans (h.block k hk hn)⟩
theorem Kept.below (h : Kept O w w') (hO : ∀ k, O k → B ≤ k) (hB : B ≤ w.heap.size) : Below B w w' :=
  ⟨h.os, h.tape, h.output, h.size, fun k hk => h.block k (by omega) (fun e => by have := hO k e; omega)⟩
theorem Kept.of_below (h : Below w.heap.size w w') (O : Nat → Prop) : Kept O w w' := ⟨h.os, h.tape, h.output, h.size, fun k hk _ => h.block k hk⟩
theorem MemIs.len (h : MemIs O B b n most f v mb ps w) : ps.length = n := by
  have := h.row.1
  simpa using this
theorem MemIs.blt (h : MemIs O B b n most f v mb ps w) : b < w.heap.size := in_heap h.box
/-- A memory stays where it does not reach. -/
theorem MemIs.kept (h : MemIs O B b n most f v mb ps w) (hk : Kept O' w w') (ha : ∀ k, O k → ¬ O' k) : MemIs O B b n most f v mb ps w' := by
  have hb : ∀ k, O k → w'.heap[k]? = w.heap[k]? := fun k hO => hk.block k (h.low k hO).2 (ha k hO)
  refine ⟨(hb b h.ob).trans h.box, ⟨h.row.1, ?_⟩, h.szs.same (hb mb h.om), fun k p hp => ?_, h.one, h.le, h.top, h.zero, h.ob, h.om, h.op, h.ov, fun k hO => ⟨(h.low k hO).1, Nat.lt_of_lt_of_le (h.low k hO).2 hk.size⟩⟩
  · rcases h.row.2 with hn | ⟨g, cap, cur, hv, hB, hg, rest⟩
    · exact .inl hn
    · exact .inr ⟨g, cap, cur, hv, hB, (hb g (h.ov g (by rw [hv]; rfl))).trans hg, rest⟩
  · obtain ⟨cs, hc, r⟩ := h.pgs k p hp
    exact ⟨cs, (hb p (h.op p (List.mem_of_getElem? hp))).trans hc, r⟩
theorem MemAt.kept (h : MemAt O B b n most f w) (hk : Kept O' w w') (ha : ∀ k, O k → ¬ O' k) : MemAt O B b n most f w' := by
  obtain ⟨v, mb, ps, h⟩ := h
  exact ⟨v, mb, ps, h.kept hk ha⟩
theorem MemAt.below (h : MemAt O B b n most f w) (hb : Below w.heap.size w w') : MemAt O B b n most f w' := h.kept (Kept.of_below hb (fun _ => False)) (fun _ _ e => e)
theorem MemAt.alloc (h : MemAt O B b n most f w) (o : Obj) : MemAt O B b n most f (w.alloc o) := h.below ((Below.refl _ _).alloc (Nat.le_refl _) o)
theorem MemAt.low (h : MemAt O B b n most f w) : ∀ k, O k → B ≤ k ∧ k < w.heap.size := by
  obtain ⟨v, mb, ps, h⟩ := h
  exact h.low
theorem MemAt.blt (h : MemAt O B b n most f w) : b < w.heap.size := by
  obtain ⟨v, mb, ps, h⟩ := h
  exact h.blt
theorem MemAt.le (h : MemAt O B b n most f w) : n ≤ 256 := by
  obtain ⟨v, mb, ps, h⟩ := h
  exact Nat.le_trans h.le h.top
theorem MemAt.zero (h : MemAt O B b n most f w) : ∀ i, n * 65536 ≤ i → f i = 0 := by
  obtain ⟨v, mb, ps, h⟩ := h
  exact h.zero
/-- The three cells of the memory's own block. -/
theorem MemIs.cells (h : MemIs O B b n most f v mb ps w) : w.cell? ⟨b, 0, none⟩ = some v ∧ w.cell? ⟨b, 1, none⟩ = some (.int .i64 (most : Int)) ∧ w.cell? ⟨b, 2, none⟩ = some (.map (some mb)) := by
  simp [World.cell?, h.box]
/-- The row of pages: where it stands, and each page's place. -/
theorem MemIs.slice (h : MemIs O B b n most f v mb ps w) : ∃ a cap, v = .slice a n cap ∧ n ≤ cap ∧ ∀ k p, ps[k]? = some p → ∃ g, a = some ⟨g, 0, none⟩ ∧ w.cell? ⟨g, k, none⟩ = some (pgV p) := by
  rcases h.row.2 with ⟨rfl, rfl⟩ | ⟨g, cap, cur, hv, hB, hg, hle, _, hsz, ht⟩
  · refine ⟨none, 0, rfl, Nat.le_refl _, fun k p hp => ?_⟩
    have := h.len
    have : ps = [] := List.eq_nil_of_length_eq_zero this
    subst this
    simp at hp
  · refine ⟨some ⟨g, 0, none⟩, cap, hv, hle, fun k p hp => ⟨g, rfl, ?_⟩⟩
    have hk : k < n := by rw [← h.len]; exact (List.getElem?_eq_some_iff.1 hp).1
    have e : (cur.toList.take (n * 1))[k]? = some (pgV p) := by rw [ht, List.getElem?_map, hp]; rfl
    rw [List.getElem?_take, if_pos (by omega)] at e
    simp only [World.cell?, hg]
    simpa using e
end Go.Proofs.Ytaihmcengecmiaa
