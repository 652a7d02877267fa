/-
  Facts and contracts that the proof calls.
-/
import Derived.Test.YtdinpakclmnacaaGreatDoorKfStrOwn
import Derived.Test.YtdinpakclmnacaaGreatDoorKfLebPutA
namespace Go.Proofs.YtdinpakclmnacaaGreatDoor
set_option maxRecDepth 100000
set_option maxHeartbeats 16000000
open Go.RowKit
set_option linter.unusedVariables false
structure Near (base : Nat) (w w' : World) : Prop where
  os : w'.os = w.os
  tape : w'.tape = w.tape
  output : w'.output = w.output
  size : w.heap.size ≤ w'.heap.size
  block : ∀ k o, w.heap[k]? = some o → (k < base ∨ ∀ cs, o ≠ .cells cs 5) → w'.heap[k]? = some o
theorem Near.refl (base : Nat) (w : World) : Near base w w := ⟨rfl, rfl, rfl, Nat.le_refl _, fun _ _ h _ => h⟩
theorem Near.trans {base : Nat} {a b c : World} (h : Near base a b) (k : Near base b c) : Near base a c := ⟨k.os.trans h.os, k.tape.trans h.tape, k.output.trans h.output, Nat.le_trans h.size k.size, fun i o hi hc => k.block i o (h.block i o hi hc) hc⟩
theorem heap_lt9 {w : World} {k : Nat} {o : Obj} (h : w.heap[k]? = some o) : k < w.heap.size := (Array.getElem?_eq_some_iff.1 h).1
theorem Near.of_below {base : Nat} {w w' : World} (h : Below w.heap.size w w') : Near base w w' := ⟨h.os, h.tape, h.output, h.size, fun k o hk _ => (h.block k (heap_lt9 hk)).trans hk⟩
theorem Near.below {base : Nat} {w w' : World} (h : Near base w w') (hb : base ≤ w.heap.size) : Below base w w' := ⟨h.os, h.tape, h.output, h.size, fun k hk => by
  have hl : k < w.heap.size := Nat.lt_of_lt_of_le hk hb
  have h1 : w.heap[k]? = some w.heap[k] := Array.getElem?_eq_getElem hl
  rw [h1]
  exact h.block k _ h1 (.inl hk)⟩
theorem Near.alloc {base : Nat} {w w' : World} (h : Near base w w') (o : Obj) : Near base w (w'.alloc o) := h.trans (Near.of_below ((Below.refl _ _).alloc (Nat.le_refl _) _))
theorem Near.drew {base : Nat} {w w' : World} (h : Near base w w') : Near base w w'.drew := h.trans (Near.of_below (Below.refl _ _).drew)
theorem Near.then {base : Nat} {w w1 w2 : World} (h : Near base w w1) (k : Below w1.heap.size w1 w2) : Near base w w2 := h.trans (Near.of_below k)
theorem Near.of_grown {base : Nat} {w w' : World} {v : Value} {d : List UInt8} (hown : Own w base 5 v d) (hg : w.grownBy w' v.ownBlock) : Near base w w' := ⟨hg.os, hg.tape, hg.output, hg.size, fun k o hk hc => by
  rw [hg.block k (heap_lt9 hk) (fun e => by
    rcases hown.2 with ⟨rfl, _⟩ | ⟨g, cap, cur, rfl, hb, hgg, _⟩
    · cases e
    · simp only [Value.ownBlock, Option.some.injEq] at e
      subst e
      rcases hc with hc | hc
      · omega
      · rw [hgg] at hk; injection hk with hk; exact hc cur hk.symm)]
  exact hk⟩
theorem Near.grew {base : Nat} {w0 w w' : World} {v : Value} {d : List UInt8} (h : Near base w0 w) (hown : Own w base 5 v d) (hg : w.grownBy w' v.ownBlock) : Near base w0 w' := h.trans (Near.of_grown hown hg)
theorem Near.box {base : Nat} {w w' : World} (h : Near base w w') {b : Nat} {cs : Array Value} {t : TypeId} (hx : w.heap[b]? = some (.cells cs t)) (ht : t ≠ 5) : w'.heap[b]? = some (.cells cs t) := h.block b _ hx (.inr fun c e => ht (by injection e))
theorem Own.below {w w' : World} {base e : Nat} {v : Value} {d : List UInt8} (h : Own w base e v d) (hb : Below w.heap.size w w') : Own w' base e v d := by
  obtain ⟨hl, h | ⟨g, cap, cur, hv, hbg, hg, hnc, hcm, hcs, ht⟩⟩ := h
  · exact ⟨hl, .inl h⟩
  · exact ⟨hl, .inr ⟨g, cap, cur, hv, hbg, (hb.block _ (heap_lt9 hg)).trans hg, hnc, hcm, hcs, ht⟩⟩
theorem Own.drew {w : World} {base e : Nat} {v : Value} {d : List UInt8} (h : Own w base e v d) : Own w.drew base e v d := h.below (Below.refl _ _).drew
theorem Own.any {w : World} {base e : Nat} {v : Value} {d : List UInt8} (h : Own w base e v d) : ∃ p cap, v = .slice p d.length cap := by
  rcases h.2 with ⟨rfl, h0⟩ | ⟨g, cap, cur, rfl, _⟩
  · exact ⟨none, 0, by rw [h0]⟩
  · exact ⟨_, cap, rfl⟩
def Adds5 (w : World) (base : Nat) (d : List UInt8) (e : Ending) (w' : World) : Prop := ∃ v, e = .returned v ∧ Own w' base 5 v d ∧ Near base w w'
theorem box_2 {W : World} {b : Nat} {u0 u1 : Value} {t : TypeId} (h : W.heap[b]? = some (.cells #[u0, u1] t)) : W.heap[b]? = some (.cells #[u0, u1] t) ∧ W.cell? ⟨b, 0, none⟩ = some u0 ∧ W.cell? ⟨b, 1, none⟩ = some u1 := ⟨h, by simp [World.cell?, h], by simp [World.cell?, h]⟩
theorem box_3 {W : World} {b : Nat} {u0 u1 u2 : Value} {t : TypeId} (h : W.heap[b]? = some (.cells #[u0, u1, u2] t)) : W.heap[b]? = some (.cells #[u0, u1, u2] t) ∧ W.cell? ⟨b, 0, none⟩ = some u0 ∧ W.cell? ⟨b, 1, none⟩ = some u1 ∧ W.cell? ⟨b, 2, none⟩ = some u2 := ⟨h, by simp [World.cell?, h], by simp [World.cell?, h], by simp [World.cell?, h]⟩
theorem box_4 {W : World} {b : Nat} {u0 u1 u2 u3 : Value} {t : TypeId} (h : W.heap[b]? = some (.cells #[u0, u1, u2, u3] t)) : W.heap[b]? = some (.cells #[u0, u1, u2, u3] t) ∧ W.cell? ⟨b, 0, none⟩ = some u0 ∧ W.cell? ⟨b, 1, none⟩ = some u1 ∧ W.cell? ⟨b, 2, none⟩ = some u2 ∧ W.cell? ⟨b, 3, none⟩ = some u3 := ⟨h, by simp [World.cell?, h], by simp [World.cell?, h], by simp [World.cell?, h], by simp [World.cell?, h]⟩
theorem lit_at {w : World} {l : List UInt8} {t : TypeId} : ∀ j b, l[j]? = some b → (w.alloc (.cells (l.map fun b => Value.int .u8 (b.toNat : Int)).toArray t)).cell? ((⟨w.heap.size, 0, none⟩ : Addr).add j) = some (.int .u8 (b.toNat : Int)) := by
  intro j b hj
  have hadd : (⟨w.heap.size, 0, none⟩ : Addr).add j = ⟨w.heap.size, j, none⟩ := by unfold Addr.add; split <;> simp_all
  rw [hadd, World.cell?_alloc_new]
  simp [hj]
theorem grown_then {w w1 w2 : World} {row : Option Nat} (h : Below w.heap.size w w1) (k : w1.grownBy w2 row) : w.grownBy w2 row :=
  ⟨k.os.trans h.os, k.tape.trans h.tape, k.output.trans h.output, Nat.le_trans h.size k.size, fun i hi hr => (k.block i (Nat.lt_of_lt_of_le hi h.size) hr).trans (h.block i hi)⟩
structure GrewAt (base : Nat) (w : World) (v : Value) (d : List UInt8) (w' : World) (v' : Value) : Prop where
  own : Own w' base 5 v' d
  grown : w.grownBy w' v.ownBlock
  at' : ∀ g, v'.ownBlock = some g → v.ownBlock = some g ∨ w.heap.size ≤ g
theorem GrewAt.trans {base : Nat} {w w1 w2 : World} {v v1 v2 : Value} {d1 d2 : List UInt8} (h : GrewAt base w v d1 w1 v1) (k : GrewAt base w1 v1 d2 w2 v2) : GrewAt base w v d2 w2 v2 :=
  ⟨k.own, ⟨k.grown.os.trans h.grown.os, k.grown.tape.trans h.grown.tape, k.grown.output.trans h.grown.output, Nat.le_trans h.grown.size k.grown.size, fun i hi hr => (k.grown.block i (Nat.lt_of_lt_of_le hi h.grown.size) (fun e => by
      rcases h.at' i e.symm with h1 | h1
      · exact hr h1.symm
      · omega)).trans (h.grown.block i hi hr)⟩, fun g hg => by
    rcases k.at' g hg with h1 | h1
    · exact h.at' g h1
    · exact .inr (Nat.le_trans h.grown.size h1)⟩
theorem GrewAt.of {base : Nat} {w w' : World} {v v' : Value} {d : List UInt8} (ho : Own w' base 5 v' d) (hg : w.grownBy w' v.ownBlock) (ha : v'.ownBlock = v.ownBlock ∨ v'.ownBlock = some w.heap.size) : GrewAt base w v d w' v' :=
  ⟨ho, hg, fun g h => by
    rcases ha with h1 | h1
    · exact .inl (h1.symm.trans h)
    · rw [h1] at h; injection h with h; exact .inr (Nat.le_of_eq h)⟩
theorem GrewAt.after {base : Nat} {w w1 w' : World} {v v' : Value} {d : List UInt8} (h : GrewAt base w1 v d w' v') (hb : Below w.heap.size w w1) : GrewAt base w v d w' v' :=
  ⟨h.own, grown_then hb h.grown, fun g hg => (h.at' g hg).imp id (Nat.le_trans hb.size)⟩
theorem GrewAt.near {base : Nat} {w w' : World} {v v' : Value} {d d' : List UInt8} (h : GrewAt base w v d' w' v') (hown : Own w base 5 v d) : Near base w w' := Near.of_grown hown h.grown
end Go.Proofs.YtdinpakclmnacaaGreatDoor
