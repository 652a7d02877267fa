/-
  Package valid's walk, as it lies in memory: what it holds, what a call turns. Facts that the proofs call; no statement is proved here.
-/
import Derived.Test.YtomffpibdinkaaaGreatDoorValWf
import Derived.Test.YtomffpibdinkaaaGreatDoorVbStrOwn
import Derived.Laws.OwnMore
import Derived.Maps.AppendAt
import Derived.Deep.QuietTactic
import Derived.BigQuiet
import Derived.BigRegion
import Derived.WalkSmall
import Derived.Lib.Hide
namespace Go.Proofs.YtomffpibdinkaaaGreatDoor
open Go.RowKit
set_option linter.unusedVariables false

theorem own_prefix {w : World} {base e sz g n cap : Nat} {xs : List Value} (h : w.ownsRow base e sz (.slice (some ⟨g, 0, none⟩) n cap) n xs) {k : Nat} (hk : k ≤ n) : w.ownsRow base e sz (.slice (some ⟨g, 0, none⟩) k cap) k (xs.take (k * sz)) := by
  obtain ⟨hl, ⟨h1, _⟩ | ⟨g', cap', cur, hv, hbg, hg, hnc, hcm, hcs, ht⟩⟩ := h
  · cases h1
  · cases hv
    have hle : k * sz ≤ n * sz := Nat.mul_le_mul_right _ hk
    refine ⟨by rw [List.length_take]; omega, .inr ⟨g, cap, cur, rfl, hbg, hg, by omega, hcm, hcs, ?_⟩⟩
    rw [← ht, List.take_take]
    congr 1
    omega
theorem own_same7 {w w' : World} {base e sz n : Nat} {v : Value} {xs : List Value} (h : w.ownsRow base e sz v n xs) (hm : ∀ g, v.ownBlock = some g → w'.heap[g]? = w.heap[g]?) : w'.ownsRow base e sz v n xs := by
  obtain ⟨hl, h | ⟨g, cap, cur, hv, hbg, hg, hnc, hcm, hcs, ht⟩⟩ := h
  · exact ⟨hl, .inl h⟩
  · exact ⟨hl, .inr ⟨g, cap, cur, hv, hbg, (hm g (by rw [hv]; rfl)).trans hg, hnc, hcm, hcs, ht⟩⟩
theorem own_lt7 {w : World} {base e sz n : Nat} {v : Value} {xs : List Value} (h : w.ownsRow base e sz v n xs) : ∀ g, v.ownBlock = some g → base ≤ g ∧ g < w.heap.size := fun g hg => World.ownsRow.lt h g hg
theorem own_any7 {w : World} {base e sz n : Nat} {v : Value} {xs : List Value} (h : w.ownsRow base e sz v n xs) : (v = .slice none 0 0 ∧ n = 0 ∧ xs = []) ∨ ∃ g c, v = .slice (some ⟨g, 0, none⟩) n c ∧ base ≤ g ∧ g < w.heap.size ∧ n ≤ c := by
  have hl := own_lt7 h
  obtain ⟨h0, ⟨rfl, rfl⟩ | ⟨g, cap, cur, rfl, hb, hg, hnc, _⟩⟩ := h
  · exact .inl ⟨rfl, rfl, List.length_eq_zero_iff.1 (by omega)⟩
  · exact .inr ⟨g, cap, rfl, hb, (hl g rfl).2, hnc⟩

def b7 (l : List UInt8) : ByteArray := ⟨l.toArray⟩
theorem b7_list (l : List UInt8) : (b7 l).data.toList = l := by simp [b7]
theorem b7_size (l : List UInt8) : (b7 l).size = l.length := by simp [b7, ByteArray.size]
theorem b7_of (k : ByteArray) : b7 k.data.toList = k := by obtain ⟨⟨l⟩⟩ := k; rfl
def FrV.row (b : FrV) : List Value := [.int .i64 b.code, .string (b7 b.result), .int .i64 b.height, .bool b.dead]
def opnB (q : List FrV) : List Value := q.reverse.flatMap FrV.row
def walkCells (m : MoV) (M : Nat) (lo wh : ByteArray) (sv ov : Value) (b : Bool) : Array Value := #[.slice m.tp m.types.length m.tc, .slice m.fp m.funcs.length m.fc, .slice m.mp m.memory.length m.mc, .slice m.gp m.globals.length m.gc, .slice m.ep m.exports.length m.ec, .int .i64 m.start, .slice m.dp m.data.length m.dc, .map (some M), .string lo, .string wh, sv, ov, .bool b]
/-- The walk at a block: the module, the map of steps, the locals, the results, the stack, what is open. -/
structure WAt (w0 : World) (B M : Nat) (m : MoV) (lo wh : ByteArray) (s : VS) (sv ov : Value) (w : World) : Prop where
  below : Below w0.heap.size w0 w
  box : w.heap[B]? = some (.cells (walkCells m M lo wh sv ov s.wrong) 112)
  stk : Own w (M + 1) 5 sv s.stack.reverse
  opn : w.ownsRow (M + 1) 115 4 ov s.opens.length (opnB s.opens)
  far : ∀ g, sv.ownBlock = some g → ov.ownBlock ≠ some g
  hB : w0.heap.size ≤ B
  hM : B < M
  hl : M < w.heap.size
  wf : s.Wf
  few : s.stack.length ≤ 1000000000 ∧ s.opens.length ≤ 1000000
theorem WAt.stkLen {w0 : World} {B M : Nat} {m : MoV} {lo wh : ByteArray} {s : VS} {sv ov : Value} {w : World} (h : WAt w0 B M m lo wh s sv ov w) : w.ownsRow (M + 1) 5 1 sv s.stack.length (s.stack.reverse.map fun b => Value.int .u8 (b.toNat : Int)) := by
  have := h.stk
  unfold Own at this
  rwa [List.length_reverse] at this
/-- What a call turns: the walk's block, the stack's, that of what is open, and what is new. -/
structure MovV (B : Nat) (sv ov : Value) (w w' : World) (sv' ov' : Value) : Prop where
  os : w'.os = w.os
  tape : w'.tape = w.tape
  output : w'.output = w.output
  size : w.heap.size ≤ w'.heap.size
  block : ∀ k, k < w.heap.size → k ≠ B → sv.ownBlock ≠ some k → ov.ownBlock ≠ some k → w'.heap[k]? = w.heap[k]?
  sat : ∀ g, sv'.ownBlock = some g → sv.ownBlock = some g ∨ w.heap.size ≤ g
  oat : ∀ g, ov'.ownBlock = some g → ov.ownBlock = some g ∨ w.heap.size ≤ g
theorem MovV.of {B : Nat} {sv ov : Value} {w w' : World} (h : Below w.heap.size w w') : MovV B sv ov w w' sv ov := ⟨h.os, h.tape, h.output, h.size, fun k hk _ _ _ => h.block k hk, fun g hg => .inl hg, fun g hg => .inl hg⟩
theorem MovV.refl (B : Nat) (sv ov : Value) (w : World) : MovV B sv ov w w sv ov := MovV.of (Below.refl _ _)
theorem MovV.trans {B : Nat} {sv ov sv1 ov1 sv2 ov2 : Value} {a b c : World} (h : MovV B sv ov a b sv1 ov1) (k : MovV B sv1 ov1 b c sv2 ov2) : MovV B sv ov a c sv2 ov2 := by
  refine ⟨k.os.trans h.os, k.tape.trans h.tape, k.output.trans h.output, Nat.le_trans h.size k.size, fun i hi h1 h2 h3 => ?_, fun g hg => ?_, fun g hg => ?_⟩
  · refine (k.block i (Nat.lt_of_lt_of_le hi h.size) h1 (fun e => ?_) (fun e => ?_)).trans (h.block i hi h1 h2 h3)
    · rcases h.sat i e with e | e
      · exact h2 e
      · omega
    · rcases h.oat i e with e | e
      · exact h3 e
      · omega
  · rcases k.sat g hg with e | e
    · exact h.sat g e
    · exact .inr (Nat.le_trans h.size e)
  · rcases k.oat g hg with e | e
    · exact h.oat g e
    · exact .inr (Nat.le_trans h.size e)
theorem MovV.then {B : Nat} {sv ov sv1 ov1 : Value} {a b c : World} (h : MovV B sv ov a b sv1 ov1) (k : Below b.heap.size b c) : MovV B sv ov a c sv1 ov1 := h.trans (MovV.of k)
theorem MovV.drewN {B : Nat} {sv ov sv1 ov1 : Value} {a b : World} (h : MovV B sv ov a b sv1 ov1) (q : Nat) : MovV B sv ov a (b.drewN q) sv1 ov1 := h.then (below_drewN (Below.refl _ _) q)
/-- What a call leaves. -/
def DidV (w0 : World) (B M : Nat) (m : MoV) (lo wh : ByteArray) (s' : VS) (sv ov : Value) (w : World) (val : Value) (e : Ending) (w' : World) : Prop :=
  ∃ sv' ov', e = .returned val ∧ WAt w0 B M m lo wh s' sv' ov' w' ∧ MovV B sv ov w w' sv' ov'
variable {w0 : World} {B M : Nat} {m : MoV} {lo wh : ByteArray} {s : VS} {sv ov : Value} {w : World}
theorem WAt.at' (h : WAt w0 B M m lo wh s sv ov w) {w' : World} (hb : Below w.heap.size w w') : WAt w0 B M m lo wh s sv ov w' :=
  ⟨h.below.trans (hb.mono h.below.size), (hb.block _ (Nat.lt_trans h.hM h.hl)).trans h.box, own_same7 h.stk fun g hg => hb.block g (own_lt7 h.stk g hg).2, own_same7 h.opn fun g hg => hb.block g (own_lt7 h.opn g hg).2, h.far, h.hB, h.hM, Nat.lt_of_lt_of_le h.hl hb.size, h.wf, h.few⟩
theorem WAt.drewN (h : WAt w0 B M m lo wh s sv ov w) (q : Nat) : WAt w0 B M m lo wh s sv ov (w.drewN q) := h.at' (below_drewN (Below.refl _ _) q)
theorem WAt.drew (h : WAt w0 B M m lo wh s sv ov w) : WAt w0 B M m lo wh s sv ov w.drew := h.at' (Below.refl _ _).drew
theorem WAt.alloc (h : WAt w0 B M m lo wh s sv ov w) (o : Obj) : WAt w0 B M m lo wh s sv ov (w.alloc o) := h.at' ((Below.refl _ _).alloc (Nat.le_refl _) _)
theorem WAt.cell (h : WAt w0 B M m lo wh s sv ov w) (j : Nat) : w.cell? ⟨B, j, none⟩ = (walkCells m M lo wh sv ov s.wrong)[j]? := by rw [World.cell?, h.box]; simp
theorem WAt.free (h : WAt w0 B M m lo wh s sv ov w) (j : Nat) : w.frozen? ⟨B, j, none⟩ = false := by simp [World.frozen?, h.box]
theorem WAt.lists (h : WAt w0 B M m lo wh s sv ov w) : w.cell? ⟨B, 10, none⟩ = some sv ∧ w.cell? ⟨B, 11, none⟩ = some ov ∧ w.frozen? ⟨B, 10, none⟩ = false ∧ w.frozen? ⟨B, 11, none⟩ = false := ⟨h.cell 10, h.cell 11, h.free 10, h.free 11⟩
/-- The walk's own block is turned. -/
theorem WAt.ne (h : WAt w0 B M m lo wh s sv ov w) : (∀ g, sv.ownBlock = some g → g ≠ B) ∧ (∀ g, ov.ownBlock = some g → g ≠ B) :=
  ⟨fun g hg => by have := (own_lt7 h.stk g hg).1; have := h.hM; omega, fun g hg => by have := (own_lt7 h.opn g hg).1; have := h.hM; omega⟩
theorem MovV.set (B : Nat) (sv ov : Value) (w : World) (j : Nat) (v : Value) : MovV B sv ov w (w.setCell ⟨B, j, none⟩ v) sv ov :=
  ⟨rfl, rfl, rfl, by simp [World.setCell], fun k _ h1 _ _ => Below.heap_setCell _ _ _ _ h1, fun g hg => .inl hg, fun g hg => .inl hg⟩
theorem below_set (h : WAt w0 B M m lo wh s sv ov w) (j : Nat) (v : Value) : Below w0.heap.size w0 (w.setCell ⟨B, j, none⟩ v) := h.below.setCell h.hB _
theorem WAt.setWrong (h : WAt w0 B M m lo wh s sv ov w) : WAt w0 B M m lo wh { s with wrong := true } sv ov (w.setCell ⟨B, 12, none⟩ (.bool true)) ∧ MovV B sv ov w (w.setCell ⟨B, 12, none⟩ (.bool true)) sv ov :=
  ⟨⟨below_set h _ _, by rw [heap_setCell_same w B 12 _ _ _ h.box]; rfl, own_same7 h.stk fun g hg => Below.heap_setCell _ _ _ _ (h.ne.1 g hg), own_same7 h.opn fun g hg => Below.heap_setCell _ _ _ _ (h.ne.2 g hg), h.far, h.hB, h.hM, by simpa [World.setCell] using h.hl, h.wf, h.few⟩, MovV.set _ _ _ _ _ _⟩
/-- The stack's slice is stored. -/
theorem WAt.setStk (h : WAt w0 B M m lo wh s sv ov w) {st : List UInt8} {sv' : Value} {w1 : World} (hb : Below w0.heap.size w0 w1) (hx : w1.heap[B]? = some (.cells (walkCells m M lo wh sv ov s.wrong) 112)) (ho : Own w1 (M + 1) 5 sv' st.reverse) (hp : w1.ownsRow (M + 1) 115 4 ov s.opens.length (opnB s.opens)) (hf : ∀ g, sv'.ownBlock = some g → ov.ownBlock ≠ some g) (hl : M < w1.heap.size) (hw : (⟨st, s.opens, s.wrong⟩ : VS).Wf) (hn : st.length ≤ 1000000000) :
    WAt w0 B M m lo wh { s with stack := st } sv' ov (w1.setCell ⟨B, 10, none⟩ sv') :=
  ⟨hb.setCell h.hB _, by rw [heap_setCell_same w1 B 10 _ _ _ hx]; rfl, own_same7 ho fun g hg => Below.heap_setCell _ _ _ _ (by have := (own_lt7 ho g hg).1; have := h.hM; show g ≠ B; omega), own_same7 hp fun g hg => Below.heap_setCell _ _ _ _ (by have := (own_lt7 hp g hg).1; have := h.hM; show g ≠ B; omega), hf, h.hB, h.hM, by simpa [World.setCell] using hl, hw, ⟨hn, h.few.2⟩⟩
theorem WAt.setOpn (h : WAt w0 B M m lo wh s sv ov w) {op : List FrV} {ov' : Value} {w1 : World} (hb : Below w0.heap.size w0 w1) (hx : w1.heap[B]? = some (.cells (walkCells m M lo wh sv ov s.wrong) 112)) (ho : w1.ownsRow (M + 1) 115 4 ov' op.length (opnB op)) (hp : Own w1 (M + 1) 5 sv s.stack.reverse) (hf : ∀ g, sv.ownBlock = some g → ov'.ownBlock ≠ some g) (hl : M < w1.heap.size) (hw : (⟨s.stack, op, s.wrong⟩ : VS).Wf) (hn : op.length ≤ 1000000) :
    WAt w0 B M m lo wh { s with opens := op } sv ov' (w1.setCell ⟨B, 11, none⟩ ov') :=
  ⟨hb.setCell h.hB _, by rw [heap_setCell_same w1 B 11 _ _ _ hx]; rfl, own_same7 hp fun g hg => Below.heap_setCell _ _ _ _ (by have := (own_lt7 hp g hg).1; have := h.hM; show g ≠ B; omega), own_same7 ho fun g hg => Below.heap_setCell _ _ _ _ (by have := (own_lt7 ho g hg).1; have := h.hM; show g ≠ B; omega), hf, h.hB, h.hM, by simpa [World.setCell] using hl, hw, ⟨h.few.1, hn⟩⟩
/-! ### The innermost block -/
theorem opnB_cons (b : FrV) (o : List FrV) : opnB (b :: o) = opnB o ++ b.row := by simp [opnB]
theorem opnB_len (o : List FrV) : (opnB o).length = o.length * 4 := by
  induction o with
  | nil => rfl
  | cons b o ih => rw [opnB_cons, List.length_append, ih]; simp [FrV.row]; omega
theorem opnB_top (b : FrV) (o : List FrV) (i : Nat) : (opnB (b :: o))[o.length * 4 + i]? = b.row[i]? := by
  rw [opnB_cons, List.getElem?_append_right (by rw [opnB_len]; omega), opnB_len]
  congr 1
  omega
theorem opnB_set (b : FrV) (o : List FrV) : (opnB (b :: o)).set (o.length * 4 + 3) (.bool true) = opnB ({ b with dead := true } :: o) := by
  rw [opnB_cons, opnB_cons, List.set_append_right _ _ (by rw [opnB_len]; omega), opnB_len, show o.length * 4 + 3 - o.length * 4 = 3 by omega]
  rfl
theorem opnB_take (b : FrV) (o : List FrV) : (opnB (b :: o)).take (o.length * 4) = opnB o := by
  rw [opnB_cons, List.take_left' (opnB_len o)]
/-- What lies where the innermost block is. -/
theorem WAt.top (h : WAt w0 B M m lo wh s sv ov w) {b : FrV} {o : List FrV} (ho : s.opens = b :: o) : ∃ g c, ov = .slice (some ⟨g, 0, none⟩) (o.length + 1) c ∧ o.length + 1 ≤ c ∧ M < g ∧ g < w.heap.size ∧
    (w.cell? ⟨g, o.length * 4, none⟩ = some (.int .i64 b.code) ∧ w.cell? ⟨g, o.length * 4 + 1, none⟩ = some (.string (b7 b.result)) ∧ w.cell? ⟨g, o.length * 4 + 2, none⟩ = some (.int .i64 b.height) ∧ w.cell? ⟨g, o.length * 4 + 3, none⟩ = some (.bool b.dead)) ∧
    (∀ j, w.frozen? ⟨g, j, none⟩ = false) := by
  have hp := h.opn
  rw [ho] at hp
  rcases own_any7 hp with ⟨_, h0, _⟩ | ⟨g, c, rfl, h1, h2, h3⟩
  · cases h0
  · have hc : ∀ i, i < 4 → w.cell? ⟨g, o.length * 4 + i, none⟩ = b.row[i]? := fun i hi => by
      rw [hp.cellAt (o.length * 4 + i) (by simp; omega), opnB_top]
    exact ⟨g, c, rfl, h3, h1, h2, ⟨hc 0 (by omega), hc 1 (by omega), hc 2 (by omega), hc 3 (by omega)⟩, fun j => hp.frozenAt j⟩
theorem WAt.inner (h : WAt w0 B M m lo wh s sv ov w) {b : FrV} {o : List FrV} (ho : s.opens = b :: o) : s.inner = b ∧ b.height ≤ s.stack.length ∧ o.length + 1 ≤ 1000000 := by
  refine ⟨by unfold VS.inner; rw [ho]; rfl, ?_, ?_⟩
  · have := h.wf.2; rw [ho] at this; exact this
  · have := h.few.2; rw [ho] at this; simpa using this
end Go.Proofs.YtomffpibdinkaaaGreatDoor
