/-
  The module that the statements of chapter 4 put together: where it lies, and what holds of it. Plain; no statement is proved here.
-/
import Derived.Test.YtpamchagidnijaaGreatDoorModOpens
import Derived.Test.YtpamchagidnijaaGreatDoorModRight
import Derived.OwnWalk
import Derived.Test.YtpamchagidnijaaGreatDoorModDoesG
namespace Go.Proofs.YtpamchagidnijaaGreatDoor
open Go.RowKit

def Res7 (W : World) (C : Nat) : Prop := W.heap[C]? = some (.cells #[.slice none 0 0, .slice none 0 0, .slice none 0 0, .slice none 0 0, .slice none 0 0, .int .i64 0, .slice none 0 0] 31)
theorem heap_in {w : World} {b : Nat} {o : Obj} (h : w.heap[b]? = some o) : b < w.heap.size := by
  by_cases hh : b < w.heap.size
  · exact hh
  · rw [Array.getElem?_eq_none (by omega)] at h; cases h
theorem Res7.cells {W : World} {C : Nat} (h : Res7 W C) : W.cell? ⟨C, 0, none⟩ = some (.slice none 0 0) ∧ W.cell? ⟨C, 1, none⟩ = some (.slice none 0 0) ∧ W.cell? ⟨C, 2, none⟩ = some (.slice none 0 0) ∧ W.cell? ⟨C, 3, none⟩ = some (.slice none 0 0) ∧ W.cell? ⟨C, 4, none⟩ = some (.slice none 0 0) ∧ W.cell? ⟨C, 5, none⟩ = some (.int .i64 0) ∧ W.cell? ⟨C, 6, none⟩ = some (.slice none 0 0) ∧ W.frozen? ⟨C, 0, none⟩ = false ∧ W.frozen? ⟨C, 1, none⟩ = false ∧ W.frozen? ⟨C, 2, none⟩ = false ∧ W.frozen? ⟨C, 3, none⟩ = false ∧ W.frozen? ⟨C, 4, none⟩ = false ∧ W.frozen? ⟨C, 5, none⟩ = false ∧ W.frozen? ⟨C, 6, none⟩ = false := by
  have c : ∀ j, W.cell? ⟨C, j, none⟩ = _ := fun j => by rw [World.cell?, h]
  have f : ∀ j, W.frozen? ⟨C, j, none⟩ = false := fun j => by simp [World.frozen?, show W.heap[C]? = _ from h]
  exact ⟨c 0, c 1, c 2, c 3, c 4, c 5, c 6, f 0, f 1, f 2, f 3, f 4, f 5, f 6⟩
theorem Res7.below {W W' : World} {C : Nat} (h : Res7 W C) (hb : Below W.heap.size W W') : Res7 W' C := (hb.block C (heap_in h)).trans h
theorem cell_grown (w : World) (b o : Nat) (x : Value) : w.grownBy (w.setCell ⟨b, o, none⟩ x) (some b) := ⟨rfl, rfl, rfl, by simp [World.setCell], fun k _ hne => Below.heap_setCell w _ _ k (fun e => hne (by rw [e]))⟩
def insOf (x : PI) : InsV := ⟨x.op, x.a, x.b, none, 0, []⟩
def madeF (pc : Option Addr) (cc : Nat) (code : List PI) : FnV := ⟨0, ⟨#[127, 126]⟩, pc, cc, code.map insOf⟩
def someBytes : ByteArray := ⟨#[115, 111, 109, 101, 32, 98, 121, 116, 101, 115]⟩
def madeV (H : Nat) (pc : Option Addr) (cc : Nat) (code : List PI) (mx i0 i1 ix st : Int) : MoV :=
  ⟨some ⟨H, 0, none⟩, 1, [⟨⟨#[126, 127]⟩, ⟨#[126]⟩⟩], some ⟨H + 1, 0, none⟩, 1, [madeF pc cc code], some ⟨H + 2, 0, none⟩, 1, [⟨1, mx⟩], some ⟨H + 3, 0, none⟩, 2, [⟨127, true, i0⟩, ⟨126, true, i1⟩], some ⟨H + 4, 0, none⟩, 1, [⟨⟨#[102]⟩, 0, ix⟩], st, some ⟨H + 5, 0, none⟩, 1, [⟨100, someBytes⟩]⟩
/-- The module's lists, each in a block of its own; the code ahead of them. -/
structure MadeAt (w : World) (lo H : Nat) (pc : Option Addr) (cc : Nat) (code : List PI) (mx i0 i1 ix : Int) : Prop where
  size : H + 6 ≤ w.heap.size
  from0 : lo ≤ H
  types : w.heap[H]? = some (.cells #[.string ⟨#[126, 127]⟩, .string ⟨#[126]⟩] 86)
  funcs : w.heap[H + 1]? = some (.cells #[.int .i64 0, .string ⟨#[127, 126]⟩, .slice pc code.length cc] 38)
  memory : w.heap[H + 2]? = some (.cells #[.int .i64 1, .int .i64 mx] 88)
  globals : w.heap[H + 3]? = some (.cells #[.int .i64 127, .bool true, .int .i64 i0, .int .i64 126, .bool true, .int .i64 i1] 90)
  exports : w.heap[H + 4]? = some (.cells #[.string ⟨#[102]⟩, .int .i64 0, .int .i64 ix] 43)
  data : w.heap[H + 5]? = some (.cells #[.int .i64 100, .string someBytes] 92)
  owned : w.ownsRow lo 41 4 (.slice pc code.length cc) code.length (codeCells code)
  ahead : ∀ g, (Value.slice pc code.length cc).ownBlock = some g → g < H
  right : ∀ x ∈ code, rightPI x = true
  runs0 : runs (code.map PI.op) [] = true
  most : code.length ≤ 10000
theorem MadeAt.below {w w' : World} {lo H : Nat} {pc : Option Addr} {cc : Nat} {code : List PI} {mx i0 i1 ix : Int} (h : MadeAt w lo H pc cc code mx i0 i1 ix) (hb : Below w.heap.size w w') : MadeAt w' lo H pc cc code mx i0 i1 ix := by
  have hs := h.size
  exact { h with size := Nat.le_trans hs hb.size, types := by rw [hb.block _ (by omega)]; exact h.types, funcs := by rw [hb.block _ (by omega)]; exact h.funcs, memory := by rw [hb.block _ (by omega)]; exact h.memory, globals := by rw [hb.block _ (by omega)]; exact h.globals, exports := by rw [hb.block _ (by omega)]; exact h.exports, data := by rw [hb.block _ (by omega)]; exact h.data, owned := own_below h.owned hb }
/-- A store into a block that is not the module's. -/
theorem MadeAt.on {w w' : World} {lo H g : Nat} {pc : Option Addr} {cc : Nat} {code : List PI} {mx i0 i1 ix : Int} (h : MadeAt w lo H pc cc code mx i0 i1 ix) (hg : w.grownBy w' (some g)) (hn : g < lo ∨ H + 6 ≤ g) : MadeAt w' lo H pc cc code mx i0 i1 ix := by
  have hs := h.size
  have hlo := h.from0
  have k : ∀ i, i < 6 → w'.heap[H + i]? = w.heap[H + i]? := fun i hi => hg.block _ (by omega) (fun e => by injection e with e; omega)
  exact { h with size := Nat.le_trans hs hg.size, types := (k 0 (by omega)).trans h.types, funcs := (k 1 (by omega)).trans h.funcs, memory := (k 2 (by omega)).trans h.memory, globals := (k 3 (by omega)).trans h.globals, exports := (k 4 (by omega)).trans h.exports, data := (k 5 (by omega)).trans h.data, owned := h.owned.kept hg (by
    cases hv : (Value.slice pc code.length cc).ownBlock with
    | none => exact .inl rfl
    | some b => exact .inr fun e => by injection e with e; have := (h.owned.lt b hv).1; have := h.ahead b hv; omega) }
theorem flat_at {α : Type} {c : Nat} {row : α → List Value} (i : Nat) (hi : i < c) : ∀ (l : List α) (_ : ∀ x ∈ l, (row x).length = c) (j : Nat) (hj : j < l.length), (l.flatMap row)[j * c + i]? = (row l[j])[i]? := by
  intro l
  induction l with
  | nil => intro _ j hj; simp at hj
  | cons x l ih =>
    intro hc j hj
    have hx := hc x (by simp)
    cases j with
    | zero => simp only [List.flatMap_cons, List.getElem_cons_zero, Nat.zero_mul, Nat.zero_add]; rw [List.getElem?_append_left (by omega)]
    | succ j =>
      simp only [List.flatMap_cons, List.getElem_cons_succ]
      rw [List.getElem?_append_right (by rw [hx, Nat.succ_mul]; omega), hx, show (j + 1) * c + i - c = j * c + i by rw [Nat.succ_mul]; omega]
      exact ih (fun y hy => hc y (by simp [hy])) j (by simpa using hj)
/-- A list of a block's cells. -/
theorem rows_block {α : Type} {w : World} {b : Nat} {cs : Array Value} {t : TypeId} {c : Nat} {row : α → List Value} {l : List α} (h : w.heap[b]? = some (.cells cs t)) (hl : l.flatMap row = cs.toList) (hc : ∀ x ∈ l, (row x).length = c) : RowsAt w (some ⟨b, 0, none⟩) c row l := by
  intro j hj i v hv
  refine ⟨b, 0, rfl, heap_in h, ?_⟩
  have hi : i < c := by
    have := hc l[j] (List.getElem_mem hj)
    have h2 := (List.getElem?_eq_some_iff.1 hv).1
    omega
  have := flat_at i hi l hc j hj
  rw [hl, hv] at this
  simp only [Array.getElem?_toList] at this
  simp [World.cell?, h, this]
theorem code_cells (code : List PI) : (code.map insOf).flatMap InsV.row = codeCells code := by
  induction code with
  | nil => rfl
  | cons x l ih =>
    have e : codeCells (x :: l) = x.cells ++ codeCells l := rfl
    rw [List.map_cons, List.flatMap_cons, ih, e]; rfl
/-- A list that the rows of a slice hold. -/
theorem rows_own {α : Type} {w : World} {lo : Nat} {t : TypeId} {c n cap : Nat} {p : Option Addr} {row : α → List Value} {l : List α} (h : w.ownsRow lo t c (.slice p n cap) n (l.flatMap row)) (hn : l.length = n) (hc : ∀ x ∈ l, (row x).length = c) : RowsAt w p c row l := by
  intro j hj i v hv
  have hi : i < c := by
    have := hc l[j] (List.getElem_mem hj)
    have h2 := (List.getElem?_eq_some_iff.1 hv).1
    omega
  have hf := flat_at i hi l hc j hj
  obtain ⟨n', rfl⟩ : ∃ n', n = n' + 1 := ⟨n - 1, by omega⟩
  obtain ⟨g, cp, e, hb, hg, hcap, hcell, _⟩ := own_block h
  cases e
  refine ⟨g, 0, rfl, hg, ?_⟩
  rw [Nat.zero_add]
  exact hcell _ _ (hf.trans hv)
theorem own_cap {w : World} {lo : Nat} {t : TypeId} {c n cap : Nat} {p : Option Addr} {xs : List Value} (h : w.ownsRow lo t c (.slice p n cap) n xs) (hp : p = none) : cap = 0 := by
  rcases h.2 with ⟨h0, _⟩ | ⟨g, cp, cur, h0, _⟩
  · cases h0; rfl
  · cases h0; cases hp

theorem MadeAt.insAt {w : World} {x : PI} (h : rightPI x = true) : InsAt w (insOf x) := by
  unfold rightPI at h
  simp only [Bool.and_eq_true, decide_eq_true_eq] at h
  obtain ⟨h1, h2⟩ := h
  unfold rightOf at h1
  have hop : inI64 x.op := by
    cases e : byCode x.op with
    | none => rw [e] at h1; cases h1
    | some r =>
      have hb := byCode_bd e
      have hc : r.code = x.op := by
        have := List.find?_some e
        simpa using this
      unfold inI64; omega
  have hb : inI64 x.b := by
    cases e : byCode x.op with
    | none => rw [e] at h1; cases h1
    | some r =>
      rw [e] at h1
      simp only at h1
      split at h1
      · cases h1
      · rename_i hnb
        by_cases hz : x.b = 0
        · rw [hz]; unfold inI64; omega
        · have h5 : r.shape = 5 := by
            by_cases h5 : r.shape = 5
            · exact h5
            · exact absurd ⟨hz, h5⟩ hnb
          simp [h5, word] at h1
          unfold inI64; omega
  exact ⟨fun j hj => absurd hj (by simp [insOf]), by simp [insOf], hop, h2, hb, fun n hn => by simp [insOf] at hn⟩
theorem MadeAt.codeAt {w : World} {lo H : Nat} {pc : Option Addr} {cc : Nat} {code : List PI} {mx i0 i1 ix : Int} (h : MadeAt w lo H pc cc code mx i0 i1 ix) : CodeAt w pc (code.map insOf) := by
  refine ⟨rows_own (by rw [code_cells]; exact h.owned) (by simp) (fun x _ => rfl), fun x hx => ?_, by have := h.most; simp; omega⟩
  obtain ⟨y, hy, rfl⟩ := List.mem_map.1 hx
  exact MadeAt.insAt (h.right y hy)
theorem MadeAt.modAt {w : World} {lo H : Nat} {pc : Option Addr} {cc : Nat} {code : List PI} {mx i0 i1 ix st : Int} (h : MadeAt w lo H pc cc code mx i0 i1 ix) (h1 : inI64 mx) (h2 : inI64 i0) (h3 : inI64 i1) (h4 : inI64 ix) (h5 : inI64 st) : ModAt w (madeV H pc cc code mx i0 i1 ix st) where
  types := rows_block h.types rfl (fun x _ => rfl)
  typesIn := by intro t ht; rw [List.mem_singleton.1 ht]; exact ⟨by decide, by decide⟩
  typesMost := by show 1 ≤ mostThings; decide
  funcs := rows_block h.funcs (by simp [madeV, madeF, FnV.row]) (fun x _ => rfl)
  funcsIn := by intro f hf; rw [List.mem_singleton.1 hf]; exact ⟨h.codeAt, (by show 2 ≤ maxLen; decide), (by show inI64 0; decide)⟩
  funcsMost := by show 1 ≤ mostThings; decide
  memory := rows_block h.memory rfl (fun x _ => rfl)
  memoryIn := by intro t ht; rw [List.mem_singleton.1 ht]; exact ⟨(by show inI64 1; decide), h1⟩
  memoryMost := by show 1 ≤ mostThings; decide
  globals := rows_block h.globals rfl (fun x _ => rfl)
  globalsIn := by
    intro t ht
    rcases List.mem_cons.1 ht with rfl | ht
    · exact ⟨(by show inI64 127; decide), h2⟩
    · rw [List.mem_singleton.1 ht]; exact ⟨(by show inI64 126; decide), h3⟩
  globalsMost := by show 2 ≤ mostThings; decide
  exports := rows_block h.exports rfl (fun x _ => rfl)
  exportsIn := by intro t ht; rw [List.mem_singleton.1 ht]; exact ⟨(by show 1 ≤ maxLen; decide), (by show inI64 0; decide), h4⟩
  exportsMost := by show 1 ≤ mostThings; decide
  startIn := h5
  data := rows_block h.data rfl (fun x _ => rfl)
  dataIn := by intro t ht; rw [List.mem_singleton.1 ht]; exact ⟨(by show inI64 100; decide), (by show 10 ≤ maxLen; decide)⟩
  dataMost := by show 1 ≤ mostThings; decide
theorem MadeAt.fnRight {w : World} {lo H : Nat} {pc : Option Addr} {cc : Nat} {code : List PI} {mx i0 i1 ix : Int} (h : MadeAt w lo H pc cc code mx i0 i1 ix) : rightFn (madeF pc cc code) = true := by
  unfold rightFn
  have h1 : (madeF pc cc code).code.all rightIns = true := by
    refine List.all_eq_true.2 fun x hx => ?_
    obtain ⟨y, hy, rfl⟩ := List.mem_map.1 hx
    have := h.right y hy
    unfold rightPI at this
    simp only [Bool.and_eq_true] at this
    exact this.1
  have h2 : opsOf (madeF pc cc code).code = code.map PI.op := by simp [opsOf, madeF, insOf]
  rw [h1, h2, h.runs0]
  show (true && (word4 0 && vtypes [127, 126] 4096 && true)) = true
  decide
/-- Is it right? It hangs on its numbers. -/
theorem MadeAt.rights {w : World} {lo H : Nat} {pc : Option Addr} {cc : Nat} {code : List PI} {mx i0 i1 ix st : Int} (h : MadeAt w lo H pc cc code mx i0 i1 ix) :
    rightMod (madeV H pc cc code mx i0 i1 ix st) = ((decide (st = -1) || word4 st) && ((decide (mx = -1) || word4 mx) && (small4 i0 && word4 ix))) := by
  have hf := h.fnRight
  have e1 : decide (fewMod (madeV H pc cc code mx i0 i1 ix st)) = (decide (st = -1) || word4 st) := by
    by_cases hs : st = -1
    · rw [hs]; exact decide_eq_true (by refine ⟨?_, ?_, ?_, ?_, ?_, ?_, .inl rfl⟩ <;> (show _ ≤ 4096; simp [madeV]))
    · cases hw : word4 st with
      | true =>
        rw [decide_eq_true, Bool.or_true]
        exact ⟨by simp [madeV], by simp [madeV], by simp [madeV], by simp [madeV], by simp [madeV], by simp [madeV], .inr hw⟩
      | false =>
        rw [decide_eq_false, decide_eq_false hs]
        · rfl
        · intro hfew
          rcases hfew.2.2.2.2.2.2 with h1 | h1
          · exact hs h1
          · rw [show (madeV H pc cc code mx i0 i1 ix st).start = st from rfl, hw] at h1; cases h1
  unfold rightMod
  rw [e1]
  have e2 : (madeV H pc cc code mx i0 i1 ix st).types.all rightTy = true := by show List.all [_] _ = _; decide
  have e3 : (madeV H pc cc code mx i0 i1 ix st).funcs.all rightFn = true := by show List.all [madeF pc cc code] _ = _; simp [hf]
  have e4 : (madeV H pc cc code mx i0 i1 ix st).memory.all rightMem = (decide (mx = -1) || word4 mx) := by
    show List.all [(⟨1, mx⟩ : MemV)] _ = _
    simp [rightMem, show word4 1 = true by decide]
  have e5 : (madeV H pc cc code mx i0 i1 ix st).globals.all rightGlob = small4 i0 := by
    show List.all [(⟨127, true, i0⟩ : GlobV), ⟨126, true, i1⟩] _ = _
    simp [rightGlob]
  have e6 : (madeV H pc cc code mx i0 i1 ix st).exports.all rightExp = word4 ix := by
    show List.all [(⟨⟨#[102]⟩, 0, ix⟩ : ExpV)] _ = _
    simp [rightExp, show isName [102] = true by decide]
  have e7 : (madeV H pc cc code mx i0 i1 ix st).data.all rightDat = true := by show List.all [(⟨100, someBytes⟩ : DatV)] _ = _; decide
  rw [e2, e3, e4, e5, e6, e7]
  simp
end Go.Proofs.YtpamchagidnijaaGreatDoor

namespace Go.Proofs.YtpamchagidnijaaGreatDoor
open Go.RowKit

structure StepV where
  kind : Int
  a : Int
  b : Int
  op : Int
def StepV.row (x : StepV) : List Value := [.int .u8 x.kind, .int .i64 x.a, .int .i64 x.b, .int .u8 x.op]
structure StepsAt (w : World) (p : Option Addr) (l : List StepV) : Prop where
  rows : RowsAt w p 4 StepV.row l
  within : ∀ x ∈ l, (0 ≤ x.kind ∧ x.kind < 256) ∧ (0 ≤ x.op ∧ x.op < 256) ∧ inI64 x.a
  most : l.length ≤ mostThings
theorem StepsAt.below {w w' : World} {p : Option Addr} {l : List StepV} {B : Nat} (h : StepsAt w p l) (hB : Below B w w') (hs : w.heap.size ≤ B) : StepsAt w' p l := ⟨h.rows.below hB hs, h.within, h.most⟩

theorem Prog.begin (w : World) : Prog w [] ⟨[], [], []⟩ (w.alloc (.cells #[.slice none 0 0, .slice none 0 0, .slice none 0 0] 77)) := by
  refine ⟨.slice none 0 0, .slice none 0 0, .slice none 0 0, ?_⟩
  refine ⟨(Below.refl _ _).alloc (Nat.le_refl _) _, by simp, heap_alloc_new _ _, ?_, ?_, ?_, ?_, ?_, ?_, ?_⟩
  · exact ⟨rfl, .inl ⟨rfl, rfl⟩⟩
  · exact ⟨rfl, .inl ⟨rfl, rfl⟩⟩
  · exact ⟨rfl, .inl ⟨rfl, rfl⟩⟩
  all_goals first | (intro g h; cases h) | (intro p hp; cases hp)

def BX7 : Obj := .cells #[.slice none 0 0, .slice none 0 0, .slice none 0 0, .slice none 0 0, .slice none 0 0, .int .i64 0, .slice none 0 0] 31
theorem res_six {w : World} {C : Nat} (h : Res7 w C) (o1 o2 o3 o4 o5 o6 : Obj) : Res7 ((((((w.alloc o1).alloc o2).alloc o3).alloc o4).alloc o5).alloc o6) C :=
  h.below ((((((Below.refl _ w).alloc (Nat.le_refl _) o1).alloc (by simp) o2).alloc (by simp; omega) o3).alloc (by simp; omega) o4).alloc (by simp; omega) o5 |>.alloc (by simp; omega) o6)
theorem made_cells (w : World) (s : PS) {w2 : World} (h : Prog (w.alloc BX7) [] s w2) : ∃ n pc cc, s.code.length = n ∧ w2.ownsRow (w.heap.size + 2) 41 4 (.slice pc n cc) n (codeCells s.code) ∧ w.heap.size + 1 < w2.heap.size ∧ (∀ o, (w2.alloc o).cell? ⟨w.heap.size + 1, 0, none⟩ = some (.slice pc n cc)) ∧
    (∀ o1 o2 o3 o4 o5 o6, let W := ((((((w2.alloc o1).alloc o2).alloc o3).alloc o4).alloc o5).alloc o6); W.cell? ⟨w.heap.size, 0, none⟩ = some (.slice none 0 0) ∧ W.cell? ⟨w.heap.size, 1, none⟩ = some (.slice none 0 0) ∧ W.cell? ⟨w.heap.size, 2, none⟩ = some (.slice none 0 0) ∧ W.cell? ⟨w.heap.size, 3, none⟩ = some (.slice none 0 0) ∧ W.cell? ⟨w.heap.size, 4, none⟩ = some (.slice none 0 0) ∧ W.cell? ⟨w.heap.size, 5, none⟩ = some (.int .i64 0) ∧ W.cell? ⟨w.heap.size, 6, none⟩ = some (.slice none 0 0) ∧ W.frozen? ⟨w.heap.size, 0, none⟩ = false ∧ W.frozen? ⟨w.heap.size, 1, none⟩ = false ∧ W.frozen? ⟨w.heap.size, 2, none⟩ = false ∧ W.frozen? ⟨w.heap.size, 3, none⟩ = false ∧ W.frozen? ⟨w.heap.size, 4, none⟩ = false ∧ W.frozen? ⟨w.heap.size, 5, none⟩ = false ∧ W.frozen? ⟨w.heap.size, 6, none⟩ = false) ∧ Below w.heap.size w w2 := by
  obtain ⟨cv, sv, ov, hA⟩ := h
  obtain ⟨d0, _⟩ := prog_cells hA
  have hC := hA.code
  have hs1 : (w.alloc BX7).heap.size = w.heap.size + 1 := by simp
  rw [hs1] at d0 hC
  obtain ⟨pc, cc, rfl⟩ := own_any hC
  have hsz2 : w.heap.size + 1 < w2.heap.size := by have := hA.size; rw [hs1] at this; omega
  have hres : Res7 w2 w.heap.size := (hA.below.block w.heap.size (by rw [hs1]; omega)).trans (heap_alloc_new _ _)
  exact ⟨_, pc, cc, rfl, hC, hsz2, fun o => (World.cell?_alloc_lt w2 o (⟨w.heap.size + 1, 0, none⟩ : Addr) hsz2).trans d0, fun o1 o2 o3 o4 o5 o6 => (res_six hres o1 o2 o3 o4 o5 o6).cells, ((Below.refl _ w).alloc (Nat.le_refl _) BX7).trans (hA.below.mono (by simp))⟩
def StepV.does (x : StepV) (s : PS) : PS := doesF s x.kind x.op x.a x.b
/-- What all steps make of nothing, of the first 60; and the code that is left. -/
def runF (l : List StepV) : PS := l.foldl (fun s x => x.does s) ⟨[], [], []⟩
theorem runF_snoc (l : List StepV) (x : StepV) : runF (l ++ [x]) = x.does (runF l) := by unfold runF; rw [List.foldl_append]; rfl
def codeF (l : List StepV) : List PI := (levelF (shuts (runF (l.take 60)).opens.length (runF (l.take 60))) 126 0).code ++ [⟨11, 0, 0⟩]
/-- Ahead of the loops: the result's box, the program. -/
theorem does_at (w : World) (o : Obj) (s : PS) (x : StepV) (hx : (0 ≤ x.kind ∧ x.kind < 256) ∧ (0 ≤ x.op ∧ x.op < 256) ∧ inI64 x.a) (hg : Good s) (hw : s.weight ≤ 200000) (W : World) (h : Prog (w.alloc o) [] s W) :
    Calls Tryz.prog 28 #[.pointer (some ⟨w.heap.size + 1, 0, none⟩), .agg #[.int .u8 x.kind, .int .i64 x.a, .int .i64 x.b, .int .u8 x.op]] W fun e w' => e = .returned (.tuple #[]) ∧ Done (w.alloc o) [] s (x.does s) w' := by
  have := does_st (w.alloc o) s x.kind x.op x.a x.b hx.1 hx.2.1 hx.2.2 hg hw W h
  rwa [show (w.alloc o).heap.size = w.heap.size + 1 by simp] at this
theorem shut_at (w : World) (o : Obj) (s : PS) (hg : Good s) (h0 : s.opens ≠ []) (hw : s.weight ≤ 200000) (W : World) (h : Prog (w.alloc o) [] s W) :
    Calls Tryz.prog 29 #[.pointer (some ⟨w.heap.size + 1, 0, none⟩)] W fun e w' => e = .returned (.tuple #[]) ∧ Good (shutF s) ∧ (shutF s).weight ≤ s.weight ∧ (shutF s).opens.length + 1 = s.opens.length ∧ Prog (w.alloc o) [] (shutF s) w' := by
  have := shut_st hg h0 hw h
  rwa [show (w.alloc o).heap.size = w.heap.size + 1 by simp] at this
theorem level_at (w : World) (o : Obj) (s : PS) (h0 : s.opens = []) (hw : s.weight ≤ 200000) (W : World) (h : Prog (w.alloc o) [] s W) :
    Calls Tryz.prog 30 #[.pointer (some ⟨w.heap.size + 1, 0, none⟩), .agg #[.int .i64 0, .int .u8 126, .int .i64 0]] W fun e w' => e = .returned (.tuple #[]) ∧ ∃ c : List PI, c.all okPI = true ∧ c.length ≤ 1 + 3 * s.stack.length ∧ (levelF s 126 0).code = s.code ++ c ∧ Prog (w.alloc o) [] { s with code := s.code ++ c, stack := [] } w' := by
  have hw' : s.code.length + 4 * s.stack.length + 8 * s.opens.length ≤ 200000 := hw
  have := level_126 (w.alloc o) s 0 0 (by unfold topHeight; rw [h0]; rfl) (by omega) (by omega) (by omega) W h
  rw [show (w.alloc o).heap.size = w.heap.size + 1 by simp] at this
  refine this.mono ?_
  rintro e w' ⟨he, c, h1, h2, h3, h4⟩
  exact ⟨he, c, h1, h2, by rw [h3], h4⟩
theorem put_at (w : World) (o : Obj) (s : PS) (hlen : s.code.length ≤ 1000000) (W : World) (h : Prog (w.alloc o) [] s W) :
    Calls Tryz.prog 31 #[.pointer (some ⟨w.heap.size + 1, 0, none⟩), .int .i64 11, .int .i64 0, .int .i64 0] W fun e w' => e = .returned (.tuple #[]) ∧ Prog (w.alloc o) [] { s with code := s.code ++ [(⟨11, 0, 0⟩ : PI)] } w' := by
  have := put_of (w.alloc o) s 11 0 0 hlen W h
  rwa [show (w.alloc o).heap.size = w.heap.size + 1 by simp] at this

theorem made_six (w2 : World) {lo n cc : Nat} {pc : Option Addr} {code : List PI} (hown : w2.ownsRow lo 41 4 (.slice pc n cc) n (codeCells code)) (hlen : code.length = n) (hlo : lo ≤ w2.heap.size) (hr : ∀ x ∈ code, rightPI x = true) (hu : runs (code.map PI.op) [] = true) (hm : code.length ≤ 10000) :
    MadeAt ((((((w2.alloc (.cells #[.string ⟨#[126, 127]⟩, .string ⟨#[126]⟩] 86)).alloc (.cells #[.int .i64 0, .string ⟨#[127, 126]⟩, .slice pc n cc] 38)).alloc (.cells #[.int .i64 1, .int .i64 2] 88)).alloc (.cells #[.int .i64 127, .bool true, .int .i64 5, .int .i64 126, .bool true, .int .i64 (-5)] 90)).alloc (.cells #[.string ⟨#[102]⟩, .int .i64 0, .int .i64 0] 43)).alloc (.cells #[.int .i64 100, .string ⟨#[115, 111, 109, 101, 32, 98, 121, 116, 101, 115]⟩] 92)) lo w2.heap.size pc cc code 2 5 (-5) 0 := by
  subst hlen
  have k : ∀ (w : World) (o : Obj) (b : Nat) (q : Obj), w.heap[b]? = some q → (w.alloc o).heap[b]? = some q := fun w o b q h => by rw [Below.heap_alloc w o b (heap_in h)]; exact h
  have nw : ∀ (w : World) (o : Obj) (b : Nat), w.heap.size = b → (w.alloc o).heap[b]? = some o := fun w o b h => by subst h; exact heap_alloc_new w o
  exact ⟨by simp, hlo, k _ _ _ _ (k _ _ _ _ (k _ _ _ _ (k _ _ _ _ (k _ _ _ _ (nw _ _ _ rfl))))), k _ _ _ _ (k _ _ _ _ (k _ _ _ _ (k _ _ _ _ (nw _ _ _ (by simp))))), k _ _ _ _ (k _ _ _ _ (k _ _ _ _ (nw _ _ _ (by simp)))), k _ _ _ _ (k _ _ _ _ (nw _ _ _ (by simp))), k _ _ _ _ (nw _ _ _ (by simp)), nw _ _ _ (by simp), (((((hown.alloc _).alloc _).alloc _).alloc _).alloc _).alloc _, fun g hg => (hown.lt g hg).2, hr, hu, hm⟩
theorem six_below {w w2 : World} (h : Below w.heap.size w w2) (o1 o2 o3 o4 o5 o6 : Obj) : Below w.heap.size w ((((((w2.alloc o1).alloc o2).alloc o3).alloc o4).alloc o5).alloc o6) :=
  (((((h.alloc h.size o1).alloc (by simp; have := h.size; omega) o2).alloc (by simp; have := h.size; omega) o3).alloc (by simp; have := h.size; omega) o4).alloc (by simp; have := h.size; omega) o5).alloc (by simp; have := h.size; omega) o6

set_option maxRecDepth 100000 in
set_option maxHeartbeats 8000000 in
theorem made_fn (p : Option Addr) (c : Nat) (l : List StepV) (w : World) (h : StepsAt w p l) :
    Calls Tryz.prog 11 #[.slice p l.length c] w fun e w' => ∃ H pc cc, e = .returned (madeV H pc cc (codeF l) 2 5 (-5) 0 (-1)).val ∧ MadeAt w' (w.heap.size + 2) H pc cc (codeF l) 2 5 (-5) 0 ∧ Below w.heap.size w w' := by
  have h0 := Prog.begin (w.alloc BX7)
  have hl1 : l.length ≤ mostThings := h.most
  unfold mostThings at hl1
  have hrows := h.rows
  have hin := h.within
  obtain ⟨n, hn⟩ : ∃ n, l.length = n := ⟨_, rfl⟩
  rw [hn] at hl1 ⊢
  have HN := Lib.hid hn
  clear h hn
  go_enter Tryz.func11, Tryz.ntmps11
  go_wp2
  go_loopw [4] (fun i wr => ∃ (k : Nat) (s : PS), k ≤ n ∧ k ≤ 60 ∧ i = .int .i64 k ∧ s = runF (l.take k) ∧ Good s ∧ s.weight ≤ 20 * k ∧ Prog (w.alloc BX7) [] s wr) (fun i _ => n - (intOf i).toNat)
  case atStart => exact ⟨0, ⟨[], [], []⟩, by omega, by omega, rfl, (by rw [List.take_zero]; rfl), Good.none, by decide, h0⟩
  case round =>
    clear h0
    obtain ⟨k, s, hk, hk60, rfl, hsF, hg, hw, hP⟩ := hrel
    have HS := Lib.hid hsF
    clear hsF
    by_cases hlt : k < n ∧ k < 60
    · obtain ⟨hlt, h60⟩ := hlt
      have hle : k < l.length := by have := HN.out; omega
      have hB : Below w.heap.size w wr := by
        obtain ⟨cv, sv, ov, hA⟩ := hP
        exact ((Below.refl _ w).alloc (Nat.le_refl _) BX7).trans (hA.below.mono (by simp))
      have hr := hrows.below hB (Nat.le_refl _)
      obtain ⟨b1, o1, hp1, hb1, e0⟩ := hr k hle 0 _ rfl
      subst hp1
      have e1 := hr.cell hle 1 rfl
      have e2 := hr.cell hle 2 rfl
      have e3 := hr.cell hle 3 rfl
      have hx := hin _ (List.getElem_mem hle)
      have HT := Lib.hid (show l.take (k + 1) = l.take k ++ [l[k]] by rw [List.take_add_one, List.getElem?_eq_getElem hle]; rfl)
      have ce := does_at w BX7 s l[k] hx hg (by omega) wr hP
      have HW := Lib.hid hw
      generalize l[k] = x at *
      clear hr hP hg hin hrows hw
      obtain ⟨xk, xa, xb, xo⟩ := x
      simp only [Nat.add_zero] at e0 e1 e2 e3 ce
      go_wp2_with (go_at_call 28; refine ce.mono ?_; rintro e w1 ⟨rfl, h1, h2, h3⟩)
      go_roundw
      case rel => exact ⟨k + 1, _, by omega, by omega, by simp, by rw [HT.out, runF_snoc, ← HS.out], h1, by have := HW.out; omega, h3⟩
      case measure => simp [intOf]; omega
    · have hkk : k = min l.length 60 := by have := HN.out; omega
      have HS2 : Hid (s = runF (l.take 60)) := Lib.hid (by rw [HS.out]; congr 1; rw [hkk]; exact (by rw [Nat.min_comm]; exact List.take_eq_take_min.symm))
      clear hrows hin HN hkk HS
      have hw' : s.weight ≤ 1200 := by omega
      have hc : ¬ (k : Int) < n ∨ ((k : Int) < n ∧ ¬ (k : Int) < 60) := by omega
      clear hlt hw hk hk60 hl1
      obtain ⟨n0, hn0⟩ : ∃ n0, s.opens.length = n0 := ⟨_, rfl⟩
      rcases hc with h1 | ⟨h1, h2⟩
      all_goals
        go_wp2
        go_loopg [] n0 (fun gg wr2 => ∃ t : PS, (∃ d, d + gg = n0 ∧ t = shuts d s) ∧ Good t ∧ t.weight ≤ 1200 ∧ t.opens.length = gg ∧ Prog (w.alloc BX7) [] t wr2)
        case atStart => exact ⟨s, ⟨0, by omega, rfl⟩, hg, hw', hn0, hP⟩
        case round =>
          obtain ⟨t, hdt, hgt, hwt, hlt, hPt⟩ := hrel
          have HD := Lib.hid hdt
          have HN0 := Lib.hid hn0
          have HP := Lib.hid hPt
          have hwt2 : t.code.length + 4 * t.stack.length + 8 * t.opens.length ≤ 1200 := hwt
          obtain ⟨cv, sv, ov, hA⟩ := hPt
          obtain ⟨c0, c1, c2, f0, f1, f2⟩ := prog_cells hA
          rw [show (w.alloc BX7).heap.size = w.heap.size + 1 by simp] at c0 c1 c2 f0 f1 f2
          have hO := hA.opens
          rw [hlt] at hO
          obtain ⟨op, oc, rfl⟩ := own_any hO
          clear hO hA hg hw' hn0 hP hdt
          by_cases hz : gk = 0
          · subst hz
            have h0 : t.opens = [] := List.eq_nil_of_length_eq_zero hlt
            have cl := level_at w BX7 t h0 (by omega) _ HP.out
            have hs3 : t.code.length + 3 * t.stack.length ≤ 1200 := by omega
            go_wp2_with (first
              | (go_at_call 30; refine cl.mono ?_; rintro e w1 ⟨rfl, cs, hall, hcn, hlv, hp1⟩; have HL := Lib.hid hlv; clear hlv; have cp := put_at w BX7 { t with code := t.code ++ cs, stack := [] } (by simp only [List.length_append]; omega) _ hp1; clear c0 c1 c2 f0 f1 f2)
              | (go_at_call 31; refine cp.mono ?_; rintro e w2 ⟨rfl, hp2⟩; clear cp hp1; obtain ⟨n2, pc, cc, hn2, hown, hsz2, d0, r6, hbl⟩ := made_cells w _ hp2; clear hp2))
            have hd := hgt.done h0 cs hall
            have hm : (t.code ++ cs ++ [(⟨11, 0, 0⟩ : PI)]).length ≤ 10000 := by simp only [List.length_append, List.length_singleton]; omega
            have hFn : t.code ++ cs ++ [(⟨11, 0, 0⟩ : PI)] = codeF l := by
              obtain ⟨d, hd1, hd2⟩ := HD.out
              have hd3 : d = n0 := by omega
              unfold codeF
              rw [← HS2.out, HN0.out, ← hd3, ← hd2, HL.out]
            have HFn := Lib.hid hFn
            clear hFn
            generalize t.code ++ cs ++ [(⟨11, 0, 0⟩ : PI)] = L at *
            have hmade := made_six w2 hown hn2 (by omega) hd.2 hd.1 hm
            have hbl6 := six_below hbl
            subst hn2
            refine bodyPost_ret (v := (madeV w2.heap.size pc cc L 2 5 (-5) 0 (-1)).val) ?_ rfl ?_
            · rw [results_one_cell rfl]; simp [madeV, MoV.val]; go_simp
            · obtain rfl : L = codeF l := HFn.out
              refine ⟨w2.heap.size, pc, cc, rfl, ?_, ?_⟩
              · exact (((((((hmade.on (cell_grown _ _ _ _) (.inl (by omega))).on (cell_grown _ _ _ _) (.inl (by omega))).on (cell_grown _ _ _ _) (.inl (by omega))).on (cell_grown _ _ _ _) (.inl (by omega))).on (cell_grown _ _ _ _) (.inl (by omega))).on (cell_grown _ _ _ _) (.inl (by omega))).on (cell_grown _ _ _ _) (.inl (by omega)))
              · exact ((((((((hbl6 _ _ _ _ _ _).setCell (Nat.le_refl _) _).setCell (Nat.le_refl _) _).setCell (Nat.le_refl _) _).setCell (Nat.le_refl _) _).setCell (Nat.le_refl _) _).setCell (Nat.le_refl _) _).setCell (Nat.le_refl _) _)
          · have hpos : (0 : Int) < gk := by omega
            have h0 : t.opens ≠ [] := fun e => by rw [e] at hlt; simp at hlt; omega
            have ce := shut_at w BX7 t hgt h0 (by omega)
            go_wp2_with (go_at_call 29; refine (ce _ HP.out).mono ?_; rintro e w1 ⟨rfl, h1, h2, h3, h4⟩)
            go_roundg (gk - 1)
            case rel =>
              refine ⟨_, ?_, h1, by omega, by omega, h4⟩
              obtain ⟨d, hd1, hd2⟩ := HD.out
              exact ⟨d + 1, by omega, by rw [hd2, shuts_snoc]⟩
            case measure => omega
theorem codeF_ne (l : List StepV) : codeF l ≠ [] := by unfold codeF; simp
theorem made_of (p : Option Addr) (c : Nat) (l : List StepV) (w : World) (h : StepsAt w p l) :
    Calls Tryz.prog 11 #[.slice p l.length c] w fun e w' => ∃ H pc cc code, e = .returned (madeV H pc cc code 2 5 (-5) 0 (-1)).val ∧ MadeAt w' (w.heap.size + 2) H pc cc code 2 5 (-5) 0 ∧ code ≠ [] ∧ Below w.heap.size w w' := by
  refine (made_fn p c l w h).mono ?_
  rintro e w' ⟨H, pc, cc, h1, h2, h3⟩
  exact ⟨H, pc, cc, codeF l, h1, h2, codeF_ne l, h3⟩
end Go.Proofs.YtpamchagidnijaaGreatDoor
