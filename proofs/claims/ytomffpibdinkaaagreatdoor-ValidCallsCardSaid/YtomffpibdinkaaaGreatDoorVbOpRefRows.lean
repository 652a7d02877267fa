/-
  Facts and contracts that the proof calls.
-/
import Derived.Test.YtomffpibdinkaaaGreatDoorVbOpSpec
import Derived.Test.YtomffpibdinkaaaGreatDoorVbModStruct
namespace Go.Proofs.YtomffpibdinkaaaGreatDoor
set_option maxRecDepth 100000
set_option maxHeartbeats 16000000
open Go.RowKit
end Go.Proofs.YtomffpibdinkaaaGreatDoor
namespace Go.Proofs.YtomffpibdinkaaaGreatDoor
set_option maxRecDepth 100000
set_option maxHeartbeats 16000000
open Go.RowKit
def NamesAt (w : World) (bk : Nat) (ns : List ByteArray) : Prop := ∀ j (hj : j < ns.length), w.cell? ⟨bk, j, none⟩ = some (.string ns[j])
theorem NamesAt.alloc {w : World} {bk : Nat} {ns : List ByteArray} (h : NamesAt w bk ns) (hb : bk < w.heap.size) (o : Obj) : NamesAt (w.alloc o) bk ns := fun j hj => by
  rw [World.cell?_alloc_lt w o _ hb]; exact h j hj
theorem NamesAt.grown {w w' : World} {bk : Nat} {ns : List ByteArray} {row : Option Nat} (h : NamesAt w bk ns) (hb : bk < w.heap.size) (hg : w.grownBy w' row) (hn : row ≠ some bk) : NamesAt w' bk ns := fun j hj => by
  rw [World.cell?_of_block (w := w) (hg.block bk hb (fun e => hn e.symm))]; exact h j hj
end Go.Proofs.YtomffpibdinkaaaGreatDoor
namespace Go.Proofs.YtomffpibdinkaaaGreatDoor
set_option maxRecDepth 100000
set_option maxHeartbeats 16000000
open Go.RowKit
theorem own_below {w w' : World} {base : Nat} {e : TypeId} {size : Nat} {v : Value} {n : Nat} {xs : List Value} (h : w.ownsRow base e size v n xs) (hb : Below w.heap.size w w') : w'.ownsRow base e size v n xs := by
  obtain ⟨hl, h | ⟨g, cap, cur, hv, hbg, hg, hnc, hcm, hcs, ht⟩⟩ := h
  · exact ⟨hl, .inl h⟩
  · refine ⟨hl, .inr ⟨g, cap, cur, hv, hbg, ?_, hnc, hcm, hcs, ht⟩⟩
    have hlt : g < w.heap.size := by
      refine Nat.lt_of_not_le fun hge => ?_
      have : w.heap[g]? = none := by simp; omega
      rw [this] at hg; cases hg
    rw [hb.block g hlt]; exact hg
def infoVal : Option Rw → Value
  | some r => .agg #[.string r.name, .int .i64 r.shape, .string r.params, .string r.results]
  | none => .agg #[.string ⟨#[]⟩, .int .i64 0, .string ⟨#[]⟩, .string ⟨#[]⟩]
def byCode (code : Int) : Option Rw := allRows.find? fun r => r.code == code
theorem allRows_bd : ∀ r ∈ allRows, 0 ≤ r.code ∧ r.code ≤ 255 ∧ 0 ≤ r.shape ∧ r.shape ≤ 7 ∧ r.name.size ≤ 30 ∧ r.params.size ≤ 2 ∧ r.results.size ≤ 1 := by decide +kernel
theorem res_cells {w w1 : World} {a b c d : Value} {t : TypeId} (hB : Below (w.alloc (.cells #[a, b, c, d] t)).heap.size (w.alloc (.cells #[a, b, c, d] t)) w1) :
    w1.cell? ⟨w.heap.size, 0, none⟩ = some a ∧ w1.cell? ⟨w.heap.size, 1, none⟩ = some b ∧ w1.cell? ⟨w.heap.size, 2, none⟩ = some c ∧ w1.cell? ⟨w.heap.size, 3, none⟩ = some d ∧
    w1.frozen? ⟨w.heap.size, 0, none⟩ = false ∧ w1.frozen? ⟨w.heap.size, 1, none⟩ = false ∧ w1.frozen? ⟨w.heap.size, 2, none⟩ = false ∧ w1.frozen? ⟨w.heap.size, 3, none⟩ = false := by
  have hlt : w.heap.size < (w.alloc (.cells #[a, b, c, d] t)).heap.size := by simp
  have hc : ∀ j, w1.cell? ⟨w.heap.size, j, none⟩ = #[a, b, c, d][j]? := fun j => by rw [hB.cell (p := ⟨w.heap.size, j, none⟩) hlt, World.cell?_alloc_new]
  have hf : ∀ j, w1.frozen? ⟨w.heap.size, j, none⟩ = (w.alloc (.cells #[a, b, c, d] t)).frozen? ⟨w.heap.size, j, none⟩ := fun j => hB.frozen (p := ⟨w.heap.size, j, none⟩) hlt
  refine ⟨hc 0, hc 1, hc 2, hc 3, ?_, ?_, ?_, ?_⟩
  all_goals (rw [hf]; exact World.frozen?_alloc_new _ _ _ _)
end Go.Proofs.YtomffpibdinkaaaGreatDoor
namespace Go.Proofs.YtomffpibdinkaaaGreatDoor
set_option maxRecDepth 100000
set_option maxHeartbeats 16000000
open Go.RowKit
def word (n : Int) : Bool := decide (0 ≤ n ∧ n < 4294967296)
theorem ret_bl {a b : Bool} (h : a = b) : Ending.returned (.bool a) = .returned (.bool b) := by rw [h]
end Go.Proofs.YtomffpibdinkaaaGreatDoor
namespace Go.Proofs.YtomffpibdinkaaaGreatDoor
set_option maxRecDepth 100000
set_option maxHeartbeats 16000000
open Go.RowKit
def rightOf (i : Option Rw) (op a b : Int) (ls : List Int) : Bool :=
  match i with
  | none => false
  | some r =>
    if b ≠ 0 ∧ r.shape ≠ 5 then false
    else if ls ≠ [] ∧ r.shape ≠ 3 then false
    else if r.shape = 0 ∨ r.shape = 6 then decide (a = 0)
    else if r.shape = 1 then decide (a = 64 ∨ a = 126 ∨ a = 127)
    else if r.shape = 3 then ls.all word && decide (ls.length ≤ 4096) && word a
    else if r.shape = 5 then word a && word b
    else if r.shape = 7 then decide (op = 66) || decide (-2147483648 ≤ a ∧ a < 2147483648)
    else word a
def IntsAt (w : World) (p : Option Addr) (ls : List Int) : Prop := ∀ j (hj : j < ls.length), ∃ b o, p = some ⟨b, o, none⟩ ∧ b < w.heap.size ∧ w.cell? ⟨b, o + j, none⟩ = some (.int .i64 ls[j])
theorem IntsAt.below {w w' : World} {p : Option Addr} {ls : List Int} {B : Nat} (h : IntsAt w p ls) (hB : Below B w w') (hs : w.heap.size ≤ B) : IntsAt w' p ls := fun j hj => by
  obtain ⟨b, o, hp, hb, hc⟩ := h j hj
  exact ⟨b, o, hp, Nat.lt_of_lt_of_le hb hB.size, by rw [hB.cell (p := ⟨b, o + j, none⟩) (by show b < B; omega)]; exact hc⟩
theorem byCode_bd {c : Int} {r : Rw} (h : byCode c = some r) : 0 ≤ r.code ∧ r.code ≤ 255 ∧ 0 ≤ r.shape ∧ r.shape ≤ 7 ∧ r.name.size ≤ 30 ∧ r.params.size ≤ 2 ∧ r.results.size ≤ 1 := allRows_bd r (List.mem_of_find?_eq_some h)
theorem eq_decide (x y : Int) : (x == y) = decide (x = y) := by by_cases h : x = y <;> simp [h]
end Go.Proofs.YtomffpibdinkaaaGreatDoor
namespace Go.Proofs.YtomffpibdinkaaaGreatDoor
set_option maxRecDepth 100000
set_option maxHeartbeats 16000000
open Go.RowKit
def vtype (b : UInt8) : Bool := decide (b.toNat = 127 ∨ b.toNat = 126)
def vtypes (l : List UInt8) (most : Int) : Bool := l.all vtype && decide ((l.length : Int) ≤ most)
def word4 (n : Int) : Bool := decide (0 ≤ n ∧ n < 4294967296)
def small4 (n : Int) : Bool := decide (-2147483648 ≤ n ∧ n < 2147483648)
def RowsAt {α : Type} (w : World) (p : Option Addr) (c : Nat) (row : α → List Value) (l : List α) : Prop :=
  ∀ j (hj : j < l.length) (i : Nat) (v : Value), (row l[j])[i]? = some v → ∃ b o, p = some ⟨b, o, none⟩ ∧ b < w.heap.size ∧ w.cell? ⟨b, o + j * c + i, none⟩ = some v
theorem RowsAt.below {α : Type} {w w' : World} {p : Option Addr} {c : Nat} {row : α → List Value} {l : List α} {B : Nat} (h : RowsAt w p c row l) (hB : Below B w w') (hs : w.heap.size ≤ B) : RowsAt w' p c row l := fun j hj i v hv => by
  obtain ⟨b, o, hp, hb, hc⟩ := h j hj i v hv
  exact ⟨b, o, hp, Nat.lt_of_lt_of_le hb hB.size, by rw [hB.cell (p := ⟨b, o + j * c + i, none⟩) (by show b < B; omega)]; exact hc⟩
theorem RowsAt.nil {α : Type} {w : World} {p : Option Addr} {c : Nat} {row : α → List Value} : RowsAt w p c row [] := fun j hj => absurd hj (by simp)
theorem RowsAt.start {α : Type} {w : World} {p : Option Addr} {c : Nat} {row : α → List Value} {l : List α} (h : RowsAt w p c row l) {j : Nat} (hj : j < l.length) {v : Value} {r : List Value} (hr : row l[j] = v :: r) : ∃ b o, p = some ⟨b, o, none⟩ ∧ b < w.heap.size := by
  obtain ⟨b, o, hp, hb, _⟩ := h j hj 0 v (by rw [hr]; rfl)
  exact ⟨b, o, hp, hb⟩
theorem RowsAt.cell {α : Type} {w : World} {b o : Nat} {c : Nat} {row : α → List Value} {l : List α} (h : RowsAt w (some ⟨b, o, none⟩) c row l) {j : Nat} (hj : j < l.length) (i : Nat) {v : Value} (hv : (row l[j])[i]? = some v) : w.cell? ⟨b, o + j * c + i, none⟩ = some v := by
  obtain ⟨b', o', e, _, hc⟩ := h j hj i v hv
  injection e with e; injection e with e1 e2; subst e1; subst e2; exact hc
structure InsV where
  op : Int
  a : Int
  b : Int
  lp : Option Addr
  lc : Nat
  ls : List Int
def InsV.row (x : InsV) : List Value := [.int .i64 x.op, .int .i64 x.a, .int .i64 x.b, .slice x.lp x.ls.length x.lc]
def InsV.val (x : InsV) : Value := .agg #[.int .i64 x.op, .int .i64 x.a, .int .i64 x.b, .slice x.lp x.ls.length x.lc]
def inI64 (n : Int) : Prop := -9223372036854775808 ≤ n ∧ n ≤ 9223372036854775807
def InsAt (w : World) (x : InsV) : Prop := IntsAt w x.lp x.ls ∧ x.ls.length ≤ 17592186044416 ∧ inI64 x.op ∧ inI64 x.a ∧ inI64 x.b ∧ ∀ n ∈ x.ls, inI64 n
theorem InsAt.below {w w' : World} {x : InsV} {B : Nat} (h : InsAt w x) (hB : Below B w w') (hs : w.heap.size ≤ B) : InsAt w' x := ⟨h.1.below hB hs, h.2⟩
def CodeAt (w : World) (p : Option Addr) (l : List InsV) : Prop := RowsAt w p 4 InsV.row l ∧ (∀ x ∈ l, InsAt w x) ∧ l.length ≤ 4398046511104
theorem CodeAt.below {w w' : World} {p : Option Addr} {l : List InsV} {B : Nat} (h : CodeAt w p l) (hB : Below B w w') (hs : w.heap.size ≤ B) : CodeAt w' p l := ⟨h.1.below hB hs, fun x hx => (h.2.1 x hx).below hB hs, h.2.2⟩
def opsOf (l : List InsV) : List Int := l.map (·.op)
structure FnV where
  type : Int
  locals : ByteArray
  cp : Option Addr
  cc : Nat
  code : List InsV
def FnV.row (f : FnV) : List Value := [.int .i64 f.type, .string f.locals, .slice f.cp f.code.length f.cc]
def FnV.val (f : FnV) : Value := .agg #[.int .i64 f.type, .string f.locals, .slice f.cp f.code.length f.cc]
def FnAt (w : World) (f : FnV) : Prop := CodeAt w f.cp f.code ∧ f.locals.size ≤ maxLen ∧ inI64 f.type
theorem FnAt.below {w w' : World} {f : FnV} {B : Nat} (h : FnAt w f) (hB : Below B w w') (hs : w.heap.size ≤ B) : FnAt w' f := ⟨h.1.below hB hs, h.2⟩
structure TyV where
  params : ByteArray
  results : ByteArray
def TyV.row (t : TyV) : List Value := [.string t.params, .string t.results]
structure MemV where
  min : Int
  max : Int
def MemV.row (t : MemV) : List Value := [.int .i64 t.min, .int .i64 t.max]
structure GlobV where
  type : Int
  may : Bool
  init : Int
def GlobV.row (t : GlobV) : List Value := [.int .i64 t.type, .bool t.may, .int .i64 t.init]
structure ExpV where
  name : ByteArray
  kind : Int
  index : Int
def ExpV.row (t : ExpV) : List Value := [.string t.name, .int .i64 t.kind, .int .i64 t.index]
structure DatV where
  offset : Int
  bytes : ByteArray
def DatV.row (t : DatV) : List Value := [.int .i64 t.offset, .string t.bytes]
structure MoV where
  tp : Option Addr
  tc : Nat
  types : List TyV
  fp : Option Addr
  fc : Nat
  funcs : List FnV
  mp : Option Addr
  mc : Nat
  memory : List MemV
  gp : Option Addr
  gc : Nat
  globals : List GlobV
  ep : Option Addr
  ec : Nat
  exports : List ExpV
  start : Int
  dp : Option Addr
  dc : Nat
  data : List DatV
def MoV.cells (m : MoV) : List Value := [.slice m.tp m.types.length m.tc, .slice m.fp m.funcs.length m.fc, .slice m.mp m.memory.length m.mc, .slice m.gp m.globals.length m.gc, .slice m.ep m.exports.length m.ec, .int .i64 m.start, .slice m.dp m.data.length m.dc]
def MoV.val (m : MoV) : Value := .agg #[.slice m.tp m.types.length m.tc, .slice m.fp m.funcs.length m.fc, .slice m.mp m.memory.length m.mc, .slice m.gp m.globals.length m.gc, .slice m.ep m.exports.length m.ec, .int .i64 m.start, .slice m.dp m.data.length m.dc]
def mostThings : Nat := 140737488355328
structure ModAt (w : World) (m : MoV) : Prop where
  types : RowsAt w m.tp 2 TyV.row m.types
  typesIn : ∀ t ∈ m.types, t.params.size ≤ maxLen ∧ t.results.size ≤ maxLen
  typesMost : m.types.length ≤ mostThings
  funcs : RowsAt w m.fp 3 FnV.row m.funcs
  funcsIn : ∀ f ∈ m.funcs, FnAt w f
  funcsMost : m.funcs.length ≤ mostThings
  memory : RowsAt w m.mp 2 MemV.row m.memory
  memoryIn : ∀ t ∈ m.memory, inI64 t.min ∧ inI64 t.max
  memoryMost : m.memory.length ≤ mostThings
  globals : RowsAt w m.gp 3 GlobV.row m.globals
  globalsIn : ∀ t ∈ m.globals, inI64 t.type ∧ inI64 t.init
  globalsMost : m.globals.length ≤ mostThings
  exports : RowsAt w m.ep 3 ExpV.row m.exports
  exportsIn : ∀ t ∈ m.exports, t.name.size ≤ maxLen ∧ inI64 t.kind ∧ inI64 t.index
  exportsMost : m.exports.length ≤ mostThings
  startIn : inI64 m.start
  data : RowsAt w m.dp 2 DatV.row m.data
  dataIn : ∀ t ∈ m.data, inI64 t.offset ∧ t.bytes.size ≤ maxLen
  dataMost : m.data.length ≤ mostThings
theorem ModAt.below {w w' : World} {m : MoV} {B : Nat} (h : ModAt w m) (hB : Below B w w') (hs : w.heap.size ≤ B) : ModAt w' m :=
  { h with types := h.types.below hB hs, funcs := h.funcs.below hB hs, funcsIn := fun f hf => (h.funcsIn f hf).below hB hs, memory := h.memory.below hB hs, globals := h.globals.below hB hs, exports := h.exports.below hB hs, data := h.data.below hB hs }
def rightIns (x : InsV) : Bool := rightOf (byCode x.op) x.op x.a x.b x.ls
def rightFn (f : FnV) : Bool := f.code.all rightIns && (word4 f.type && vtypes f.locals.data.toList 4096 && runs (opsOf f.code) [])
def rightTy (t : TyV) : Bool := vtypes t.params.data.toList 4096 && vtypes t.results.data.toList 1
def rightMem (t : MemV) : Bool := word4 t.min && (decide (t.max = -1) || word4 t.max)
def rightGlob (t : GlobV) : Bool := decide (t.type = 126) || (decide (t.type = 127) && small4 t.init)
def rightExp (t : ExpV) : Bool := isName t.name.data.toList && (decide (t.kind = 0 ∨ t.kind = 2 ∨ t.kind = 3) && word4 t.index)
def rightDat (t : DatV) : Bool := small4 t.offset
def fewMod (m : MoV) : Prop := m.types.length ≤ 4096 ∧ m.funcs.length ≤ 4096 ∧ m.memory.length ≤ 4096 ∧ m.globals.length ≤ 4096 ∧ m.exports.length ≤ 4096 ∧ m.data.length ≤ 4096 ∧ (m.start = -1 ∨ word4 m.start = true)
instance (m : MoV) : Decidable (fewMod m) := by unfold fewMod; infer_instance
def rightMod (m : MoV) : Bool := decide (fewMod m) && (m.types.all rightTy && (m.funcs.all rightFn && (m.memory.all rightMem && (m.globals.all rightGlob && (m.exports.all rightExp && m.data.all rightDat)))))
end Go.Proofs.YtomffpibdinkaaaGreatDoor
namespace Go.Proofs.YtomffpibdinkaaaGreatDoor
set_option maxRecDepth 100000
set_option maxHeartbeats 16000000
open Go.RowKit
variable {pr : List (Nat × Obj)}
structure PI where
  op : Int
  a : Int
  b : Int
structure PO where
  op : Int
  result : Int
  height : Nat
structure PS where
  code : List PI
  stack : List Int
  opens : List PO
def PI.cells (x : PI) : List Value := [.int .i64 x.op, .int .i64 x.a, .int .i64 x.b, .slice none 0 0]
def PO.cells (x : PO) : List Value := [.int .i64 x.op, .int .u8 x.result, .int .i64 x.height]
def codeCells (l : List PI) : List Value := l.flatMap PI.cells
def openCells (l : List PO) : List Value := l.flatMap PO.cells
def stackCells (l : List Int) : List Value := l.map (.int .u8)
def apart (u v : Value) : Prop := ∀ g, u.ownBlock = some g → v.ownBlock ≠ some g
theorem apart.symm {u v : Value} (h : apart u v) : apart v u := fun g hg hu => h g hu hg
structure ProgAt (w0 : World) (pr : List (Nat × Obj)) (s : PS) (cv sv ov : Value) (w : World) : Prop where
  below : Below w0.heap.size w0 w
  size : w0.heap.size + 1 ≤ w.heap.size
  at3 : w.heap[w0.heap.size]? = some (.cells #[cv, sv, ov] 64)
  code : w.ownsRow (w0.heap.size + 1) 38 4 cv s.code.length (codeCells s.code)
  stack : w.ownsRow (w0.heap.size + 1) 5 1 sv s.stack.length (stackCells s.stack)
  opens : w.ownsRow (w0.heap.size + 1) 68 3 ov s.opens.length (openCells s.opens)
  cs : apart cv sv
  co : apart cv ov
  so : apart sv ov
  keep : ∀ p ∈ pr, w.heap[p.1]? = some p.2 ∧ p.1 ≠ w0.heap.size ∧ cv.ownBlock ≠ some p.1 ∧ sv.ownBlock ≠ some p.1 ∧ ov.ownBlock ≠ some p.1
def Prog (w0 : World) (pr : List (Nat × Obj)) (s : PS) (w : World) : Prop := ∃ cv sv ov, ProgAt w0 pr s cv sv ov w
theorem prog_cells {w0 w : World} {s : PS} {cv sv ov : Value} (h : ProgAt w0 pr s cv sv ov w) :
    w.cell? ⟨w0.heap.size, 0, none⟩ = some cv ∧ w.cell? ⟨w0.heap.size, 1, none⟩ = some sv ∧ w.cell? ⟨w0.heap.size, 2, none⟩ = some ov ∧ w.frozen? ⟨w0.heap.size, 0, none⟩ = false ∧ w.frozen? ⟨w0.heap.size, 1, none⟩ = false ∧ w.frozen? ⟨w0.heap.size, 2, none⟩ = false := by
  have c : ∀ j, w.cell? ⟨w0.heap.size, j, none⟩ = #[cv, sv, ov][j]? := fun j => by simp [World.cell?, h.at3]
  have f : ∀ j, w.frozen? ⟨w0.heap.size, j, none⟩ = false := fun j => by simp [World.frozen?, h.at3]
  exact ⟨c 0, c 1, c 2, f 0, f 1, f 2⟩
theorem own_ge {w : World} {base : Nat} {e : TypeId} {size : Nat} {v : Value} {n : Nat} {xs : List Value} (h : w.ownsRow base e size v n xs) : ∀ g, v.ownBlock = some g → base ≤ g ∧ g < w.heap.size := fun g hg => World.ownsRow.lt h g hg
theorem heap_lt {w : World} {b : Nat} {o : Obj} (h : w.heap[b]? = some o) : b < w.heap.size := by
  by_cases hh : b < w.heap.size
  · exact hh
  · rw [Array.getElem?_eq_none (by omega)] at h; cases h
theorem ProgAt.alloc {w0 w : World} {s : PS} {cv sv ov : Value} (h : ProgAt w0 pr s cv sv ov w) (o : Obj) : ProgAt w0 pr s cv sv ov (w.alloc o) :=
  { h with below := h.below.alloc (by have := h.size; omega) o, size := by have := h.size; simp; omega, at3 := by rw [Below.heap_alloc w o _ (by have := h.size; omega)]; exact h.at3, code := h.code.alloc o, stack := h.stack.alloc o, opens := h.opens.alloc o, keep := fun p hp => ⟨by rw [Below.heap_alloc w o _ (heap_lt (h.keep p hp).1)]; exact (h.keep p hp).1, (h.keep p hp).2⟩ }
theorem ProgAt.drew {w0 w : World} {s : PS} {cv sv ov : Value} (h : ProgAt w0 pr s cv sv ov w) : ProgAt w0 pr s cv sv ov w.drew :=
  { h with below := h.below.drew, size := h.size, at3 := h.at3, code := h.code, stack := h.stack, opens := h.opens, keep := h.keep }
theorem ProgAt.allocKept {w0 w : World} {s : PS} {cv sv ov : Value} (h : ProgAt w0 pr s cv sv ov w) (o : Obj) : ProgAt w0 ((w.heap.size, o) :: pr) s cv sv ov (w.alloc o) := by
  have ha := h.alloc o
  refine { ha with keep := fun p hp => ?_ }
  rcases List.mem_cons.1 hp with rfl | hp
  · have hs := h.size
    refine ⟨heap_alloc_new w o, by show w.heap.size ≠ _; omega, fun e => ?_, fun e => ?_, fun e => ?_⟩
    · exact Nat.lt_irrefl _ (own_ge h.code _ e).2
    · exact Nat.lt_irrefl _ (own_ge h.stack _ e).2
    · exact Nat.lt_irrefl _ (own_ge h.opens _ e).2
  · exact ha.keep p hp
theorem ProgAt.forget {w0 w : World} {p : Nat × Obj} {s : PS} {cv sv ov : Value} (h : ProgAt w0 (p :: pr) s cv sv ov w) : ProgAt w0 pr s cv sv ov w :=
  { h with keep := fun q hq => h.keep q (List.mem_cons_of_mem _ hq) }
theorem Prog.forget {w0 w : World} {p : Nat × Obj} {s : PS} (h : Prog w0 (p :: pr) s w) : Prog w0 pr s w := by
  obtain ⟨cv, sv, ov, h⟩ := h; exact ⟨cv, sv, ov, h.forget⟩
theorem Prog.kept {w0 w : World} {p : Nat × Obj} {s : PS} (h : Prog w0 (p :: pr) s w) : w.heap[p.1]? = some p.2 := by
  obtain ⟨cv, sv, ov, h⟩ := h; exact (h.keep p (List.mem_cons_self ..)).1
theorem instr_info : (Tryz.prog.info? 38).map (fun i => (i.zero, i.size, i.bytes)) = some (some (.agg #[.int .i64 0, .int .i64 0, .int .i64 0, .slice none 0 0]), 4, 48) := by kernel_rfl
theorem u8_info : (Tryz.prog.info? 5).map (fun i => (i.zero, i.size, i.bytes)) = some (some (.int .u8 0), 1, 1) := by kernel_rfl
theorem opened_info : (Tryz.prog.info? 68).map (fun i => (i.zero, i.size, i.bytes)) = some (some (.agg #[.int .i64 0, .int .u8 0, .int .i64 0]), 3, 24) := by kernel_rfl
theorem ProgAt.setCode {w0 w w' : World} {s : PS} {cv sv ov cv' : Value} (h : ProgAt w0 pr s cv sv ov w) (hg : w.grownBy w' cv.ownBlock) (l : List PI) (hown : w'.ownsRow (w0.heap.size + 1) 38 4 cv' l.length (codeCells l)) (hloc : cv'.ownBlock = cv.ownBlock ∨ cv'.ownBlock = some w.heap.size) :
    ProgAt w0 pr { s with code := l } cv' sv ov (w'.setCell ⟨w0.heap.size, 0, none⟩ cv') := by
  have hs := h.size
  have hgs := hg.size
  have hne : ∀ g, cv.ownBlock = some g → w0.heap.size + 1 ≤ g := fun g hg => (own_ge h.code g hg).1
  have hat : w'.heap[w0.heap.size]? = some (.cells #[cv, sv, ov] 64) := by
    rw [hg.block _ (by omega) (fun e => by have := hne _ e.symm; omega)]; exact h.at3
  have hset : ∀ (v : Value) (n : Nat) (e : TypeId) (sz : Nat) (xs : List Value), w'.ownsRow (w0.heap.size + 1) e sz v n xs → (w'.setCell ⟨w0.heap.size, 0, none⟩ cv').ownsRow (w0.heap.size + 1) e sz v n xs := fun v n e sz xs ho => ownsRow_setCell_below ho (by show w0.heap.size < _; omega) cv'
  have hap : ∀ {u : Value} {n : Nat} {e : TypeId} {sz : Nat} {xs : List Value}, w.ownsRow (w0.heap.size + 1) e sz u n xs → apart cv u → apart cv' u := fun {u n e sz xs} ho ha g hg' hu => by
    rcases hloc with e1 | e1
    · exact ha g (e1 ▸ hg') hu
    · rw [e1] at hg'; injection hg' with hg'
      have := (own_ge ho g hu).2; omega
  have hkeep : ∀ {u : Value} {n : Nat} {e : TypeId} {sz : Nat} {xs : List Value}, w.ownsRow (w0.heap.size + 1) e sz u n xs → apart cv u → w'.ownsRow (w0.heap.size + 1) e sz u n xs := fun {u n e sz xs} ho ha => ho.kept hg (by
    cases hu : u.ownBlock with
    | none => exact .inl rfl
    | some g => exact .inr fun e => ha g e.symm hu)
  exact ⟨(h.below.grown hg (by omega) (fun g hg' => by have := hne g hg'; omega)).setCell (by show w0.heap.size ≤ w0.heap.size; omega) _, by simp [World.setCell]; omega, heap_setCell_same _ _ 0 _ _ _ hat, hset _ _ _ _ _ hown, hset _ _ _ _ _ (hkeep h.stack h.cs), hset _ _ _ _ _ (hkeep h.opens h.co), hap h.stack h.cs, hap h.opens h.co, h.so, fun p hp => by
    obtain ⟨k1, k2, k3, k4, k5⟩ := h.keep p hp
    have hlt := heap_lt k1
    have hv : cv'.ownBlock ≠ some p.1 := fun e => by
      rcases hloc with e1 | e1
      · rw [e1] at e; exact absurd e (by assumption)
      · rw [e1] at e; injection e with e; omega
    exact ⟨by rw [Below.heap_setCell _ _ _ _ k2, hg.block _ hlt (fun e => absurd e.symm (by assumption))]; exact k1, k2, hv, k4, k5⟩⟩
theorem ProgAt.setStack {w0 w w' : World} {s : PS} {cv sv ov sv' : Value} (h : ProgAt w0 pr s cv sv ov w) (hg : w.grownBy w' sv.ownBlock) (l : List Int) (hown : w'.ownsRow (w0.heap.size + 1) 5 1 sv' l.length (stackCells l)) (hloc : sv'.ownBlock = sv.ownBlock ∨ sv'.ownBlock = some w.heap.size) :
    ProgAt w0 pr { s with stack := l } cv sv' ov (w'.setCell ⟨w0.heap.size, 1, none⟩ sv') := by
  have hs := h.size
  have hgs := hg.size
  have hne : ∀ g, sv.ownBlock = some g → w0.heap.size + 1 ≤ g := fun g hg => (own_ge h.stack g hg).1
  have hat : w'.heap[w0.heap.size]? = some (.cells #[cv, sv, ov] 64) := by
    rw [hg.block _ (by omega) (fun e => by have := hne _ e.symm; omega)]; exact h.at3
  have hset : ∀ (v : Value) (n : Nat) (e : TypeId) (sz : Nat) (xs : List Value), w'.ownsRow (w0.heap.size + 1) e sz v n xs → (w'.setCell ⟨w0.heap.size, 1, none⟩ sv').ownsRow (w0.heap.size + 1) e sz v n xs := fun v n e sz xs ho => ownsRow_setCell_below ho (by show w0.heap.size < _; omega) sv'
  have hap : ∀ {u : Value} {n : Nat} {e : TypeId} {sz : Nat} {xs : List Value}, w.ownsRow (w0.heap.size + 1) e sz u n xs → apart sv u → apart sv' u := fun {u n e sz xs} ho ha g hg' hu => by
    rcases hloc with e1 | e1
    · exact ha g (e1 ▸ hg') hu
    · rw [e1] at hg'; injection hg' with hg'
      have := (own_ge ho g hu).2; omega
  have hkeep : ∀ {u : Value} {n : Nat} {e : TypeId} {sz : Nat} {xs : List Value}, w.ownsRow (w0.heap.size + 1) e sz u n xs → apart sv u → w'.ownsRow (w0.heap.size + 1) e sz u n xs := fun {u n e sz xs} ho ha => ho.kept hg (by
    cases hu : u.ownBlock with
    | none => exact .inl rfl
    | some g => exact .inr fun e => ha g e.symm hu)
  exact ⟨(h.below.grown hg (by omega) (fun g hg' => by have := hne g hg'; omega)).setCell (by show w0.heap.size ≤ w0.heap.size; omega) _, by simp [World.setCell]; omega, heap_setCell_same _ _ 1 _ _ _ hat, hset _ _ _ _ _ (hkeep h.code h.cs.symm), hset _ _ _ _ _ hown, hset _ _ _ _ _ (hkeep h.opens h.so), (hap h.code h.cs.symm).symm, h.co, hap h.opens h.so, fun p hp => by
    obtain ⟨k1, k2, k3, k4, k5⟩ := h.keep p hp
    have hlt := heap_lt k1
    have hv : sv'.ownBlock ≠ some p.1 := fun e => by
      rcases hloc with e1 | e1
      · rw [e1] at e; exact absurd e (by assumption)
      · rw [e1] at e; injection e with e; omega
    exact ⟨by rw [Below.heap_setCell _ _ _ _ k2, hg.block _ hlt (fun e => absurd e.symm (by assumption))]; exact k1, k2, k3, hv, k5⟩⟩
theorem ProgAt.setOpens {w0 w w' : World} {s : PS} {cv sv ov ov' : Value} (h : ProgAt w0 pr s cv sv ov w) (hg : w.grownBy w' ov.ownBlock) (l : List PO) (hown : w'.ownsRow (w0.heap.size + 1) 68 3 ov' l.length (openCells l)) (hloc : ov'.ownBlock = ov.ownBlock ∨ ov'.ownBlock = some w.heap.size) :
    ProgAt w0 pr { s with opens := l } cv sv ov' (w'.setCell ⟨w0.heap.size, 2, none⟩ ov') := by
  have hs := h.size
  have hgs := hg.size
  have hne : ∀ g, ov.ownBlock = some g → w0.heap.size + 1 ≤ g := fun g hg => (own_ge h.opens g hg).1
  have hat : w'.heap[w0.heap.size]? = some (.cells #[cv, sv, ov] 64) := by
    rw [hg.block _ (by omega) (fun e => by have := hne _ e.symm; omega)]; exact h.at3
  have hset : ∀ (v : Value) (n : Nat) (e : TypeId) (sz : Nat) (xs : List Value), w'.ownsRow (w0.heap.size + 1) e sz v n xs → (w'.setCell ⟨w0.heap.size, 2, none⟩ ov').ownsRow (w0.heap.size + 1) e sz v n xs := fun v n e sz xs ho => ownsRow_setCell_below ho (by show w0.heap.size < _; omega) ov'
  have hap : ∀ {u : Value} {n : Nat} {e : TypeId} {sz : Nat} {xs : List Value}, w.ownsRow (w0.heap.size + 1) e sz u n xs → apart ov u → apart ov' u := fun {u n e sz xs} ho ha g hg' hu => by
    rcases hloc with e1 | e1
    · exact ha g (e1 ▸ hg') hu
    · rw [e1] at hg'; injection hg' with hg'
      have := (own_ge ho g hu).2; omega
  have hkeep : ∀ {u : Value} {n : Nat} {e : TypeId} {sz : Nat} {xs : List Value}, w.ownsRow (w0.heap.size + 1) e sz u n xs → apart ov u → w'.ownsRow (w0.heap.size + 1) e sz u n xs := fun {u n e sz xs} ho ha => ho.kept hg (by
    cases hu : u.ownBlock with
    | none => exact .inl rfl
    | some g => exact .inr fun e => ha g e.symm hu)
  exact ⟨(h.below.grown hg (by omega) (fun g hg' => by have := hne g hg'; omega)).setCell (by show w0.heap.size ≤ w0.heap.size; omega) _, by simp [World.setCell]; omega, heap_setCell_same _ _ 2 _ _ _ hat, hset _ _ _ _ _ (hkeep h.code h.co.symm), hset _ _ _ _ _ (hkeep h.stack h.so.symm), hset _ _ _ _ _ hown, h.cs, (hap h.code h.co.symm).symm, (hap h.stack h.so.symm).symm, fun p hp => by
    obtain ⟨k1, k2, k3, k4, k5⟩ := h.keep p hp
    have hlt := heap_lt k1
    have hv : ov'.ownBlock ≠ some p.1 := fun e => by
      rcases hloc with e1 | e1
      · rw [e1] at e; exact absurd e (by assumption)
      · rw [e1] at e; injection e with e; omega
    exact ⟨by rw [Below.heap_setCell _ _ _ _ k2, hg.block _ hlt (fun e => absurd e.symm (by assumption))]; exact k1, k2, k3, k4, hv⟩⟩
theorem own_any {w : World} {base : Nat} {e : TypeId} {size : Nat} {v : Value} {n : Nat} {xs : List Value} (h : w.ownsRow base e size v n xs) : ∃ p cap, v = .slice p n cap := by
  rcases h.2 with ⟨rfl, rfl⟩ | ⟨g, cap, cur, rfl, _⟩
  · exact ⟨none, 0, rfl⟩
  · exact ⟨_, cap, rfl⟩
theorem codeCells_snoc (l : List PI) (x : PI) : codeCells (l ++ [x]) = codeCells l ++ x.cells := by simp [codeCells]
theorem openCells_snoc (l : List PO) (x : PO) : openCells (l ++ [x]) = openCells l ++ x.cells := by simp [openCells]
theorem stackCells_snoc (l : List Int) (x : Int) : stackCells (l ++ [x]) = stackCells l ++ [.int .u8 x] := by simp [stackCells]
theorem cells_new (w : World) (c : List Value) (t : TypeId) : ∀ j u, c[j]? = some u → (w.alloc (.cells c.toArray t)).cell? ((⟨w.heap.size, 0, none⟩ : Addr).add j) = some u := by
  intro j u hj
  have e : (⟨w.heap.size, 0, none⟩ : Addr).add j = ⟨w.heap.size, j, none⟩ := by
    unfold Addr.add; split
    · rename_i h0; rw [h0]
    · simp
  rw [e, World.cell?_alloc_new]; simpa using hj
theorem bare {P : Program} {c : Code} {Q : Exit → Act → World → Prop} {a : Act} {w : World} (h : c.wp P (Exit.then (fun a w => Q .normal a w) Q) a w) : c.wp P Q a w :=
  Code.wp_mono (fun e a w he => by cases e <;> exact he) h
theorem put_of (w0 : World) (s : PS) (op a b : Int) (hlen : s.code.length ≤ 1000000) (w : World) (h : Prog w0 pr s w) :
    Calls Tryz.prog 17 #[.pointer (some ⟨w0.heap.size, 0, none⟩), .int .i64 op, .int .i64 a, .int .i64 b] w fun e w' => e = .returned (.tuple #[]) ∧ Prog w0 pr { s with code := s.code ++ [(⟨op, a, b⟩ : PI)] } w' := by
  obtain ⟨cv, sv, ov, h⟩ := h
  obtain ⟨i0, hi, hz0, hz1, hz2⟩ := info_parts instr_info
  obtain ⟨c0, c1, c2, f0, f1, f2⟩ := prog_cells h
  have ha := h.alloc (.cells #[.int .i64 op, .int .i64 a, .int .i64 b, .slice none 0 0] 38)
  have hs := h.size
  have k0 := fun o => (World.cell?_alloc_lt w o (⟨w0.heap.size, 0, none⟩ : Addr) (by show w0.heap.size < _; omega)).trans c0
  have k1 := fun o => (World.cell?_alloc_lt w o (⟨w0.heap.size, 1, none⟩ : Addr) (by show w0.heap.size < _; omega)).trans c1
  have k2 := fun o => (World.cell?_alloc_lt w o (⟨w0.heap.size, 2, none⟩ : Addr) (by show w0.heap.size < _; omega)).trans c2
  go_enter Tryz.func17, Tryz.ntmps17
  refine bare ?_
  go_wp2_with (at_builtin; refine wpList_append_own_at _ rfl (.tmp 12) (.tmp 17) 33 rfl (w0.heap.size + 1) 38 i0 (.agg #[.int .i64 0, .int .i64 0, .int .i64 0, .slice none 0 0]) 4 48 Tryz.underlying33 hi hz0 hz1 hz2 rfl (by decide) cv s.code.length _ rfl ha.code ⟨w.heap.size, 0, none⟩ 1 1 (PI.cells ⟨op, a, b⟩) rfl rfl (cells_new w (PI.cells ⟨op, a, b⟩) 38) (by intro u hu; simp [PI.cells] at hu; rcases hu with rfl | rfl | rfl | rfl <;> rfl) (by unfold maxLen; omega) (by omega) (by simp; omega) ?_)
  intro v' w1 hown' hgrow _ hloc
  rw [← codeCells_snoc] at hown'
  have hn : s.code.length + 1 = (s.code ++ [(⟨op, a, b⟩ : PI)]).length := by simp
  rw [hn] at hown'
  have h2 := ha.setCode hgrow _ hown' (by simpa using hloc)
  obtain ⟨vp, vc, rfl⟩ := own_any hown'
  have hg1 := hgrow.size
  have hgc : w1.heap[w0.heap.size]? = some (.cells #[cv, sv, ov] 64) := by
    rw [hgrow.block _ (by simp; omega) (fun e => by have := (own_ge h.code _ e.symm).1; omega)]; exact ha.at3
  have d0 : w1.cell? ⟨w0.heap.size, 0, none⟩ = some cv := by simp [World.cell?, hgc]
  have d1 : w1.frozen? ⟨w0.heap.size, 0, none⟩ = false := by simp [World.frozen?, hgc]
  have H2 := Lib.hid h2
  clear h2 hgc hgrow hown' hn ha h c0 c1 c2 k0 k1 k2
  go_wp2
  go_end0
  exact ⟨rfl, _, _, _, by have := H2.out; simp only [List.length_append, List.length_cons, List.length_nil, Nat.zero_add] at this; exact this⟩
theorem push_of (w0 : World) (s : PS) (kind : Int) (hlen : s.stack.length ≤ 1000000) (w : World) (h : Prog w0 pr s w) :
    Calls Tryz.prog 27 #[.pointer (some ⟨w0.heap.size, 0, none⟩), .int .u8 kind] w fun e w' => e = .returned (.tuple #[]) ∧ Prog w0 pr { s with stack := s.stack ++ [kind] } w' := by
  obtain ⟨cv, sv, ov, h⟩ := h
  obtain ⟨i0, hi, hz0, hz1, hz2⟩ := info_parts u8_info
  obtain ⟨c0, c1, c2, f0, f1, f2⟩ := prog_cells h
  have ha := h.alloc (.cells #[.int .u8 kind] 5)
  have hs := h.size
  have k0 := fun o => (World.cell?_alloc_lt w o (⟨w0.heap.size, 0, none⟩ : Addr) (by show w0.heap.size < _; omega)).trans c0
  have k1 := fun o => (World.cell?_alloc_lt w o (⟨w0.heap.size, 1, none⟩ : Addr) (by show w0.heap.size < _; omega)).trans c1
  have k2 := fun o => (World.cell?_alloc_lt w o (⟨w0.heap.size, 2, none⟩ : Addr) (by show w0.heap.size < _; omega)).trans c2
  go_enter Tryz.func27, Tryz.ntmps27
  refine bare ?_
  go_wp2_with (at_builtin; refine wpList_append_own_at _ rfl (.tmp 8) (.tmp 10) 61 rfl (w0.heap.size + 1) 5 i0 (.int .u8 0) 1 1 Tryz.underlying61 hi hz0 hz1 hz2 rfl (by decide) sv s.stack.length _ rfl ha.stack ⟨w.heap.size, 0, none⟩ 1 1 [.int .u8 kind] rfl rfl (cells_new w [.int .u8 kind] 5) (by intro u hu; simp at hu; subst hu; rfl) (by unfold maxLen; omega) (by omega) (by simp; omega) ?_)
  intro v' w1 hown' hgrow _ hloc
  rw [← stackCells_snoc] at hown'
  have hn : s.stack.length + 1 = (s.stack ++ [kind]).length := by simp
  rw [hn] at hown'
  have h2 := ha.setStack hgrow _ hown' (by simpa using hloc)
  obtain ⟨vp, vc, rfl⟩ := own_any hown'
  have hg1 := hgrow.size
  have hgc : w1.heap[w0.heap.size]? = some (.cells #[cv, sv, ov] 64) := by
    rw [hgrow.block _ (by simp; omega) (fun e => by have := (own_ge h.stack _ e.symm).1; omega)]; exact ha.at3
  have d0 : w1.cell? ⟨w0.heap.size, 1, none⟩ = some sv := by simp [World.cell?, hgc]
  have d1 : w1.frozen? ⟨w0.heap.size, 1, none⟩ = false := by simp [World.frozen?, hgc]
  have H2 := Lib.hid h2
  clear h2 hgc hgrow hown' hn ha h c0 c1 c2 k0 k1 k2
  go_wp2
  go_end0
  exact ⟨rfl, _, _, _, by have := H2.out; simp only [List.length_append, List.length_cons, List.length_nil, Nat.zero_add] at this; exact this⟩
end Go.Proofs.YtomffpibdinkaaaGreatDoor
