/-
  The document's own list of instructions, its rows: walked. Contracts that the proofs call; no statement is proved here.
-/
import Derived.Test.YthfipknfdnfalaaGreatDoorKcOpSpec
import Derived.Test.YthfipknfdnfalaaGreatDoorKcModStruct
namespace Go.Proofs.YthfipknfdnfalaaGreatDoor
set_option maxRecDepth 100000
set_option maxHeartbeats 16000000
open Go.RowKit
end Go.Proofs.YthfipknfdnfalaaGreatDoor
namespace Go.Proofs.YthfipknfdnfalaaGreatDoor
set_option maxRecDepth 100000
set_option maxHeartbeats 16000000
open Go.RowKit
def NamesAt (w : World) (bk : Nat) (ns : List ByteArray) : Prop := ∀ j (hj : j < ns.length), w.cell? ⟨bk, j, none⟩ = some (.string ns[j])
theorem NamesAt.alloc {w : World} {bk : Nat} {ns : List ByteArray} (h : NamesAt w bk ns) (hb : bk < w.heap.size) (o : Obj) : NamesAt (w.alloc o) bk ns := fun j hj => by
  rw [World.cell?_alloc_lt w o _ hb]; exact h j hj
theorem NamesAt.grown {w w' : World} {bk : Nat} {ns : List ByteArray} {row : Option Nat} (h : NamesAt w bk ns) (hb : bk < w.heap.size) (hg : w.grownBy w' row) (hn : row ≠ some bk) : NamesAt w' bk ns := fun j hj => by
  rw [World.cell?_of_block (w := w) (hg.block bk hb (fun e => hn e.symm))]; exact h j hj
end Go.Proofs.YthfipknfdnfalaaGreatDoor
namespace Go.Proofs.YthfipknfdnfalaaGreatDoor
set_option maxRecDepth 100000
set_option maxHeartbeats 16000000
open Go.RowKit
def infoVal : Option Rw → Value
  | some r => .agg #[.string r.name, .int .i64 r.shape, .string r.params, .string r.results]
  | none => .agg #[.string ⟨#[]⟩, .int .i64 0, .string ⟨#[]⟩, .string ⟨#[]⟩]
def byCode (code : Int) : Option Rw := allRows.find? fun r => r.code == code
theorem allRows_bd : ∀ r ∈ allRows, 0 ≤ r.code ∧ r.code ≤ 255 ∧ 0 ≤ r.shape ∧ r.shape ≤ 7 ∧ r.name.size ≤ 30 ∧ r.params.size ≤ 2 ∧ r.results.size ≤ 1 := by decide +kernel
theorem res_cells {w w1 : World} {a b c d : Value} {t : TypeId} (hB : Below (w.alloc (.cells #[a, b, c, d] t)).heap.size (w.alloc (.cells #[a, b, c, d] t)) w1) :
    w1.cell? ⟨w.heap.size, 0, none⟩ = some a ∧ w1.cell? ⟨w.heap.size, 1, none⟩ = some b ∧ w1.cell? ⟨w.heap.size, 2, none⟩ = some c ∧ w1.cell? ⟨w.heap.size, 3, none⟩ = some d ∧
    w1.frozen? ⟨w.heap.size, 0, none⟩ = false ∧ w1.frozen? ⟨w.heap.size, 1, none⟩ = false ∧ w1.frozen? ⟨w.heap.size, 2, none⟩ = false ∧ w1.frozen? ⟨w.heap.size, 3, none⟩ = false := by
  have hlt : w.heap.size < (w.alloc (.cells #[a, b, c, d] t)).heap.size := by simp
  have hc : ∀ j, w1.cell? ⟨w.heap.size, j, none⟩ = #[a, b, c, d][j]? := fun j => by rw [hB.cell (p := ⟨w.heap.size, j, none⟩) hlt, World.cell?_alloc_new]
  have hf : ∀ j, w1.frozen? ⟨w.heap.size, j, none⟩ = (w.alloc (.cells #[a, b, c, d] t)).frozen? ⟨w.heap.size, j, none⟩ := fun j => hB.frozen (p := ⟨w.heap.size, j, none⟩) hlt
  refine ⟨hc 0, hc 1, hc 2, hc 3, ?_, ?_, ?_, ?_⟩
  all_goals (rw [hf]; exact World.frozen?_alloc_new _ _ _ _)
end Go.Proofs.YthfipknfdnfalaaGreatDoor
namespace Go.Proofs.YthfipknfdnfalaaGreatDoor
set_option maxRecDepth 100000
set_option maxHeartbeats 16000000
open Go.RowKit
def word (n : Int) : Bool := decide (0 ≤ n ∧ n < 4294967296)
theorem ret_bl {a b : Bool} (h : a = b) : Ending.returned (.bool a) = .returned (.bool b) := by rw [h]
end Go.Proofs.YthfipknfdnfalaaGreatDoor
namespace Go.Proofs.YthfipknfdnfalaaGreatDoor
set_option maxRecDepth 100000
set_option maxHeartbeats 16000000
open Go.RowKit
def rightOf (i : Option Rw) (op a b : Int) (ls : List Int) : Bool :=
  match i with
  | none => false
  | some r =>
    if b ≠ 0 ∧ r.shape ≠ 5 then false
    else if ls ≠ [] ∧ r.shape ≠ 3 then false
    else if r.shape = 0 ∨ r.shape = 6 then decide (a = 0)
    else if r.shape = 1 then decide (a = 64 ∨ a = 126 ∨ a = 127)
    else if r.shape = 3 then ls.all word && decide (ls.length ≤ 4096) && word a
    else if r.shape = 5 then word a && word b
    else if r.shape = 7 then decide (op = 66) || decide (-2147483648 ≤ a ∧ a < 2147483648)
    else word a
def IntsAt (w : World) (p : Option Addr) (ls : List Int) : Prop := ∀ j (hj : j < ls.length), ∃ b o, p = some ⟨b, o, none⟩ ∧ b < w.heap.size ∧ w.cell? ⟨b, o + j, none⟩ = some (.int .i64 ls[j])
theorem IntsAt.below {w w' : World} {p : Option Addr} {ls : List Int} {B : Nat} (h : IntsAt w p ls) (hB : Below B w w') (hs : w.heap.size ≤ B) : IntsAt w' p ls := fun j hj => by
  obtain ⟨b, o, hp, hb, hc⟩ := h j hj
  exact ⟨b, o, hp, Nat.lt_of_lt_of_le hb hB.size, by rw [hB.cell (p := ⟨b, o + j, none⟩) (by show b < B; omega)]; exact hc⟩
theorem byCode_bd {c : Int} {r : Rw} (h : byCode c = some r) : 0 ≤ r.code ∧ r.code ≤ 255 ∧ 0 ≤ r.shape ∧ r.shape ≤ 7 ∧ r.name.size ≤ 30 ∧ r.params.size ≤ 2 ∧ r.results.size ≤ 1 := allRows_bd r (List.mem_of_find?_eq_some h)
theorem eq_decide (x y : Int) : (x == y) = decide (x = y) := by by_cases h : x = y <;> simp [h]
end Go.Proofs.YthfipknfdnfalaaGreatDoor
namespace Go.Proofs.YthfipknfdnfalaaGreatDoor
set_option maxRecDepth 100000
set_option maxHeartbeats 16000000
open Go.RowKit
def vtype (b : UInt8) : Bool := decide (b.toNat = 127 ∨ b.toNat = 126)
def vtypes (l : List UInt8) (most : Int) : Bool := l.all vtype && decide ((l.length : Int) ≤ most)
def word4 (n : Int) : Bool := decide (0 ≤ n ∧ n < 4294967296)
def small4 (n : Int) : Bool := decide (-2147483648 ≤ n ∧ n < 2147483648)
def RowsAt {α : Type} (w : World) (p : Option Addr) (c : Nat) (row : α → List Value) (l : List α) : Prop :=
  ∀ j (hj : j < l.length) (i : Nat) (v : Value), (row l[j])[i]? = some v → ∃ b o, p = some ⟨b, o, none⟩ ∧ b < w.heap.size ∧ w.cell? ⟨b, o + j * c + i, none⟩ = some v
theorem RowsAt.below {α : Type} {w w' : World} {p : Option Addr} {c : Nat} {row : α → List Value} {l : List α} {B : Nat} (h : RowsAt w p c row l) (hB : Below B w w') (hs : w.heap.size ≤ B) : RowsAt w' p c row l := fun j hj i v hv => by
  obtain ⟨b, o, hp, hb, hc⟩ := h j hj i v hv
  exact ⟨b, o, hp, Nat.lt_of_lt_of_le hb hB.size, by rw [hB.cell (p := ⟨b, o + j * c + i, none⟩) (by show b < B; omega)]; exact hc⟩
theorem RowsAt.nil {α : Type} {w : World} {p : Option Addr} {c : Nat} {row : α → List Value} : RowsAt w p c row [] := fun j hj => absurd hj (by simp)
theorem RowsAt.start {α : Type} {w : World} {p : Option Addr} {c : Nat} {row : α → List Value} {l : List α} (h : RowsAt w p c row l) {j : Nat} (hj : j < l.length) {v : Value} {r : List Value} (hr : row l[j] = v :: r) : ∃ b o, p = some ⟨b, o, none⟩ ∧ b < w.heap.size := by
  obtain ⟨b, o, hp, hb, _⟩ := h j hj 0 v (by rw [hr]; rfl)
  exact ⟨b, o, hp, hb⟩
theorem RowsAt.cell {α : Type} {w : World} {b o : Nat} {c : Nat} {row : α → List Value} {l : List α} (h : RowsAt w (some ⟨b, o, none⟩) c row l) {j : Nat} (hj : j < l.length) (i : Nat) {v : Value} (hv : (row l[j])[i]? = some v) : w.cell? ⟨b, o + j * c + i, none⟩ = some v := by
  obtain ⟨b', o', e, _, hc⟩ := h j hj i v hv
  injection e with e; injection e with e1 e2; subst e1; subst e2; exact hc
structure InsV where
  op : Int
  a : Int
  b : Int
  lp : Option Addr
  lc : Nat
  ls : List Int
def InsV.row (x : InsV) : List Value := [.int .i64 x.op, .int .i64 x.a, .int .i64 x.b, .slice x.lp x.ls.length x.lc]
def InsV.val (x : InsV) : Value := .agg #[.int .i64 x.op, .int .i64 x.a, .int .i64 x.b, .slice x.lp x.ls.length x.lc]
def inI64 (n : Int) : Prop := -9223372036854775808 ≤ n ∧ n ≤ 9223372036854775807
def InsAt (w : World) (x : InsV) : Prop := IntsAt w x.lp x.ls ∧ x.ls.length ≤ 17592186044416 ∧ inI64 x.op ∧ inI64 x.a ∧ inI64 x.b ∧ ∀ n ∈ x.ls, inI64 n
theorem InsAt.below {w w' : World} {x : InsV} {B : Nat} (h : InsAt w x) (hB : Below B w w') (hs : w.heap.size ≤ B) : InsAt w' x := ⟨h.1.below hB hs, h.2⟩
def CodeAt (w : World) (p : Option Addr) (l : List InsV) : Prop := RowsAt w p 4 InsV.row l ∧ (∀ x ∈ l, InsAt w x) ∧ l.length ≤ 4398046511104
theorem CodeAt.below {w w' : World} {p : Option Addr} {l : List InsV} {B : Nat} (h : CodeAt w p l) (hB : Below B w w') (hs : w.heap.size ≤ B) : CodeAt w' p l := ⟨h.1.below hB hs, fun x hx => (h.2.1 x hx).below hB hs, h.2.2⟩
def opsOf (l : List InsV) : List Int := l.map (·.op)
structure FnV where
  type : Int
  locals : ByteArray
  cp : Option Addr
  cc : Nat
  code : List InsV
def FnV.row (f : FnV) : List Value := [.int .i64 f.type, .string f.locals, .slice f.cp f.code.length f.cc]
def FnV.val (f : FnV) : Value := .agg #[.int .i64 f.type, .string f.locals, .slice f.cp f.code.length f.cc]
def FnAt (w : World) (f : FnV) : Prop := CodeAt w f.cp f.code ∧ f.locals.size ≤ maxLen ∧ inI64 f.type
theorem FnAt.below {w w' : World} {f : FnV} {B : Nat} (h : FnAt w f) (hB : Below B w w') (hs : w.heap.size ≤ B) : FnAt w' f := ⟨h.1.below hB hs, h.2⟩
structure TyV where
  params : ByteArray
  results : ByteArray
def TyV.row (t : TyV) : List Value := [.string t.params, .string t.results]
structure MemV where
  min : Int
  max : Int
def MemV.row (t : MemV) : List Value := [.int .i64 t.min, .int .i64 t.max]
structure GlobV where
  type : Int
  may : Bool
  init : Int
def GlobV.row (t : GlobV) : List Value := [.int .i64 t.type, .bool t.may, .int .i64 t.init]
structure ExpV where
  name : ByteArray
  kind : Int
  index : Int
def ExpV.row (t : ExpV) : List Value := [.string t.name, .int .i64 t.kind, .int .i64 t.index]
structure DatV where
  offset : Int
  bytes : ByteArray
def DatV.row (t : DatV) : List Value := [.int .i64 t.offset, .string t.bytes]
structure MoV where
  tp : Option Addr
  tc : Nat
  types : List TyV
  fp : Option Addr
  fc : Nat
  funcs : List FnV
  mp : Option Addr
  mc : Nat
  memory : List MemV
  gp : Option Addr
  gc : Nat
  globals : List GlobV
  ep : Option Addr
  ec : Nat
  exports : List ExpV
  start : Int
  dp : Option Addr
  dc : Nat
  data : List DatV
def MoV.cells (m : MoV) : List Value := [.slice m.tp m.types.length m.tc, .slice m.fp m.funcs.length m.fc, .slice m.mp m.memory.length m.mc, .slice m.gp m.globals.length m.gc, .slice m.ep m.exports.length m.ec, .int .i64 m.start, .slice m.dp m.data.length m.dc]
def MoV.val (m : MoV) : Value := .agg #[.slice m.tp m.types.length m.tc, .slice m.fp m.funcs.length m.fc, .slice m.mp m.memory.length m.mc, .slice m.gp m.globals.length m.gc, .slice m.ep m.exports.length m.ec, .int .i64 m.start, .slice m.dp m.data.length m.dc]
def mostThings : Nat := 140737488355328
structure ModAt (w : World) (m : MoV) : Prop where
  types : RowsAt w m.tp 2 TyV.row m.types
  typesIn : ∀ t ∈ m.types, t.params.size ≤ maxLen ∧ t.results.size ≤ maxLen
  typesMost : m.types.length ≤ mostThings
  funcs : RowsAt w m.fp 3 FnV.row m.funcs
  funcsIn : ∀ f ∈ m.funcs, FnAt w f
  funcsMost : m.funcs.length ≤ mostThings
  memory : RowsAt w m.mp 2 MemV.row m.memory
  memoryIn : ∀ t ∈ m.memory, inI64 t.min ∧ inI64 t.max
  memoryMost : m.memory.length ≤ mostThings
  globals : RowsAt w m.gp 3 GlobV.row m.globals
  globalsIn : ∀ t ∈ m.globals, inI64 t.type ∧ inI64 t.init
  globalsMost : m.globals.length ≤ mostThings
  exports : RowsAt w m.ep 3 ExpV.row m.exports
  exportsIn : ∀ t ∈ m.exports, t.name.size ≤ maxLen ∧ inI64 t.kind ∧ inI64 t.index
  exportsMost : m.exports.length ≤ mostThings
  startIn : inI64 m.start
  data : RowsAt w m.dp 2 DatV.row m.data
  dataIn : ∀ t ∈ m.data, inI64 t.offset ∧ t.bytes.size ≤ maxLen
  dataMost : m.data.length ≤ mostThings
theorem ModAt.below {w w' : World} {m : MoV} {B : Nat} (h : ModAt w m) (hB : Below B w w') (hs : w.heap.size ≤ B) : ModAt w' m :=
  { h with types := h.types.below hB hs, funcs := h.funcs.below hB hs, funcsIn := fun f hf => (h.funcsIn f hf).below hB hs, memory := h.memory.below hB hs, globals := h.globals.below hB hs, exports := h.exports.below hB hs, data := h.data.below hB hs }
def rightIns (x : InsV) : Bool := rightOf (byCode x.op) x.op x.a x.b x.ls
def rightTy (t : TyV) : Bool := vtypes t.params.data.toList 4096 && vtypes t.results.data.toList 1
def rightMem (t : MemV) : Bool := word4 t.min && (decide (t.max = -1) || word4 t.max)
def rightGlob (t : GlobV) : Bool := decide (t.type = 126) || (decide (t.type = 127) && small4 t.init)
def rightExp (t : ExpV) : Bool := isName t.name.data.toList && (decide (t.kind = 0 ∨ t.kind = 2 ∨ t.kind = 3) && word4 t.index)
def rightDat (t : DatV) : Bool := small4 t.offset
def fewMod (m : MoV) : Prop := m.types.length ≤ 4096 ∧ m.funcs.length ≤ 4096 ∧ m.memory.length ≤ 4096 ∧ m.globals.length ≤ 4096 ∧ m.exports.length ≤ 4096 ∧ m.data.length ≤ 4096 ∧ (m.start = -1 ∨ word4 m.start = true)
instance (m : MoV) : Decidable (fewMod m) := by unfold fewMod; infer_instance
end Go.Proofs.YthfipknfdnfalaaGreatDoor
namespace Go.Proofs.YthfipknfdnfalaaGreatDoor
set_option maxRecDepth 100000
set_option maxHeartbeats 16000000
open Go.RowKit
def isFloat (c : Int) : Bool := decide (c = 42 ∨ c = 43 ∨ c = 56 ∨ c = 57 ∨ c = 67 ∨ c = 68 ∨ (91 ≤ c ∧ c ≤ 102) ∨ (139 ≤ c ∧ c ≤ 166) ∨ (168 ≤ c ∧ c ≤ 171) ∨ (174 ≤ c ∧ c ≤ 191))
end Go.Proofs.YthfipknfdnfalaaGreatDoor
