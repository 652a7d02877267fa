/-
  Modules (chapter 4), as they lie in memory: their values, where their lists stand, and what the document says of them, on Lean's own lists. No program is looked at but for its types.
-/
import Derived.Test.YtpamchagidnijaaGreatDoorOpRefFind
import Derived.Test.YtpamchagidnijaaGreatDoorModStruct
import Derived.Test.YtpamchagidnijaaGreatDoorModRefName
namespace Go.Proofs.YtpamchagidnijaaGreatDoor
open Go.RowKit

/-- A list of things, each of c cells, lies where a slice says. -/
def RowsAt {α : Type} (w : World) (p : Option Addr) (c : Nat) (row : α → List Value) (l : List α) : Prop :=
  ∀ j (hj : j < l.length) (i : Nat) (v : Value), (row l[j])[i]? = some v → ∃ b o, p = some ⟨b, o, none⟩ ∧ b < w.heap.size ∧ w.cell? ⟨b, o + j * c + i, none⟩ = some v
theorem RowsAt.below {α : Type} {w w' : World} {p : Option Addr} {c : Nat} {row : α → List Value} {l : List α} {B : Nat} (h : RowsAt w p c row l) (hB : Below B w w') (hs : w.heap.size ≤ B) : RowsAt w' p c row l := fun j hj i v hv => by
  obtain ⟨b, o, hp, hb, hc⟩ := h j hj i v hv
  exact ⟨b, o, hp, Nat.lt_of_lt_of_le hb hB.size, by rw [hB.cell (p := ⟨b, o + j * c + i, none⟩) (by show b < B; omega)]; exact hc⟩
theorem RowsAt.nil {α : Type} {w : World} {p : Option Addr} {c : Nat} {row : α → List Value} : RowsAt w p c row [] := fun j hj => absurd hj (by simp)
/-- Where the list starts, if there is something in it. -/
theorem RowsAt.start {α : Type} {w : World} {p : Option Addr} {c : Nat} {row : α → List Value} {l : List α} (h : RowsAt w p c row l) {j : Nat} (hj : j < l.length) {v : Value} {r : List Value} (hr : row l[j] = v :: r) : ∃ b o, p = some ⟨b, o, none⟩ ∧ b < w.heap.size := by
  obtain ⟨b, o, hp, hb, _⟩ := h j hj 0 v (by rw [hr]; rfl)
  exact ⟨b, o, hp, hb⟩
theorem RowsAt.cell {α : Type} {w : World} {b o : Nat} {c : Nat} {row : α → List Value} {l : List α} (h : RowsAt w (some ⟨b, o, none⟩) c row l) {j : Nat} (hj : j < l.length) (i : Nat) {v : Value} (hv : (row l[j])[i]? = some v) : w.cell? ⟨b, o + j * c + i, none⟩ = some v := by
  obtain ⟨b', o', e, _, hc⟩ := h j hj i v hv
  injection e with e; injection e with e1 e2; subst e1; subst e2; exact hc

/-- An instruction: its numbers, and where its labels stand. -/
structure InsV where
  op : Int
  a : Int
  b : Int
  lp : Option Addr
  lc : Nat
  ls : List Int
def InsV.row (x : InsV) : List Value := [.int .i64 x.op, .int .i64 x.a, .int .i64 x.b, .slice x.lp x.ls.length x.lc]
def InsV.val (x : InsV) : Value := .agg #[.int .i64 x.op, .int .i64 x.a, .int .i64 x.b, .slice x.lp x.ls.length x.lc]
def inI64 (n : Int) : Prop := -9223372036854775808 ≤ n ∧ n ≤ 9223372036854775807
def InsAt (w : World) (x : InsV) : Prop := IntsAt w x.lp x.ls ∧ x.ls.length ≤ 17592186044416 ∧ inI64 x.op ∧ inI64 x.a ∧ inI64 x.b ∧ ∀ n ∈ x.ls, inI64 n
theorem InsAt.below {w w' : World} {x : InsV} {B : Nat} (h : InsAt w x) (hB : Below B w w') (hs : w.heap.size ≤ B) : InsAt w' x := ⟨h.1.below hB hs, h.2⟩
def CodeAt (w : World) (p : Option Addr) (l : List InsV) : Prop := RowsAt w p 4 InsV.row l ∧ (∀ x ∈ l, InsAt w x) ∧ l.length ≤ 4398046511104
theorem CodeAt.below {w w' : World} {p : Option Addr} {l : List InsV} {B : Nat} (h : CodeAt w p l) (hB : Below B w w') (hs : w.heap.size ≤ B) : CodeAt w' p l := ⟨h.1.below hB hs, fun x hx => (h.2.1 x hx).below hB hs, h.2.2⟩
def opsOf (l : List InsV) : List Int := l.map (·.op)
theorem CodeAt.ops {w : World} {p : Option Addr} {l : List InsV} (h : CodeAt w p l) : OpsAt w p (opsOf l) := fun j hj => by
  have hj' : j < l.length := by simpa [opsOf] using hj
  obtain ⟨b, o, hp, hb, hc⟩ := h.1 j hj' 0 (.int .i64 l[j].op) rfl
  exact ⟨b, o, hp, hb, by rw [show o + j * 4 = o + j * 4 + 0 from rfl, hc]; simp [opsOf]⟩

/-- A function: its type's number, its locals, where its code stands. -/
structure FnV where
  type : Int
  locals : ByteArray
  cp : Option Addr
  cc : Nat
  code : List InsV
def FnV.row (f : FnV) : List Value := [.int .i64 f.type, .string f.locals, .slice f.cp f.code.length f.cc]
def FnV.val (f : FnV) : Value := .agg #[.int .i64 f.type, .string f.locals, .slice f.cp f.code.length f.cc]
def FnAt (w : World) (f : FnV) : Prop := CodeAt w f.cp f.code ∧ f.locals.size ≤ maxLen ∧ inI64 f.type
theorem FnAt.below {w w' : World} {f : FnV} {B : Nat} (h : FnAt w f) (hB : Below B w w') (hs : w.heap.size ≤ B) : FnAt w' f := ⟨h.1.below hB hs, h.2⟩

structure TyV where
  params : ByteArray
  results : ByteArray
def TyV.row (t : TyV) : List Value := [.string t.params, .string t.results]
structure MemV where
  min : Int
  max : Int
def MemV.row (t : MemV) : List Value := [.int .i64 t.min, .int .i64 t.max]
structure GlobV where
  type : Int
  may : Bool
  init : Int
def GlobV.row (t : GlobV) : List Value := [.int .i64 t.type, .bool t.may, .int .i64 t.init]
structure ExpV where
  name : ByteArray
  kind : Int
  index : Int
def ExpV.row (t : ExpV) : List Value := [.string t.name, .int .i64 t.kind, .int .i64 t.index]
structure DatV where
  offset : Int
  bytes : ByteArray
def DatV.row (t : DatV) : List Value := [.int .i64 t.offset, .string t.bytes]

/-- A module: its lists, and where they stand. -/
structure MoV where
  tp : Option Addr
  tc : Nat
  types : List TyV
  fp : Option Addr
  fc : Nat
  funcs : List FnV
  mp : Option Addr
  mc : Nat
  memory : List MemV
  gp : Option Addr
  gc : Nat
  globals : List GlobV
  ep : Option Addr
  ec : Nat
  exports : List ExpV
  start : Int
  dp : Option Addr
  dc : Nat
  data : List DatV
def MoV.cells (m : MoV) : List Value := [.slice m.tp m.types.length m.tc, .slice m.fp m.funcs.length m.fc, .slice m.mp m.memory.length m.mc, .slice m.gp m.globals.length m.gc, .slice m.ep m.exports.length m.ec, .int .i64 m.start, .slice m.dp m.data.length m.dc]
def MoV.val (m : MoV) : Value := .agg #[.slice m.tp m.types.length m.tc, .slice m.fp m.funcs.length m.fc, .slice m.mp m.memory.length m.mc, .slice m.gp m.globals.length m.gc, .slice m.ep m.exports.length m.ec, .int .i64 m.start, .slice m.dp m.data.length m.dc]

def mostThings : Nat := 140737488355328
/-- The module lies in memory, whole. -/
structure ModAt (w : World) (m : MoV) : Prop where
  types : RowsAt w m.tp 2 TyV.row m.types
  typesIn : ∀ t ∈ m.types, t.params.size ≤ maxLen ∧ t.results.size ≤ maxLen
  typesMost : m.types.length ≤ mostThings
  funcs : RowsAt w m.fp 3 FnV.row m.funcs
  funcsIn : ∀ f ∈ m.funcs, FnAt w f
  funcsMost : m.funcs.length ≤ mostThings
  memory : RowsAt w m.mp 2 MemV.row m.memory
  memoryIn : ∀ t ∈ m.memory, inI64 t.min ∧ inI64 t.max
  memoryMost : m.memory.length ≤ mostThings
  globals : RowsAt w m.gp 3 GlobV.row m.globals
  globalsIn : ∀ t ∈ m.globals, inI64 t.type ∧ inI64 t.init
  globalsMost : m.globals.length ≤ mostThings
  exports : RowsAt w m.ep 3 ExpV.row m.exports
  exportsIn : ∀ t ∈ m.exports, t.name.size ≤ maxLen ∧ inI64 t.kind ∧ inI64 t.index
  exportsMost : m.exports.length ≤ mostThings
  startIn : inI64 m.start
  data : RowsAt w m.dp 2 DatV.row m.data
  dataIn : ∀ t ∈ m.data, inI64 t.offset ∧ t.bytes.size ≤ maxLen
  dataMost : m.data.length ≤ mostThings
theorem ModAt.below {w w' : World} {m : MoV} {B : Nat} (h : ModAt w m) (hB : Below B w w') (hs : w.heap.size ≤ B) : ModAt w' m :=
  { h with types := h.types.below hB hs, funcs := h.funcs.below hB hs, funcsIn := fun f hf => (h.funcsIn f hf).below hB hs, memory := h.memory.below hB hs, globals := h.globals.below hB hs, exports := h.exports.below hB hs, data := h.data.below hB hs }

/-! What the document says of them. -/
def rightIns (x : InsV) : Bool := rightOf (byCode x.op) x.op x.a x.b x.ls
def rightFn (f : FnV) : Bool := f.code.all rightIns && (word4 f.type && vtypes f.locals.data.toList 4096 && runs (opsOf f.code) [])
def rightTy (t : TyV) : Bool := vtypes t.params.data.toList 4096 && vtypes t.results.data.toList 1
def rightMem (t : MemV) : Bool := word4 t.min && (decide (t.max = -1) || word4 t.max)
def rightGlob (t : GlobV) : Bool := decide (t.type = 126) || (decide (t.type = 127) && small4 t.init)
def rightExp (t : ExpV) : Bool := isName t.name.data.toList && (decide (t.kind = 0 ∨ t.kind = 2 ∨ t.kind = 3) && word4 t.index)
def rightDat (t : DatV) : Bool := small4 t.offset
def fewMod (m : MoV) : Prop := m.types.length ≤ 4096 ∧ m.funcs.length ≤ 4096 ∧ m.memory.length ≤ 4096 ∧ m.globals.length ≤ 4096 ∧ m.exports.length ≤ 4096 ∧ m.data.length ≤ 4096 ∧ (m.start = -1 ∨ word4 m.start = true)
instance (m : MoV) : Decidable (fewMod m) := by unfold fewMod; infer_instance
def rightMod (m : MoV) : Bool := decide (fewMod m) && (m.types.all rightTy && (m.funcs.all rightFn && (m.memory.all rightMem && (m.globals.all rightGlob && (m.exports.all rightExp && m.data.all rightDat)))))

def sameIns (x y : InsV) : Bool := decide (x.op = y.op ∧ x.a = y.a ∧ x.b = y.b ∧ x.ls = y.ls)
def sameCode : List InsV → List InsV → Bool
  | [], [] => true
  | x :: l, y :: m => sameIns x y && sameCode l m
  | _, _ => false
def sameFn (x y : FnV) : Bool := decide (x.type = y.type ∧ x.locals = y.locals) && sameCode x.code y.code
def sameFns : List FnV → List FnV → Bool
  | [], [] => true
  | x :: l, y :: m => sameFn x y && sameFns l m
  | _, _ => false
def sameAll {α : Type} (row : α → List Value) : List α → List α → Prop := fun l m => l.map row = m.map row
end Go.Proofs.YtpamchagidnijaaGreatDoor

namespace Go.Proofs.YtpamchagidnijaaGreatDoor
open Go.RowKit

/-- Three cells, as they were laid, behind whatever follows. -/
theorem cells3 {w w1 : World} {a b c : Value} {t : TypeId} (hB : Below (w.heap.size + 1) (w.alloc (.cells #[a, b, c] t)) w1) :
    w1.cell? ⟨w.heap.size, 0, none⟩ = some a ∧ w1.cell? ⟨w.heap.size, 1, none⟩ = some b ∧ w1.cell? ⟨w.heap.size, 2, none⟩ = some c := by
  have h : ∀ j, w1.cell? ⟨w.heap.size, j, none⟩ = #[a, b, c][j]? := fun j => by rw [hB.cell (p := ⟨w.heap.size, j, none⟩) (by show w.heap.size < _; omega), World.cell?_alloc_new]
  exact ⟨h 0, h 1, h 2⟩
theorem bnextR {w w1 w2 : World} {B : Nat} (h1 : Below B w w1) (hs : B ≤ w1.heap.size) (h2 : Below w1.heap.size w1 w2) : Below B w w2 := h1.trans (h2.mono hs)

set_option maxRecDepth 100000 in
set_option maxHeartbeats 4000000 in
theorem ref_function (f : FnV) (w : World) (h : FnAt w f) :
    Calls Tryz.prog 120 #[f.val] w fun e w' => e = .returned (.bool (rightFn f)) ∧ Below w.heap.size w w' := by
  obtain ⟨hcode, hloc, _⟩ := h
  obtain ⟨ty, loc, cp, cc, code⟩ := f
  simp only [FnV.val] at *
  obtain ⟨R, hR⟩ : ∃ R, R = rightFn ⟨ty, loc, cp, cc, code⟩ := ⟨_, rfl⟩
  rw [← hR]
  simp only [rightFn] at hR
  obtain ⟨n, hn⟩ : ∃ n, code.length = n := ⟨_, rfl⟩
  have hm : n ≤ 4398046511104 := by have := hcode.2.2; omega
  have c1 := ref_types loc 4096 hloc
  have c2 := fun w (hc : CodeAt w cp code) => ref_structured cp n cc (opsOf code) (by simp [opsOf, hn]) (by omega) w hc.ops
  have c3 := ref_word4 ty
  rw [hn]
  generalize vtypes loc.data.toList 4096 = B1 at c1 hR
  generalize runs (opsOf code) [] = B2 at c2 hR
  generalize word4 ty = B3 at c3 hR
  have HR := Lib.hid hR
  have HN := Lib.hid hn
  have HC := Lib.hid hcode
  clear hR hn hcode
  have hB := Below.refl (w.heap.size + 1) (w.alloc (.cells #[.int .i64 ty, .string loc, .slice cp n cc] 38))
  have hs0 : w.heap.size + 1 ≤ (w.alloc (.cells #[.int .i64 ty, .string loc, .slice cp n cc] 38)).heap.size := by simp
  go_enter Tryz.func120, Tryz.ntmps120
  go_wp2
  go_loopw [3] (fun i wr => ∃ k : Nat, k ≤ n ∧ i = .int .i64 k ∧ Below (w.heap.size + 1) (w.alloc (.cells #[.int .i64 ty, .string loc, .slice cp n cc] 38)) wr ∧ w.heap.size + 1 ≤ wr.heap.size ∧ Hid (R = ((code.drop k).all rightIns && (B3 && B1 && B2)))) (fun i _ => n - (intOf i).toNat)
  case atStart => exact ⟨0, by omega, rfl, hB, hs0, HR⟩
  case round =>
    clear hB hs0 HR
    obtain ⟨k, hk, rfl, hB, hs, HK⟩ := hrel
    obtain ⟨q0, q1, q2⟩ := cells3 hB
    have hBw : Below w.heap.size w wr := ((Below.refl _ w).alloc (Nat.le_refl _) _).trans (hB.mono (by omega))
    by_cases hlt : k < n
    · have hlt' : k < code.length := by have := HN.out; omega
      obtain ⟨hrows, hin, _⟩ := HC.out.below hBw (Nat.le_refl _)
      obtain ⟨b, o, hp, hb, e0⟩ := hrows k hlt' 0 _ rfl
      subst hp
      have e1 := hrows.cell hlt' 1 rfl
      have e2 := hrows.cell hlt' 2 rfl
      have e3 := hrows.cell hlt' 3 rfl
      have hx := hin code[k] (List.getElem_mem hlt')
      have hD := HK.out
      rw [List.drop_eq_getElem_cons hlt', List.all_cons] at hD
      generalize code[k] = x at *
      have cr := ref_right x.op x.a x.b x.lp x.ls.length x.lc x.ls rfl hx.2.1 wr hx.1
      change Calls _ _ _ _ fun e w' => e = .returned (.bool (rightIns x)) ∧ _ at cr
      generalize rightIns x = Y at cr hD
      have HD := Lib.hid hD
      clear hD hrows hin hx
      obtain ⟨xo, xa, xb, xp, xc, xl⟩ := x
      simp only [Nat.add_zero] at e0 e1 e2 e3 cr
      generalize xl.length = nl at e3 cr
      cases Y with
      | false =>
        go_wp2_with (go_at_call 124; (with_reducible refine cr.mono ?_); rintro e w1 ⟨rfl, hb1⟩)
        go_ret
        exact ⟨ret_bool (by have := HD.out; simpa using this), bnextR hBw (by omega) hb1⟩
      | true =>
        go_wp2_with (go_at_call 124; (with_reducible refine cr.mono ?_); rintro e w1 ⟨rfl, hb1⟩)
        have hB2 := bnextR hB hs hb1
        have hs2 := Nat.le_trans hs hb1.size
        clear hB hs hb1 q0 q1 q2 e0 e1 e2 e3 cr
        go_roundw
        case rel => exact ⟨k + 1, by omega, by go_num, hB2, hs2, Lib.hid (by have := HD.out; simpa using this)⟩
        case measure => simp [intOf]; omega
    · have hk' : code.length ≤ k := by have := HN.out; omega
      have hD := HK.out
      rw [List.drop_eq_nil_of_le hk', List.all_nil, Bool.true_and] at hD
      have HD := Lib.hid hD
      clear hD hk'
      have hc := HC.out.below hBw (Nat.le_refl _)
      have c2 := c2 wr hc
      clear hc
      go_wp2_with (first
        | (go_at_call 119; (with_reducible refine (c1 _).mono ?_); rintro e w1 ⟨rfl, rfl⟩)
        | (go_at_call 198; (with_reducible refine c2.mono ?_); rintro e w1 ⟨rfl, hb1⟩; have ⟨r0, r1, r2⟩ := cells3 (bnextR hB hs hb1))
        | (go_at_call 118; (with_reducible refine (c3 _).mono ?_); rintro e w1 ⟨rfl, rfl⟩))
      all_goals go_ret
      all_goals exact ⟨ret_bool (by have := HD.out; simp_all), bnextR hBw (by omega) hb1⟩
end Go.Proofs.YtpamchagidnijaaGreatDoor
