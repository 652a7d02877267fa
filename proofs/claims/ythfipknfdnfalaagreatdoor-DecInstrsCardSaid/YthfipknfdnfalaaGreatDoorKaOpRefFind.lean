/-
  The document's own look-ups among the instructions, by code and by name: walked. Contracts that the proofs call; no statement is proved here.
-/
import Derived.Test.YthfipknfdnfalaaGreatDoorKaOpRefRows
import Derived.Laws.ResultCell
import Derived.Test.YthfipknfdnfalaaGreatDoorKaModStruct
import Derived.RegionTactic
import Derived.Maps.AppendAt
namespace Go.Proofs.YthfipknfdnfalaaGreatDoor
open Go.RowKit
theorem cellsOf_at : ∀ (l : List Rw) (k j : Nat) (hk : k < l.length), j < 5 → (cellsOf l)[k * 5 + j]? = (l[k]).cells[j]?
  | [], k, _, hk, _ => by simp at hk
  | r :: l, 0, j, _, hj => by
    rw [show cellsOf (r :: l) = r.cells ++ cellsOf l from rfl, Nat.zero_mul, Nat.zero_add, List.getElem?_append_left (by simp [Rw.cells]; omega)]
    rfl
  | r :: l, k + 1, j, hk, hj => by
    have ih := cellsOf_at l k j (by simpa using hk) hj
    rw [show cellsOf (r :: l) = r.cells ++ cellsOf l from rfl, List.getElem?_append_right (by simp [Rw.cells]; omega)]
    rw [show (k + 1) * 5 + j - r.cells.length = k * 5 + j by simp [Rw.cells]; omega, ih]
    simp
def infoVal : Option Rw → Value
  | some r => .agg #[.string r.name, .int .i64 r.shape, .string r.params, .string r.results]
  | none => .agg #[.string ⟨#[]⟩, .int .i64 0, .string ⟨#[]⟩, .string ⟨#[]⟩]
def byCode (code : Int) : Option Rw := allRows.find? fun r => r.code == code
theorem find_drop {α : Type} {p : α → Bool} {l : List α} {k : Nat} (h : k < l.length) : (l.drop k).find? p = if p l[k] then some l[k] else (l.drop (k + 1)).find? p := by
  rw [List.drop_eq_getElem_cons h, List.find?_cons]
  cases p l[k] <;> rfl
theorem allRows_bd : ∀ r ∈ allRows, 0 ≤ r.code ∧ r.code ≤ 255 ∧ 0 ≤ r.shape ∧ r.shape ≤ 7 ∧ r.name.size ≤ 30 ∧ r.params.size ≤ 2 ∧ r.results.size ≤ 1 := by decide +kernel
theorem row_cells {w : World} {g k : Nat} (hc : ∀ j u, (cellsOf allRows)[j]? = some u → w.cell? ((⟨g, 0, none⟩ : Addr).add j) = some u) (hk : k < allRows.length) (j : Nat) (u : Value) (hu : (allRows[k]).cells[j]? = some u) (hj : j < 5) : w.cell? ⟨g, k * 5 + j, none⟩ = some u := by
  have h := hc (k * 5 + j) u (by rw [cellsOf_at allRows k j hk hj]; exact hu)
  have e1 : ((⟨g, 0, none⟩ : Addr).add (k * 5 + j)) = ⟨g, k * 5 + j, none⟩ := by
    unfold Addr.add; split
    · rename_i h0; rw [h0]
    · simp
  rwa [e1] at h
theorem res_cells {w w1 : World} {a b c d : Value} {t : TypeId} (hB : Below (w.alloc (.cells #[a, b, c, d] t)).heap.size (w.alloc (.cells #[a, b, c, d] t)) w1) :
    w1.cell? ⟨w.heap.size, 0, none⟩ = some a ∧ w1.cell? ⟨w.heap.size, 1, none⟩ = some b ∧ w1.cell? ⟨w.heap.size, 2, none⟩ = some c ∧ w1.cell? ⟨w.heap.size, 3, none⟩ = some d ∧
    w1.frozen? ⟨w.heap.size, 0, none⟩ = false ∧ w1.frozen? ⟨w.heap.size, 1, none⟩ = false ∧ w1.frozen? ⟨w.heap.size, 2, none⟩ = false ∧ w1.frozen? ⟨w.heap.size, 3, none⟩ = false := by
  have hlt : w.heap.size < (w.alloc (.cells #[a, b, c, d] t)).heap.size := by simp
  have hc : ∀ j, w1.cell? ⟨w.heap.size, j, none⟩ = #[a, b, c, d][j]? := fun j => by rw [hB.cell (p := ⟨w.heap.size, j, none⟩) hlt, World.cell?_alloc_new]
  have hf : ∀ j, w1.frozen? ⟨w.heap.size, j, none⟩ = (w.alloc (.cells #[a, b, c, d] t)).frozen? ⟨w.heap.size, j, none⟩ := fun j => hB.frozen (p := ⟨w.heap.size, j, none⟩) hlt
  refine ⟨hc 0, hc 1, hc 2, hc 3, ?_, ?_, ?_, ?_⟩
  all_goals (rw [hf]; exact World.frozen?_alloc_new _ _ _ _)
set_option maxRecDepth 100000 in
set_option maxHeartbeats 2000000 in
theorem ref_of (code : Int) (w : World) :
    Calls Tryz.prog 119 #[.int .i64 code] w fun e w' => e = .returned (.tuple #[infoVal (byCode code), .bool (byCode code).isSome]) ∧ Below w.heap.size w w' := by
  obtain ⟨R, hR⟩ : ∃ R, R = byCode code := ⟨_, rfl⟩
  rw [← hR]
  have HR := Lib.hid hR
  clear hR
  go_enter Tryz.func119, Tryz.ntmps119
  go_wp2_with (go_at_call 204; refine (ref_all _).mono ?_; rintro e w1 ⟨v, rfl, hown, hB⟩)
  obtain ⟨g, c, rfl, _, hc⟩ := own_slice hown (by decide)
  clear hown
  go_wp2
  have hlen : allRows.length = 103 := allRows_len
  obtain ⟨r0, r1, r2, r3, z0, z1, z2, z3⟩ := res_cells hB
  have hs1 : w.heap.size < w1.heap.size := Nat.lt_of_lt_of_le (by simp) hB.size
  go_loop [5] (fun i => ∃ k : Nat, k ≤ 103 ∧ i = .int .i64 k ∧ Hid (R = (allRows.drop k).find? fun r => r.code == code)) (fun i => 103 - (intOf i).toNat)
  case atStart => exact ⟨0, by omega, rfl, HR⟩
  case round =>
    obtain ⟨k, hk, rfl, hF⟩ := hrel
    by_cases hlt : k < 103
    · have hlt' : k < allRows.length := hlt
      have hf := hF.out
      rw [find_drop hlt'] at hf
      have hbd := allRows_bd allRows[k] (List.getElem_mem hlt')
      have c0 : w1.cell? ⟨g, k * 5, none⟩ = some (.int .i64 allRows[k].code) := row_cells hc hlt' 0 _ rfl (by decide)
      have c1 := row_cells hc hlt' 1 _ rfl (by decide)
      have c2 := row_cells hc hlt' 2 _ rfl (by decide)
      have c3 := row_cells hc hlt' 3 _ rfl (by decide)
      have c4 := row_cells hc hlt' 4 _ rfl (by decide)
      generalize allRows[k] = r at *
      obtain ⟨rc, rn, rs, rp, rr⟩ := r
      simp only at c0 c1 c2 c3 c4 hbd hf
      by_cases he : rc = code
      · simp only [he, beq_self_eq_true, if_true] at hf
        have HF := Lib.hid hf
        clear hf
        subst he
        go_wp2
        (try simp only [Exit.inBlock, Exit.then])
        refine bodyPost_ret (v := .tuple #[.agg #[.string rn, .int .i64 rs, .string rp, .string rr], .bool true]) ?_ rfl ⟨?_, ?_⟩
        · rw [results_cell_tmp rfl]; go_simp
        · rw [HF.out]; rfl
        · exact ((((((Below.refl _ w).alloc (Nat.le_refl _) _).trans (hB.mono (by simp))).setCell (Nat.le_refl _) _).setCell (Nat.le_refl _) _).setCell (Nat.le_refl _) _).setCell (Nat.le_refl _) _
      · have hb : (rc == code) = false := by simp [he]
        simp only [hb] at hf
        have HF := Lib.hid hf
        clear hf
        go_wp2
        go_round
        case rel => exact ⟨k + 1, by omega, by go_num, HF⟩
        case measure => simp [intOf]; omega
    · have hk103 : k = 103 := by omega
      have hf := hF.out
      rw [List.drop_of_length_le (by omega)] at hf
      have HF := Lib.hid hf
      clear hf hk103
      go_wp2
      (try simp only [Exit.inBlock, Exit.then])
      refine bodyPost_ret (v := .tuple #[.agg #[.string ⟨#[]⟩, .int .i64 0, .string ⟨#[]⟩, .string ⟨#[]⟩], .bool false]) ?_ rfl ⟨?_, ?_⟩
      · rw [results_cell_tmp rfl]; go_simp
      · rw [HF.out]; rfl
      · exact ((((((Below.refl _ w).alloc (Nat.le_refl _) _).trans (hB.mono (by simp))).setCell (Nat.le_refl _) _).setCell (Nat.le_refl _) _).setCell (Nat.le_refl _) _).setCell (Nat.le_refl _) _
end Go.Proofs.YthfipknfdnfalaaGreatDoor
namespace Go.Proofs.YthfipknfdnfalaaGreatDoor
open Go.RowKit
def word (n : Int) : Bool := decide (0 ≤ n ∧ n < 4294967296)
theorem ret_bl {a b : Bool} (h : a = b) : Ending.returned (.bool a) = .returned (.bool b) := by rw [h]
end Go.Proofs.YthfipknfdnfalaaGreatDoor
namespace Go.Proofs.YthfipknfdnfalaaGreatDoor
open Go.RowKit
def rightOf (i : Option Rw) (op a b : Int) (ls : List Int) : Bool :=
  match i with
  | none => false
  | some r =>
    if b ≠ 0 ∧ r.shape ≠ 5 then false
    else if ls ≠ [] ∧ r.shape ≠ 3 then false
    else if r.shape = 0 ∨ r.shape = 6 then decide (a = 0)
    else if r.shape = 1 then decide (a = 64 ∨ a = 126 ∨ a = 127)
    else if r.shape = 3 then ls.all word && decide (ls.length ≤ 4096) && word a
    else if r.shape = 5 then word a && word b
    else if r.shape = 7 then decide (op = 66) || decide (-2147483648 ≤ a ∧ a < 2147483648)
    else word a
def IntsAt (w : World) (p : Option Addr) (ls : List Int) : Prop := ∀ j (hj : j < ls.length), ∃ b o, p = some ⟨b, o, none⟩ ∧ b < w.heap.size ∧ w.cell? ⟨b, o + j, none⟩ = some (.int .i64 ls[j])
theorem IntsAt.below {w w' : World} {p : Option Addr} {ls : List Int} {B : Nat} (h : IntsAt w p ls) (hB : Below B w w') (hs : w.heap.size ≤ B) : IntsAt w' p ls := fun j hj => by
  obtain ⟨b, o, hp, hb, hc⟩ := h j hj
  exact ⟨b, o, hp, Nat.lt_of_lt_of_le hb hB.size, by rw [hB.cell (p := ⟨b, o + j, none⟩) (by show b < B; omega)]; exact hc⟩
end Go.Proofs.YthfipknfdnfalaaGreatDoor
namespace Go.Proofs.YthfipknfdnfalaaGreatDoor
open Go.RowKit
def RowsAt {α : Type} (w : World) (p : Option Addr) (c : Nat) (row : α → List Value) (l : List α) : Prop :=
  ∀ j (hj : j < l.length) (i : Nat) (v : Value), (row l[j])[i]? = some v → ∃ b o, p = some ⟨b, o, none⟩ ∧ b < w.heap.size ∧ w.cell? ⟨b, o + j * c + i, none⟩ = some v
theorem RowsAt.below {α : Type} {w w' : World} {p : Option Addr} {c : Nat} {row : α → List Value} {l : List α} {B : Nat} (h : RowsAt w p c row l) (hB : Below B w w') (hs : w.heap.size ≤ B) : RowsAt w' p c row l := fun j hj i v hv => by
  obtain ⟨b, o, hp, hb, hc⟩ := h j hj i v hv
  exact ⟨b, o, hp, Nat.lt_of_lt_of_le hb hB.size, by rw [hB.cell (p := ⟨b, o + j * c + i, none⟩) (by show b < B; omega)]; exact hc⟩
theorem RowsAt.nil {α : Type} {w : World} {p : Option Addr} {c : Nat} {row : α → List Value} : RowsAt w p c row [] := fun j hj => absurd hj (by simp)
theorem RowsAt.start {α : Type} {w : World} {p : Option Addr} {c : Nat} {row : α → List Value} {l : List α} (h : RowsAt w p c row l) {j : Nat} (hj : j < l.length) {v : Value} {r : List Value} (hr : row l[j] = v :: r) : ∃ b o, p = some ⟨b, o, none⟩ ∧ b < w.heap.size := by
  obtain ⟨b, o, hp, hb, _⟩ := h j hj 0 v (by rw [hr]; rfl)
  exact ⟨b, o, hp, hb⟩
theorem RowsAt.cell {α : Type} {w : World} {b o : Nat} {c : Nat} {row : α → List Value} {l : List α} (h : RowsAt w (some ⟨b, o, none⟩) c row l) {j : Nat} (hj : j < l.length) (i : Nat) {v : Value} (hv : (row l[j])[i]? = some v) : w.cell? ⟨b, o + j * c + i, none⟩ = some v := by
  obtain ⟨b', o', e, _, hc⟩ := h j hj i v hv
  injection e with e; injection e with e1 e2; subst e1; subst e2; exact hc
structure InsV where
  op : Int
  a : Int
  b : Int
  lp : Option Addr
  lc : Nat
  ls : List Int
def InsV.row (x : InsV) : List Value := [.int .i64 x.op, .int .i64 x.a, .int .i64 x.b, .slice x.lp x.ls.length x.lc]
def InsV.val (x : InsV) : Value := .agg #[.int .i64 x.op, .int .i64 x.a, .int .i64 x.b, .slice x.lp x.ls.length x.lc]
def inI64 (n : Int) : Prop := -9223372036854775808 ≤ n ∧ n ≤ 9223372036854775807
def InsAt (w : World) (x : InsV) : Prop := IntsAt w x.lp x.ls ∧ x.ls.length ≤ 17592186044416 ∧ inI64 x.op ∧ inI64 x.a ∧ inI64 x.b ∧ ∀ n ∈ x.ls, inI64 n
theorem InsAt.below {w w' : World} {x : InsV} {B : Nat} (h : InsAt w x) (hB : Below B w w') (hs : w.heap.size ≤ B) : InsAt w' x := ⟨h.1.below hB hs, h.2⟩
def CodeAt (w : World) (p : Option Addr) (l : List InsV) : Prop := RowsAt w p 4 InsV.row l ∧ (∀ x ∈ l, InsAt w x) ∧ l.length ≤ 4398046511104
theorem CodeAt.below {w w' : World} {p : Option Addr} {l : List InsV} {B : Nat} (h : CodeAt w p l) (hB : Below B w w') (hs : w.heap.size ≤ B) : CodeAt w' p l := ⟨h.1.below hB hs, fun x hx => (h.2.1 x hx).below hB hs, h.2.2⟩
def opsOf (l : List InsV) : List Int := l.map (·.op)
theorem CodeAt.ops {w : World} {p : Option Addr} {l : List InsV} (h : CodeAt w p l) : OpsAt w p (opsOf l) := fun j hj => by
  have hj' : j < l.length := by simpa [opsOf] using hj
  obtain ⟨b, o, hp, hb, hc⟩ := h.1 j hj' 0 (.int .i64 l[j].op) rfl
  exact ⟨b, o, hp, hb, by rw [show o + j * 4 = o + j * 4 + 0 from rfl, hc]; simp [opsOf]⟩
structure FnV where
  type : Int
  locals : ByteArray
  cp : Option Addr
  cc : Nat
  code : List InsV
def FnV.row (f : FnV) : List Value := [.int .i64 f.type, .string f.locals, .slice f.cp f.code.length f.cc]
def FnV.val (f : FnV) : Value := .agg #[.int .i64 f.type, .string f.locals, .slice f.cp f.code.length f.cc]
def FnAt (w : World) (f : FnV) : Prop := CodeAt w f.cp f.code ∧ f.locals.size ≤ maxLen ∧ inI64 f.type
theorem FnAt.below {w w' : World} {f : FnV} {B : Nat} (h : FnAt w f) (hB : Below B w w') (hs : w.heap.size ≤ B) : FnAt w' f := ⟨h.1.below hB hs, h.2⟩
structure TyV where
  params : ByteArray
  results : ByteArray
def TyV.row (t : TyV) : List Value := [.string t.params, .string t.results]
structure MemV where
  min : Int
  max : Int
def MemV.row (t : MemV) : List Value := [.int .i64 t.min, .int .i64 t.max]
structure GlobV where
  type : Int
  may : Bool
  init : Int
def GlobV.row (t : GlobV) : List Value := [.int .i64 t.type, .bool t.may, .int .i64 t.init]
structure ExpV where
  name : ByteArray
  kind : Int
  index : Int
def ExpV.row (t : ExpV) : List Value := [.string t.name, .int .i64 t.kind, .int .i64 t.index]
structure DatV where
  offset : Int
  bytes : ByteArray
def DatV.row (t : DatV) : List Value := [.int .i64 t.offset, .string t.bytes]
structure MoV where
  tp : Option Addr
  tc : Nat
  types : List TyV
  fp : Option Addr
  fc : Nat
  funcs : List FnV
  mp : Option Addr
  mc : Nat
  memory : List MemV
  gp : Option Addr
  gc : Nat
  globals : List GlobV
  ep : Option Addr
  ec : Nat
  exports : List ExpV
  start : Int
  dp : Option Addr
  dc : Nat
  data : List DatV
def MoV.cells (m : MoV) : List Value := [.slice m.tp m.types.length m.tc, .slice m.fp m.funcs.length m.fc, .slice m.mp m.memory.length m.mc, .slice m.gp m.globals.length m.gc, .slice m.ep m.exports.length m.ec, .int .i64 m.start, .slice m.dp m.data.length m.dc]
def MoV.val (m : MoV) : Value := .agg #[.slice m.tp m.types.length m.tc, .slice m.fp m.funcs.length m.fc, .slice m.mp m.memory.length m.mc, .slice m.gp m.globals.length m.gc, .slice m.ep m.exports.length m.ec, .int .i64 m.start, .slice m.dp m.data.length m.dc]
def mostThings : Nat := 140737488355328
structure ModAt (w : World) (m : MoV) : Prop where
  types : RowsAt w m.tp 2 TyV.row m.types
  typesIn : ∀ t ∈ m.types, t.params.size ≤ maxLen ∧ t.results.size ≤ maxLen
  typesMost : m.types.length ≤ mostThings
  funcs : RowsAt w m.fp 3 FnV.row m.funcs
  funcsIn : ∀ f ∈ m.funcs, FnAt w f
  funcsMost : m.funcs.length ≤ mostThings
  memory : RowsAt w m.mp 2 MemV.row m.memory
  memoryIn : ∀ t ∈ m.memory, inI64 t.min ∧ inI64 t.max
  memoryMost : m.memory.length ≤ mostThings
  globals : RowsAt w m.gp 3 GlobV.row m.globals
  globalsIn : ∀ t ∈ m.globals, inI64 t.type ∧ inI64 t.init
  globalsMost : m.globals.length ≤ mostThings
  exports : RowsAt w m.ep 3 ExpV.row m.exports
  exportsIn : ∀ t ∈ m.exports, t.name.size ≤ maxLen ∧ inI64 t.kind ∧ inI64 t.index
  exportsMost : m.exports.length ≤ mostThings
  startIn : inI64 m.start
  data : RowsAt w m.dp 2 DatV.row m.data
  dataIn : ∀ t ∈ m.data, inI64 t.offset ∧ t.bytes.size ≤ maxLen
  dataMost : m.data.length ≤ mostThings
theorem ModAt.below {w w' : World} {m : MoV} {B : Nat} (h : ModAt w m) (hB : Below B w w') (hs : w.heap.size ≤ B) : ModAt w' m :=
  { h with types := h.types.below hB hs, funcs := h.funcs.below hB hs, funcsIn := fun f hf => (h.funcsIn f hf).below hB hs, memory := h.memory.below hB hs, globals := h.globals.below hB hs, exports := h.exports.below hB hs, data := h.data.below hB hs }
def rightIns (x : InsV) : Bool := rightOf (byCode x.op) x.op x.a x.b x.ls
def rightTy (t : TyV) : Bool := vtypes t.params.data.toList 4096 && vtypes t.results.data.toList 1
def rightMem (t : MemV) : Bool := word4 t.min && (decide (t.max = -1) || word4 t.max)
def rightGlob (t : GlobV) : Bool := decide (t.type = 126) || (decide (t.type = 127) && small4 t.init)
def rightExp (t : ExpV) : Bool := isName t.name.data.toList && (decide (t.kind = 0 ∨ t.kind = 2 ∨ t.kind = 3) && word4 t.index)
def rightDat (t : DatV) : Bool := small4 t.offset
def fewMod (m : MoV) : Prop := m.types.length ≤ 4096 ∧ m.funcs.length ≤ 4096 ∧ m.memory.length ≤ 4096 ∧ m.globals.length ≤ 4096 ∧ m.exports.length ≤ 4096 ∧ m.data.length ≤ 4096 ∧ (m.start = -1 ∨ word4 m.start = true)
instance (m : MoV) : Decidable (fewMod m) := by unfold fewMod; infer_instance
def sameIns (x y : InsV) : Bool := decide (x.op = y.op ∧ x.a = y.a ∧ x.b = y.b ∧ x.ls = y.ls)
end Go.Proofs.YthfipknfdnfalaaGreatDoor
namespace Go.Proofs.YthfipknfdnfalaaGreatDoor
open Go.RowKit
end Go.Proofs.YthfipknfdnfalaaGreatDoor
namespace Go.Proofs.YthfipknfdnfalaaGreatDoor
open Go.RowKit
def isFloat (c : Int) : Bool := decide (c = 42 ∨ c = 43 ∨ c = 56 ∨ c = 57 ∨ c = 67 ∨ c = 68 ∨ (91 ≤ c ∧ c ≤ 102) ∨ (139 ≤ c ∧ c ≤ 166) ∨ (168 ≤ c ∧ c ≤ 171) ∨ (174 ≤ c ∧ c ≤ 191))
set_option maxRecDepth 100000 in
set_option maxHeartbeats 4000000 in
theorem ref_float (c : Int) (w : World) : Calls Tryz.prog 154 #[.int .i64 c] w fun e w' => e = .returned (.bool (isFloat c)) ∧ w = w' := by
  rcases (show c < 42 ∨ c = 42 ∨ c = 43 ∨ (43 < c ∧ c < 56) ∨ c = 56 ∨ c = 57 ∨ (57 < c ∧ c < 67) ∨ c = 67 ∨ c = 68 ∨ (68 < c ∧ c < 91) ∨ (91 ≤ c ∧ c ≤ 102) ∨ (102 < c ∧ c < 139) ∨ (139 ≤ c ∧ c ≤ 166) ∨ c = 167 ∨ (168 ≤ c ∧ c ≤ 171) ∨ (171 < c ∧ c < 174) ∨ (174 ≤ c ∧ c ≤ 191) ∨ 191 < c by omega) with h | rfl | rfl | h | rfl | rfl | h | rfl | rfl | h | h | h | h | rfl | h | h | h | h
  all_goals
    first
      | (have e : isFloat c = true := by simp only [isFloat, decide_eq_true_eq]; omega
         rw [e])
      | (have e : isFloat c = false := by simp only [isFloat, decide_eq_false_iff_not]; omega
         rw [e])
      | skip
    go_enter Tryz.func154, Tryz.ntmps154
    go_wp2
    go_ret
    exact ⟨by first | rfl | exact ret_bl (by simp; omega), rfl⟩
end Go.Proofs.YthfipknfdnfalaaGreatDoor
namespace Go.Proofs.YthfipknfdnfalaaGreatDoor
open Go.RowKit
variable {pr : List (Nat × Obj)}
structure PI where
  op : Int
  a : Int
  b : Int
structure PO where
  op : Int
  result : Int
  height : Nat
structure PS where
  code : List PI
  stack : List Int
  opens : List PO
def PI.cells (x : PI) : List Value := [.int .i64 x.op, .int .i64 x.a, .int .i64 x.b, .slice none 0 0]
def PO.cells (x : PO) : List Value := [.int .i64 x.op, .int .u8 x.result, .int .i64 x.height]
def codeCells (l : List PI) : List Value := l.flatMap PI.cells
def openCells (l : List PO) : List Value := l.flatMap PO.cells
def stackCells (l : List Int) : List Value := l.map (.int .u8)
def apart (u v : Value) : Prop := ∀ g, u.ownBlock = some g → v.ownBlock ≠ some g
theorem apart.symm {u v : Value} (h : apart u v) : apart v u := fun g hg hu => h g hu hg
structure ProgAt (w0 : World) (pr : List (Nat × Obj)) (s : PS) (cv sv ov : Value) (w : World) : Prop where
  below : Below w0.heap.size w0 w
  size : w0.heap.size + 1 ≤ w.heap.size
  at3 : w.heap[w0.heap.size]? = some (.cells #[cv, sv, ov] 99)
  code : w.ownsRow (w0.heap.size + 1) 46 4 cv s.code.length (codeCells s.code)
  stack : w.ownsRow (w0.heap.size + 1) 5 1 sv s.stack.length (stackCells s.stack)
  opens : w.ownsRow (w0.heap.size + 1) 105 3 ov s.opens.length (openCells s.opens)
  cs : apart cv sv
  co : apart cv ov
  so : apart sv ov
  keep : ∀ p ∈ pr, w.heap[p.1]? = some p.2 ∧ p.1 ≠ w0.heap.size ∧ cv.ownBlock ≠ some p.1 ∧ sv.ownBlock ≠ some p.1 ∧ ov.ownBlock ≠ some p.1
def Prog (w0 : World) (pr : List (Nat × Obj)) (s : PS) (w : World) : Prop := ∃ cv sv ov, ProgAt w0 pr s cv sv ov w
theorem own_ge {w : World} {base : Nat} {e : TypeId} {size : Nat} {v : Value} {n : Nat} {xs : List Value} (h : w.ownsRow base e size v n xs) : ∀ g, v.ownBlock = some g → base ≤ g ∧ g < w.heap.size := fun g hg => World.ownsRow.lt h g hg
theorem heap_lt {w : World} {b : Nat} {o : Obj} (h : w.heap[b]? = some o) : b < w.heap.size := by
  by_cases hh : b < w.heap.size
  · exact hh
  · rw [Array.getElem?_eq_none (by omega)] at h; cases h
theorem ProgAt.alloc {w0 w : World} {s : PS} {cv sv ov : Value} (h : ProgAt w0 pr s cv sv ov w) (o : Obj) : ProgAt w0 pr s cv sv ov (w.alloc o) :=
  { h with below := h.below.alloc (by have := h.size; omega) o, size := by have := h.size; simp; omega, at3 := by rw [Below.heap_alloc w o _ (by have := h.size; omega)]; exact h.at3, code := h.code.alloc o, stack := h.stack.alloc o, opens := h.opens.alloc o, keep := fun p hp => ⟨by rw [Below.heap_alloc w o _ (heap_lt (h.keep p hp).1)]; exact (h.keep p hp).1, (h.keep p hp).2⟩ }
theorem ProgAt.drew {w0 w : World} {s : PS} {cv sv ov : Value} (h : ProgAt w0 pr s cv sv ov w) : ProgAt w0 pr s cv sv ov w.drew :=
  { h with below := h.below.drew, size := h.size, at3 := h.at3, code := h.code, stack := h.stack, opens := h.opens, keep := h.keep }
theorem Prog.kept {w0 w : World} {p : Nat × Obj} {s : PS} (h : Prog w0 (p :: pr) s w) : w.heap[p.1]? = some p.2 := by
  obtain ⟨cv, sv, ov, h⟩ := h; exact (h.keep p (List.mem_cons_self ..)).1
theorem bare {P : Program} {c : Code} {Q : Exit → Act → World → Prop} {a : Act} {w : World} (h : c.wp P (Exit.then (fun a w => Q .normal a w) Q) a w) : c.wp P Q a w :=
  Code.wp_mono (fun e a w he => by cases e <;> exact he) h
end Go.Proofs.YthfipknfdnfalaaGreatDoor
namespace Go.Proofs.YthfipknfdnfalaaGreatDoor
open Go.RowKit
theorem code_len (code : List PI) : (codeCells code).length = code.length * 4 := by
  induction code with
  | nil => rfl
  | cons x l ih => show (x.cells ++ codeCells l).length = _; rw [List.length_append, ih]; simp [PI.cells]; omega
structure Mine (w : World) (lo hi : Nat) (v : Value) (code : List PI) : Prop where
  own : w.ownsRow lo 46 4 v code.length (codeCells code)
  lt : ∀ g, v.ownBlock = some g → g < hi
  le : hi ≤ w.heap.size
theorem Mine.of {w : World} {lo : Nat} {v : Value} {code : List PI} (h : w.ownsRow lo 46 4 v code.length (codeCells code)) : Mine w lo w.heap.size v code := ⟨h, fun g hg => (own_ge h g hg).2, Nat.le_refl _⟩
theorem Mine.alloc {w : World} {lo hi : Nat} {v : Value} {code : List PI} (h : Mine w lo hi v code) (o : Obj) : Mine (w.alloc o) lo hi v code := ⟨h.own.alloc o, h.lt, by have := h.le; simp; omega⟩
theorem Mine.cells {w : World} {lo hi g n cap : Nat} {code : List PI} (h : Mine w lo hi (.slice (some ⟨g, 0, none⟩) n cap) code) (hn : n = code.length) : ∀ j u, (codeCells code)[j]? = some u → w.cell? ((⟨g, 0, none⟩ : Addr).add j) = some u := by
  intro j u hj
  subst hn
  have hlt : j < code.length * 4 := by rw [← code_len]; exact (List.getElem?_eq_some_iff.1 hj).1
  rw [Go.WideShapes.add_plain, Nat.zero_add, h.own.cellAt j hlt, hj]
theorem step_code {P : Program} {ops : Array Oper} {o : Oper} {a : Act} {w : World} {K : Act → World → Prop} {Q : Exit → Act → World → Prop} {E : Prop}
    (hg : o.guard = none) (s x : Operand) (t : TypeId) (hop : o.op = Op.call { callee := Callee.builtin Builtin.append, args := #[s, x], argTypes := #[t, t] })
    (base : Nat) (e : TypeId) (i : TypeInfo) (z : Value) (size bytes : Nat) (ht : P.underlying t = some (.slice e)) (hi : P.info? e = some i) (hz : i.zero = some z)
    (hsize : i.size = size) (hby : i.bytes = bytes) (hzs : z.cells.size = size) (hsz : 0 < size)
    (v : Value) (n : Nat) (xs : List Value) (hs : a.eval s = v) (hown : w.ownsRow base e size v n xs)
    (ad : Addr) (m c : Nat) (news : List Value) (hx : a.eval x = .slice (some ad) m c) (hl : news.length = m * size) (hnews : ∀ j u, news[j]? = some u → w.cell? (ad.add j) = some u) (h1 : ∀ u ∈ news, u.oneCell' = true)
    (h63 : n + m ≤ maxLen) (hbytes : (n + m) * bytes ≤ 140737488355328) (hbase : base ≤ w.heap.size)
    (hK : ∀ v' w', w'.ownsRow base e size v' (n + m) (xs ++ news) → w.grownBy w' v.ownBlock → K (a.put o.dst v') w') :
    if Region.wanted o (yielded ops a.tmps) = true then Oper.wp P o a w K Q else E := by
  have hw : Region.wanted o (yielded ops a.tmps) = true := by simp [Region.wanted, hg]
  rw [if_pos hw]
  obtain ⟨v', w', hr, h2, h3, h4, h5⟩ := run_append_own_at (P := P) w base t o.type e i z size bytes ht hi hz hsize hby hzs hsz v n xs hown ad m c news hl hnews h1 h63 hbytes hbase
  unfold Oper.wp execOp
  simp only [hop, resolve, invoke, builtin, Sem.run_bind, Sem.run_pure, Result.andThen_ok, List.map_toArray, List.map_cons, List.map_nil, hs, hx, hr]
  exact hK v' w' h2 h3
end Go.Proofs.YthfipknfdnfalaaGreatDoor
