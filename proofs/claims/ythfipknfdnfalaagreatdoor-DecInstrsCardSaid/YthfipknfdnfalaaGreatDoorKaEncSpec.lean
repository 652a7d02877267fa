/-
  Chapter 5: what bytes an instruction, runs of locals, a section, a module have, on Lean's own lists. Plain; no program is looked at.
-/
import Derived.Test.YthfipknfdnfalaaGreatDoorKaOpRefFind
import Derived.Test.YthfipknfdnfalaaGreatDoorKaLebMath
import Derived.Test.YthfipknfdnfalaaGreatDoorRows
import Derived.Test.YthfipknfdnfalaaGreatDoorKaLebRow
import Derived.Laws.Bits128
import Derived.WalkKit
import Derived.WalkSpells
import Derived.WalkLawsBesides
import Derived.Lib.Hide
namespace Go.Proofs.YthfipknfdnfalaaGreatDoor
end Go.Proofs.YthfipknfdnfalaaGreatDoor
namespace Go.Proofs.YthfipknfdnfalaaGreatDoor
def Cap (b f : List UInt8) : Prop := b = f ∨ (1048576 < b.length ∧ 1048576 < f.length)
theorem Cap.refl (b : List UInt8) : Cap b b := .inl rfl
theorem Cap.long {b f : List UInt8} (h : Cap b f) (hb : 1048576 < b.length) : 1048576 < f.length := by
  rcases h with rfl | h
  · exact hb
  · exact h.2
theorem Cap.ne {b f : List UInt8} (h : Cap b f) (hf : f ≠ []) : b ≠ [] := by
  rcases h with rfl | h
  · exact hf
  · intro e; rw [e] at h; exact absurd h.1 (by simp)
end Go.Proofs.YthfipknfdnfalaaGreatDoor
namespace Go.Proofs.YthfipknfdnfalaaGreatDoor
open Go.RowKit
set_option linter.unusedVariables false
def bs (l : List UInt8) : ByteArray := ⟨l.toArray⟩
end Go.Proofs.YthfipknfdnfalaaGreatDoor
namespace Go.Proofs.YthfipknfdnfalaaGreatDoor
open Go.RowKit
end Go.Proofs.YthfipknfdnfalaaGreatDoor
namespace Go.Proofs.YthfipknfdnfalaaGreatDoor
inductive Out (α : Type) where
  | ok (v : α) (rest : List UInt8)
  | bad (e : Int)
abbrev Pr (α : Type) : Type := List UInt8 → Out α
def Pr.val {α : Type} (v : α) : Pr α := fun l => .ok v l
def Pr.no {α : Type} (e : Int) : Pr α := fun _ => .bad e
def Pr.and {α β : Type} (p : Pr α) (f : α → Pr β) : Pr β := fun l => match p l with
  | .ok v r => f v r
  | .bad e => .bad e
theorem and_ok {α β : Type} {p : Pr α} {f : α → Pr β} {l r : List UInt8} {v : α} (h : p l = .ok v r) : (p.and f) l = f v r := by unfold Pr.and; rw [h]
theorem and_bad {α β : Type} {p : Pr α} {f : α → Pr β} {l : List UInt8} {e : Int} (h : p l = .bad e) : (p.and f) l = .bad e := by unfold Pr.and; rw [h]
theorem and_of {α β : Type} {p : Pr α} {f : α → Pr β} {l r : List UInt8} {v : β} (h : (p.and f) l = .ok v r) : ∃ x m, p l = .ok x m ∧ f x m = .ok v r := by
  unfold Pr.and at h
  cases hp : p l with
  | ok x m => rw [hp] at h; exact ⟨x, m, rfl, h⟩
  | bad e => rw [hp] at h; cases h
def pOne : Pr Int := fun l => match l with
  | [] => .bad 2
  | b :: r => .ok (b.toNat : Int) r
def pFit (K : IntKind) (p : Int → Int) (most : Nat) : Pr Int := fun l => match fit K most (dec p l) with
  | none => .bad 2
  | some (v, n) => .ok v (l.drop n)
def pNum : Pr Int := pFit .u32 usg 5
def pS32 : Pr Int := pFit .i32 sgn 5
def pS64 : Pr Int := pFit .i64 sgn 10
def pMany : Pr Int := pNum.and fun n => if 4096 < n then .no 5 else .val n
def pRep {α : Type} (p : Pr α) : Nat → Pr (List α)
  | 0 => .val []
  | n + 1 => p.and fun x => (pRep p n).and fun l => .val (x :: l)
def pList {α : Type} (p : Pr α) : Pr (List α) := pMany.and fun n => pRep p n.toNat
def pText : Pr (List UInt8) := pNum.and fun n l => if (l.length : Int) < n then .bad 2 else .ok (l.take n.toNat) (l.drop n.toNat)
def pIn {α : Type} (p : Pr α) (t : List UInt8) : Pr α := fun l => match p t with
  | .ok v [] => .ok v l
  | .ok _ (_ :: _) => .bad 2
  | .bad e => .bad e
def pWhole {α : Type} (p : Pr α) : Pr α := pText.and (pIn p)
def pKind (b : Int) : Pr Int := if b = 127 ∨ b = 126 then .val b else if b = 125 ∨ b = 124 then .no 3 else .no 2
def pValue : Pr Int := pOne.and pKind
def pName : Pr (List UInt8) := pText.and fun t => if isName t then .val t else .no 2
def pIs (b : Int) : Pr Unit := pOne.and fun c => if c = b then .val () else .no 2
def pSigned (code : Int) : Pr Int := if code = 65 then pS32 else pS64
def pConst (kind : Int) : Pr Int := pOne.and fun b =>
  if b = 35 ∨ b = 67 ∨ b = 68 then .no 3
  else if b = 65 ∨ b = 66 then (pSigned b).and fun n => if decide (b = 65) = decide (kind = 127) then (pIs 11).and fun _ => .val n else .no 4
  else .no 2
def bareI (op a b : Int) (ls : List Int) : InsV := ⟨op, a, b, none, 0, ls⟩
def pTail (shape op : Int) : Pr InsV :=
  if shape = 1 then pOne.and fun k => if k = 64 then .val (bareI op k 0 []) else (pKind k).and fun _ => .val (bareI op k 0 [])
  else if shape = 2 ∨ shape = 4 then pNum.and fun a => .val (bareI op a 0 [])
  else if shape = 3 then (pList pNum).and fun ls => pNum.and fun a => .val (bareI op a 0 ls)
  else if shape = 5 then pNum.and fun a => pNum.and fun b => .val (bareI op a b [])
  else if shape = 6 then (pIs 0).and fun _ => .val (bareI op 0 0 [])
  else if shape = 7 then (pSigned op).and fun a => .val (bareI op a 0 [])
  else .val (bareI op 0 0 [])
def pIns : Pr InsV := pOne.and fun b =>
  if isFloat b = true ∨ b = 17 then .no 3
  else match byCode b with
    | none => .no 2
    | some r => pTail r.shape b
def u8 (n : Int) : UInt8 := UInt8.ofNat n.toNat
def pLocals : Nat → Int → Pr (List UInt8)
  | 0, _ => .val []
  | n + 1, left => pNum.and fun k => pValue.and fun t => if left < k then .no 5 else (pLocals n (left - k)).and fun l => .val (List.replicate k.toNat (u8 t) ++ l)
def nest (o : List Int) (op : Int) : Option (List Int) :=
  if op = 2 ∨ op = 3 ∨ op = 4 then some (op :: o)
  else if op = 5 then match o with
    | c :: o' => if c = 4 then some (5 :: o') else none
    | [] => none
  else some o
def pBody : Nat → List Int → Pr (List InsV)
  | 0, _ => .no 2
  | f + 1, o => pIns.and fun x =>
    if x.op = 11 then match o with
      | [] => .val [x]
      | _ :: o' => (pBody f o').and fun l => .val (x :: l)
    else match nest o x.op with
      | none => .no 2
      | some o' => (pBody f o').and fun l => .val (x :: l)
def pCodeIn : Pr (List UInt8 × List InsV) := pMany.and fun n => (pLocals n.toNat 4096).and fun ls l => ((pBody l.length []).and fun c => .val (ls, c)) l
def fnOf (x : List UInt8 × List InsV) : FnV := ⟨0, bs x.1, none, 0, x.2⟩
def pCode : Pr FnV := (pWhole pCodeIn).and fun x => .val (fnOf x)
def pKinds : Pr ByteArray := (pList pValue).and fun l => .val (bs (l.map u8))
def pTy : Pr TyV := (pIs 96).and fun _ => pKinds.and fun p => pKinds.and fun q => if 1 < q.size then .no 3 else .val ⟨p, q⟩
def pFn : Pr FnV := pNum.and fun n => .val ⟨n, bs [], none, 0, []⟩
def pMem : Pr MemV := pOne.and fun k => if k = 0 then pNum.and fun a => .val ⟨a, -1⟩ else if k = 1 then pNum.and fun a => pNum.and fun b => .val ⟨a, b⟩ else .no 2
def pGlob : Pr GlobV := pValue.and fun t => pOne.and fun k => if k = 0 ∨ k = 1 then (pConst t).and fun n => .val ⟨t, decide (k = 1), n⟩ else .no 2
def pExp : Pr ExpV := pName.and fun s => pOne.and fun k => if k = 0 ∨ k = 2 ∨ k = 3 then pNum.and fun n => .val ⟨bs s, k, n⟩ else if k = 1 then .no 3 else .no 2
def pDat : Pr DatV := pNum.and fun n => if n = 0 then (pConst 127).and fun o => pText.and fun s => .val ⟨o, bs s⟩ else .no 3
structure Pts where
  types : List TyV
  funcs : List FnV
  memory : List MemV
  globals : List GlobV
  exports : List ExpV
  start : Int
  data : List DatV
  last : Int
  codes : List FnV
def pPart (id : Int) (p : Pts) : Pr Pts :=
  if id = 0 then pName.and fun _ _ => .ok p []
  else if id = 1 then (pList pTy).and fun l => .val { p with types := l }
  else if id = 3 then (pList pFn).and fun l => .val { p with funcs := l }
  else if id = 5 then (pList pMem).and fun l => .val { p with memory := l }
  else if id = 6 then (pList pGlob).and fun l => .val { p with globals := l }
  else if id = 7 then (pList pExp).and fun l => .val { p with exports := l }
  else if id = 8 then pNum.and fun n => .val { p with start := n }
  else if id = 10 then (pList pCode).and fun l => .val { p with codes := l }
  else (pList pDat).and fun l => .val { p with data := l }
def pSect (p : Pts) : Pr Pts := pOne.and fun id =>
  if id = 2 ∨ id = 4 ∨ id = 9 then .no 3
  else if 11 < id ∨ (id ≠ 0 ∧ id ≤ p.last) then .no 2
  else pWhole (pPart id { p with last := max p.last id })
def pSects : Nat → Pts → Pr Pts
  | 0, p => .val p
  | f + 1, p => fun l => match l with
    | [] => .ok p []
    | b :: r => ((pSect p).and (pSects f)) (b :: r)
def pts0 : Pts := ⟨[], [], [], [], [], -1, [], 0, []⟩
def joinFn (f c : FnV) : FnV := ⟨f.type, c.locals, none, 0, c.code⟩
def modOf (p : Pts) : MoV := ⟨none, 0, p.types, none, 0, List.zipWith joinFn p.funcs p.codes, none, 0, p.memory, none, 0, p.globals, none, 0, p.exports, p.start, none, 0, p.data⟩
def head6 : List UInt8 := [0, 97, 115, 109, 1, 0, 0, 0]
def mod6 (s : List UInt8) : Out MoV :=
  if 1048576 < s.length then .bad 5
  else if s.take 8 ≠ head6 then .bad 2
  else match pSects s.length pts0 (s.drop 8) with
    | .bad e => .bad e
    | .ok p r => if p.codes.length = p.funcs.length then .ok (modOf p) r else .bad 2
end Go.Proofs.YthfipknfdnfalaaGreatDoor
namespace Go.Proofs.YthfipknfdnfalaaGreatDoor
theorem table6 : ∀ r ∈ allRows, isFloat r.code = false ∧ r.code ≠ 17 ∧ (r.shape = 7 → r.code = 65 ∨ r.code = 66) ∧ 0 ≤ r.code ∧ r.code ≤ 255 ∧ 0 ≤ r.shape ∧ r.shape ≤ 7 := by decide +kernel
theorem byCode_6 {c : Int} {r : Rw} (h : byCode c = some r) : isFloat c = false ∧ c ≠ 17 ∧ (r.shape = 7 → c = 65 ∨ c = 66) ∧ 0 ≤ c ∧ c ≤ 255 ∧ 0 ≤ r.shape ∧ r.shape ≤ 7 := by
  have h1 := table6 r (List.mem_of_find?_eq_some h)
  have h2 : r.code = c := by have := List.find?_some h; simpa using this
  rwa [h2] at h1
def InsV.bare (x : InsV) : InsV := ⟨x.op, x.a, x.b, none, 0, x.ls⟩
def FnV.bare (f : FnV) : FnV := ⟨f.type, f.locals, none, 0, f.code.map InsV.bare⟩
end Go.Proofs.YthfipknfdnfalaaGreatDoor
namespace Go.Proofs.YthfipknfdnfalaaGreatDoor
def MoV.bare (m : MoV) : MoV := ⟨none, 0, m.types, none, 0, m.funcs.map FnV.bare, none, 0, m.memory, none, 0, m.globals, none, 0, m.exports, m.start, none, 0, m.data⟩
structure Fits6 (m : MoV) : Prop where
  ins : ∀ f ∈ m.funcs, ∀ x ∈ f.code, inI64 x.a
  init : ∀ t ∈ m.globals, inI64 t.init
theorem ModAt.fits {w : World} {m : MoV} (h : ModAt w m) : Fits6 m := ⟨fun f hf x hx => ((h.funcsIn f hf).1.2.1 x hx).2.2.2.1, fun t ht => (h.globalsIn t ht).2⟩
end Go.Proofs.YthfipknfdnfalaaGreatDoor
namespace Go.Proofs.YthfipknfdnfalaaGreatDoor
theorem val_of {α : Type} {v x : α} {l r : List UInt8} (h : Pr.val v l = .ok x r) : x = v ∧ r = l := by unfold Pr.val at h; injection h with h1 h2; exact ⟨h1.symm, h2.symm⟩
theorem no_of {α : Type} {e : Int} {x : α} {l r : List UInt8} (h : (Pr.no e : Pr α) l = .ok x r) : False := by unfold Pr.no at h; cases h
theorem pKind_of {b n : Int} {l r : List UInt8} (h : pKind b l = .ok n r) : n = b ∧ (b = 127 ∨ b = 126) := by
  unfold pKind at h
  split at h
  · rename_i hb; exact ⟨(val_of h).1, hb⟩
  · split at h <;> exact absurd h (fun h => no_of h)
theorem pValue_of {l r : List UInt8} {n : Int} (h : pValue l = .ok n r) : n = 127 ∨ n = 126 := by
  obtain ⟨b, m, _, h2⟩ := and_of h
  obtain ⟨rfl, h3⟩ := pKind_of h2
  exact h3
def Ins6 (x : InsV) : Prop := rightIns x = true ∧ inI64 x.a ∧ x.bare = x
def Code6 (f : FnV) : Prop := (∀ x ∈ f.code, Ins6 x) ∧ runs (opsOf f.code) [] = true ∧ vtypes f.locals.data.toList 4096 = true
structure Pts6 (p : Pts) : Prop where
  types : p.types.length ≤ 4096 ∧ ∀ t ∈ p.types, rightTy t = true
  funcs : p.funcs.length ≤ 4096 ∧ ∀ f ∈ p.funcs, word4 f.type = true
  memory : p.memory.length ≤ 4096 ∧ ∀ t ∈ p.memory, rightMem t = true
  globals : p.globals.length ≤ 4096 ∧ ∀ t ∈ p.globals, rightGlob t = true ∧ inI64 t.init
  exports : p.exports.length ≤ 4096 ∧ ∀ t ∈ p.exports, rightExp t = true
  start : p.start = -1 ∨ word4 p.start = true
  data : p.data.length ≤ 4096 ∧ ∀ t ∈ p.data, rightDat t = true
  codes : p.codes.length ≤ 4096 ∧ ∀ f ∈ p.codes, Code6 f
theorem Pts6.last {p : Pts} (h : Pts6 p) (la : Int) : Pts6 { p with last := la } := ⟨h.types, h.funcs, h.memory, h.globals, h.exports, h.start, h.data, h.codes⟩
end Go.Proofs.YthfipknfdnfalaaGreatDoor
