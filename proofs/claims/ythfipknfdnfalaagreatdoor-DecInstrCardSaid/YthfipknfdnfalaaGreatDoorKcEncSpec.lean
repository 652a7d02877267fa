/-
  Chapter 5: what bytes an instruction, runs of locals, a section, a module have, on Lean's own lists. Plain; no program is looked at.
-/
import Derived.Test.YthfipknfdnfalaaGreatDoorKcOpRefRows
import Derived.Test.YthfipknfdnfalaaGreatDoorKcLebPutA
namespace Go.Proofs.YthfipknfdnfalaaGreatDoor
set_option maxRecDepth 100000
set_option maxHeartbeats 16000000
def one5 (n : Int) : List UInt8 := [UInt8.ofNat (n % 256).toNat]
def tail5 (shape : Int) (x : InsV) : List UInt8 :=
  if shape = 1 then one5 x.a
  else if shape = 2 ∨ shape = 4 then putU x.a
  else if shape = 3 then putU x.ls.length ++ x.ls.flatMap putU ++ putU x.a
  else if shape = 5 then putU x.a ++ putU x.b
  else if shape = 6 then [0]
  else if shape = 7 then putS x.a
  else []
def ins5 (x : InsV) : List UInt8 := match byCode x.op with
  | none => []
  | some r => if rightIns x then one5 x.op ++ tail5 r.shape x else []
theorem putU_small {n : Int} (h0 : 0 ≤ n) (h1 : n < 4294967296) : (putU n).length ≤ 5 := (putU_len n h0 4).2 (by omega)
theorem flat_most {α : Type} {f : α → List UInt8} {k : Nat} : ∀ {l : List α}, (∀ x ∈ l, (f x).length ≤ k) → (l.flatMap f).length ≤ l.length * k
  | [], _ => by simp
  | x :: l, h => by
    rw [List.flatMap_cons, List.length_append, List.length_cons, Nat.succ_mul]
    have h1 := h x (by simp)
    have h2 := flat_most (l := l) fun y hy => h y (by simp [hy])
    omega
end Go.Proofs.YthfipknfdnfalaaGreatDoor
namespace Go.Proofs.YthfipknfdnfalaaGreatDoor
set_option maxRecDepth 100000
set_option maxHeartbeats 16000000
def Cap (b f : List UInt8) : Prop := b = f ∨ (1048576 < b.length ∧ 1048576 < f.length)
theorem Cap.refl (b : List UInt8) : Cap b b := .inl rfl
theorem Cap.app2 {b f s t : List UInt8} (h : Cap b f) (g : Cap s t) : Cap (b ++ s) (f ++ t) := by
  unfold Cap at *
  simp only [List.length_append]
  rcases h with rfl | h
  · rcases g with rfl | g
    · exact .inl rfl
    · exact .inr (by omega)
  · exact .inr (by
      refine ⟨by omega, by omega⟩)
theorem Cap.app {b f : List UInt8} (h : Cap b f) (t : List UInt8) : Cap (b ++ t) (f ++ t) := h.app2 (Cap.refl t)
theorem Cap.long {b f : List UInt8} (h : Cap b f) (hb : 1048576 < b.length) : 1048576 < f.length := by
  rcases h with rfl | h
  · exact hb
  · exact h.2
theorem Cap.ne {b f : List UInt8} (h : Cap b f) (hf : f ≠ []) : b ≠ [] := by
  rcases h with rfl | h
  · exact hf
  · intro e; rw [e] at h; exact absurd h.1 (by simp)
def eachC {α : Type} (F : List UInt8 → α → List UInt8) : List UInt8 → List α → List UInt8
  | out, [] => out
  | out, x :: l => if 1048576 < out.length then out else eachC F (F out x) l
theorem eachC_cons {α : Type} (F : List UInt8 → α → List UInt8) (out : List UInt8) (x : α) (l : List α) : eachC F out (x :: l) = if 1048576 < out.length then out else eachC F (F out x) l := by rw [eachC]
def numC (out : List UInt8) (n : Int) : List UInt8 := out ++ putU n
def listC {α : Type} (F : List UInt8 → α → List UInt8) (out : List UInt8) (l : List α) : List UInt8 := eachC F (numC out l.length) l
def tailC (shape : Int) (out : List UInt8) (x : InsV) : List UInt8 :=
  if shape = 1 then out ++ one5 x.a
  else if shape = 2 ∨ shape = 4 then numC out x.a
  else if shape = 3 then numC (listC numC out x.ls) x.a
  else if shape = 5 then numC (numC out x.a) x.b
  else if shape = 6 then out ++ [0]
  else if shape = 7 then out ++ putS x.a
  else out
def insC (out : List UInt8) (x : InsV) : List UInt8 := match byCode x.op with
  | none => out ++ one5 x.op
  | some r => tailC r.shape (out ++ one5 x.op) x
theorem cap_each {α : Type} {F : List UInt8 → α → List UInt8} {g : α → List UInt8} : ∀ {l : List α} {b f : List UInt8}, (∀ x ∈ l, ∀ b f, Cap b f → Cap (F b x) (f ++ g x)) → Cap b f → Cap (eachC F b l) (f ++ l.flatMap g)
  | [], b, f, _, hc => by simpa [eachC] using hc
  | x :: l, b, f, h, hc => by
    rw [eachC_cons]
    by_cases hb : 1048576 < b.length
    · rw [if_pos hb]
      have := hc.long hb
      exact .inr ⟨hb, by rw [List.length_append]; omega⟩
    · rw [if_neg hb, List.flatMap_cons, ← List.append_assoc]
      exact cap_each (fun y hy => h y (by simp [hy])) (h x (by simp) b f hc)
theorem cap_num {b f : List UInt8} (h : Cap b f) (n : Int) : Cap (numC b n) (f ++ putU n) := h.app _
theorem cap_list {α : Type} {F : List UInt8 → α → List UInt8} {g : α → List UInt8} {l : List α} {b f : List UInt8} (h : ∀ x ∈ l, ∀ b f, Cap b f → Cap (F b x) (f ++ g x)) (hc : Cap b f) : Cap (listC F b l) (f ++ (putU l.length ++ l.flatMap g)) := by
  rw [← List.append_assoc]
  exact cap_each h (cap_num hc _)
theorem cap_ins (x : InsV) (hr : rightIns x = true) {b f : List UInt8} (h : Cap b f) : Cap (insC b x) (f ++ ins5 x) := by
  unfold insC ins5
  cases hby : byCode x.op with
  | none => unfold rightIns at hr; rw [hby] at hr; cases hr
  | some r =>
    simp only [hr, if_true]
    rw [← List.append_assoc]
    have h1 := h.app (one5 x.op)
    unfold tailC tail5
    split
    · exact h1.app _
    split
    · exact cap_num h1 _
    split
    · rw [← List.append_assoc]
      exact cap_num (cap_list (F := numC) (g := putU) (fun y _ _ _ hc => cap_num hc y) h1) _
    split
    · rw [← List.append_assoc]
      exact cap_num (cap_num h1 _) _
    split
    · exact h1.app _
    split
    · exact h1.app _
    · simpa using h1
def Adds {α : Type} (F : List UInt8 → α → List UInt8) (K : Nat) (x : α) : Prop := ∀ out, out.length ≤ 1048576 → (F out x).length ≤ 1048576 + K
theorem each_len {α : Type} {F : List UInt8 → α → List UInt8} {K : Nat} : ∀ {l : List α} {b : List UInt8}, (∀ x ∈ l, Adds F K x) → (eachC F b l).length ≤ max b.length (1048576 + K)
  | [], b, _ => by simp [eachC]; omega
  | x :: l, b, h => by
    rw [eachC_cons]
    by_cases hb : 1048576 < b.length
    · rw [if_pos hb]; omega
    · rw [if_neg hb]
      have h1 := h x (by simp) b (by omega)
      have h2 := each_len (l := l) (b := F b x) (fun y hy => h y (by simp [hy]))
      omega
theorem num_len {b : List UInt8} {n : Int} (h0 : 0 ≤ n) (h1 : n ≤ 18446744073709551615) : (numC b n).length ≤ b.length + 10 := by
  unfold numC
  rw [List.length_append]
  have := putU_len10 h0 h1
  omega
end Go.Proofs.YthfipknfdnfalaaGreatDoor
namespace Go.Proofs.YthfipknfdnfalaaGreatDoor
set_option maxRecDepth 100000
set_option maxHeartbeats 16000000
open Go.RowKit
set_option linter.unusedVariables false
def bs (l : List UInt8) : ByteArray := ⟨l.toArray⟩
end Go.Proofs.YthfipknfdnfalaaGreatDoor
namespace Go.Proofs.YthfipknfdnfalaaGreatDoor
set_option maxRecDepth 100000
set_option maxHeartbeats 16000000
open Go.RowKit
end Go.Proofs.YthfipknfdnfalaaGreatDoor
namespace Go.Proofs.YthfipknfdnfalaaGreatDoor
set_option maxRecDepth 100000
set_option maxHeartbeats 16000000
inductive Out (α : Type) where
  | ok (v : α) (rest : List UInt8)
  | bad (e : Int)
abbrev Pr (α : Type) : Type := List UInt8 → Out α
def Pr.val {α : Type} (v : α) : Pr α := fun l => .ok v l
def Pr.no {α : Type} (e : Int) : Pr α := fun _ => .bad e
def Pr.and {α β : Type} (p : Pr α) (f : α → Pr β) : Pr β := fun l => match p l with
  | .ok v r => f v r
  | .bad e => .bad e
theorem and_ok {α β : Type} {p : Pr α} {f : α → Pr β} {l r : List UInt8} {v : α} (h : p l = .ok v r) : (p.and f) l = f v r := by unfold Pr.and; rw [h]
theorem and_bad {α β : Type} {p : Pr α} {f : α → Pr β} {l : List UInt8} {e : Int} (h : p l = .bad e) : (p.and f) l = .bad e := by unfold Pr.and; rw [h]
theorem and_of {α β : Type} {p : Pr α} {f : α → Pr β} {l r : List UInt8} {v : β} (h : (p.and f) l = .ok v r) : ∃ x m, p l = .ok x m ∧ f x m = .ok v r := by
  unfold Pr.and at h
  cases hp : p l with
  | ok x m => rw [hp] at h; exact ⟨x, m, rfl, h⟩
  | bad e => rw [hp] at h; cases h
def pOne : Pr Int := fun l => match l with
  | [] => .bad 2
  | b :: r => .ok (b.toNat : Int) r
def pFit (K : IntKind) (p : Int → Int) (most : Nat) : Pr Int := fun l => match fit K most (dec p l) with
  | none => .bad 2
  | some (v, n) => .ok v (l.drop n)
def pNum : Pr Int := pFit .u32 usg 5
def pS32 : Pr Int := pFit .i32 sgn 5
def pS64 : Pr Int := pFit .i64 sgn 10
def pMany : Pr Int := pNum.and fun n => if 4096 < n then .no 5 else .val n
def pRep {α : Type} (p : Pr α) : Nat → Pr (List α)
  | 0 => .val []
  | n + 1 => p.and fun x => (pRep p n).and fun l => .val (x :: l)
def pList {α : Type} (p : Pr α) : Pr (List α) := pMany.and fun n => pRep p n.toNat
def pText : Pr (List UInt8) := pNum.and fun n l => if (l.length : Int) < n then .bad 2 else .ok (l.take n.toNat) (l.drop n.toNat)
def pIn {α : Type} (p : Pr α) (t : List UInt8) : Pr α := fun l => match p t with
  | .ok v [] => .ok v l
  | .ok _ (_ :: _) => .bad 2
  | .bad e => .bad e
def pWhole {α : Type} (p : Pr α) : Pr α := pText.and (pIn p)
def pKind (b : Int) : Pr Int := if b = 127 ∨ b = 126 then .val b else if b = 125 ∨ b = 124 then .no 3 else .no 2
def pValue : Pr Int := pOne.and pKind
def pName : Pr (List UInt8) := pText.and fun t => if isName t then .val t else .no 2
def pIs (b : Int) : Pr Unit := pOne.and fun c => if c = b then .val () else .no 2
def pSigned (code : Int) : Pr Int := if code = 65 then pS32 else pS64
def pConst (kind : Int) : Pr Int := pOne.and fun b =>
  if b = 35 ∨ b = 67 ∨ b = 68 then .no 3
  else if b = 65 ∨ b = 66 then (pSigned b).and fun n => if decide (b = 65) = decide (kind = 127) then (pIs 11).and fun _ => .val n else .no 4
  else .no 2
def bareI (op a b : Int) (ls : List Int) : InsV := ⟨op, a, b, none, 0, ls⟩
def pTail (shape op : Int) : Pr InsV :=
  if shape = 1 then pOne.and fun k => if k = 64 then .val (bareI op k 0 []) else (pKind k).and fun _ => .val (bareI op k 0 [])
  else if shape = 2 ∨ shape = 4 then pNum.and fun a => .val (bareI op a 0 [])
  else if shape = 3 then (pList pNum).and fun ls => pNum.and fun a => .val (bareI op a 0 ls)
  else if shape = 5 then pNum.and fun a => pNum.and fun b => .val (bareI op a b [])
  else if shape = 6 then (pIs 0).and fun _ => .val (bareI op 0 0 [])
  else if shape = 7 then (pSigned op).and fun a => .val (bareI op a 0 [])
  else .val (bareI op 0 0 [])
def pIns : Pr InsV := pOne.and fun b =>
  if isFloat b = true ∨ b = 17 then .no 3
  else match byCode b with
    | none => .no 2
    | some r => pTail r.shape b
def u8 (n : Int) : UInt8 := UInt8.ofNat n.toNat
def pLocals : Nat → Int → Pr (List UInt8)
  | 0, _ => .val []
  | n + 1, left => pNum.and fun k => pValue.and fun t => if left < k then .no 5 else (pLocals n (left - k)).and fun l => .val (List.replicate k.toNat (u8 t) ++ l)
def nest (o : List Int) (op : Int) : Option (List Int) :=
  if op = 2 ∨ op = 3 ∨ op = 4 then some (op :: o)
  else if op = 5 then match o with
    | c :: o' => if c = 4 then some (5 :: o') else none
    | [] => none
  else some o
def pBody : Nat → List Int → Pr (List InsV)
  | 0, _ => .no 2
  | f + 1, o => pIns.and fun x =>
    if x.op = 11 then match o with
      | [] => .val [x]
      | _ :: o' => (pBody f o').and fun l => .val (x :: l)
    else match nest o x.op with
      | none => .no 2
      | some o' => (pBody f o').and fun l => .val (x :: l)
def pCodeIn : Pr (List UInt8 × List InsV) := pMany.and fun n => (pLocals n.toNat 4096).and fun ls l => ((pBody l.length []).and fun c => .val (ls, c)) l
def fnOf (x : List UInt8 × List InsV) : FnV := ⟨0, bs x.1, none, 0, x.2⟩
def pCode : Pr FnV := (pWhole pCodeIn).and fun x => .val (fnOf x)
def pKinds : Pr ByteArray := (pList pValue).and fun l => .val (bs (l.map u8))
def pTy : Pr TyV := (pIs 96).and fun _ => pKinds.and fun p => pKinds.and fun q => if 1 < q.size then .no 3 else .val ⟨p, q⟩
def pFn : Pr FnV := pNum.and fun n => .val ⟨n, bs [], none, 0, []⟩
def pMem : Pr MemV := pOne.and fun k => if k = 0 then pNum.and fun a => .val ⟨a, -1⟩ else if k = 1 then pNum.and fun a => pNum.and fun b => .val ⟨a, b⟩ else .no 2
def pGlob : Pr GlobV := pValue.and fun t => pOne.and fun k => if k = 0 ∨ k = 1 then (pConst t).and fun n => .val ⟨t, decide (k = 1), n⟩ else .no 2
def pExp : Pr ExpV := pName.and fun s => pOne.and fun k => if k = 0 ∨ k = 2 ∨ k = 3 then pNum.and fun n => .val ⟨bs s, k, n⟩ else if k = 1 then .no 3 else .no 2
def pDat : Pr DatV := pNum.and fun n => if n = 0 then (pConst 127).and fun o => pText.and fun s => .val ⟨o, bs s⟩ else .no 3
structure Pts where
  types : List TyV
  funcs : List FnV
  memory : List MemV
  globals : List GlobV
  exports : List ExpV
  start : Int
  data : List DatV
  last : Int
  codes : List FnV
def pPart (id : Int) (p : Pts) : Pr Pts :=
  if id = 0 then pName.and fun _ _ => .ok p []
  else if id = 1 then (pList pTy).and fun l => .val { p with types := l }
  else if id = 3 then (pList pFn).and fun l => .val { p with funcs := l }
  else if id = 5 then (pList pMem).and fun l => .val { p with memory := l }
  else if id = 6 then (pList pGlob).and fun l => .val { p with globals := l }
  else if id = 7 then (pList pExp).and fun l => .val { p with exports := l }
  else if id = 8 then pNum.and fun n => .val { p with start := n }
  else if id = 10 then (pList pCode).and fun l => .val { p with codes := l }
  else (pList pDat).and fun l => .val { p with data := l }
def pSect (p : Pts) : Pr Pts := pOne.and fun id =>
  if id = 2 ∨ id = 4 ∨ id = 9 then .no 3
  else if 11 < id ∨ (id ≠ 0 ∧ id ≤ p.last) then .no 2
  else pWhole (pPart id { p with last := max p.last id })
def pSects : Nat → Pts → Pr Pts
  | 0, p => .val p
  | f + 1, p => fun l => match l with
    | [] => .ok p []
    | b :: r => ((pSect p).and (pSects f)) (b :: r)
def pts0 : Pts := ⟨[], [], [], [], [], -1, [], 0, []⟩
def joinFn (f c : FnV) : FnV := ⟨f.type, c.locals, none, 0, c.code⟩
def modOf (p : Pts) : MoV := ⟨none, 0, p.types, none, 0, List.zipWith joinFn p.funcs p.codes, none, 0, p.memory, none, 0, p.globals, none, 0, p.exports, p.start, none, 0, p.data⟩
def head6 : List UInt8 := [0, 97, 115, 109, 1, 0, 0, 0]
def mod6 (s : List UInt8) : Out MoV :=
  if 1048576 < s.length then .bad 5
  else if s.take 8 ≠ head6 then .bad 2
  else match pSects s.length pts0 (s.drop 8) with
    | .bad e => .bad e
    | .ok p r => if p.codes.length = p.funcs.length then .ok (modOf p) r else .bad 2
theorem pNum_put {n : Int} (h0 : 0 ≤ n) (h1 : n < 4294967296) (t : List UInt8) : pNum (putU n ++ t) = .ok n t := by
  unfold pNum pFit
  rw [dec_putU t n h0]
  simp only [fit]
  rw [if_pos ⟨putU_small h0 h1, by simp [IntKind.min, IntKind.signed]; omega, by simp [IntKind.max, IntKind.signed, IntKind.bits]; omega⟩]
  simp
theorem pS32_put {n : Int} (h0 : -2147483648 ≤ n) (h1 : n < 2147483648) (t : List UInt8) : pS32 (putS n ++ t) = .ok n t := by
  unfold pS32 pFit
  rw [dec_putS t n]
  simp only [fit]
  rw [if_pos ⟨(putS_len n 4).2 (by omega), by simp [IntKind.min, IntKind.signed, IntKind.bits]; omega, by simp [IntKind.max, IntKind.signed, IntKind.bits]; omega⟩]
  simp
theorem pS64_put {n : Int} (h : inI64 n) (t : List UInt8) : pS64 (putS n ++ t) = .ok n t := by
  unfold inI64 at h
  unfold pS64 pFit
  rw [dec_putS t n]
  simp only [fit]
  rw [if_pos ⟨(putS_len n 9).2 (by omega), by simp [IntKind.min, IntKind.signed, IntKind.bits]; omega, by simp [IntKind.max, IntKind.signed, IntKind.bits]; omega⟩]
  simp
theorem pOne_one {n : Int} (h0 : 0 ≤ n) (h1 : n < 256) (t : List UInt8) : pOne (one5 n ++ t) = .ok n t := by
  have e : ((UInt8.ofNat (n % 256).toNat).toNat : Int) = n := by rw [show n % 256 = n by omega]; exact byte_of h0 h1
  show Out.ok ((UInt8.ofNat (n % 256).toNat).toNat : Int) t = _
  rw [e]
theorem pMany_put {n : Nat} (h : n ≤ 4096) (t : List UInt8) : pMany (putU n ++ t) = .ok (n : Int) t := by
  unfold pMany
  rw [and_ok (pNum_put (by omega) (by omega) t), if_neg (by omega)]
  rfl
theorem pRep_put {α β : Type} {p : Pr β} {F : α → List UInt8} {g : α → β} : ∀ {l : List α} (_ : ∀ x ∈ l, ∀ t, p (F x ++ t) = .ok (g x) t) (t : List UInt8), pRep p l.length (l.flatMap F ++ t) = .ok (l.map g) t
  | [], _, t => rfl
  | x :: l, h, t => by
    rw [List.flatMap_cons, List.append_assoc, List.length_cons]
    unfold pRep
    rw [and_ok (h x (by simp) _), and_ok (pRep_put (fun y hy => h y (by simp [hy])) t)]
    rfl
theorem pList_put {α β : Type} {p : Pr β} {F : α → List UInt8} {g : α → β} {l : List α} (h : ∀ x ∈ l, ∀ t, p (F x ++ t) = .ok (g x) t) (hl : l.length ≤ 4096) (t : List UInt8) : pList p (putU l.length ++ (l.flatMap F ++ t)) = .ok (l.map g) t := by
  unfold pList
  rw [and_ok (pMany_put hl _), Int.toNat_natCast]
  exact pRep_put h t
theorem pKind_ok {b : Int} (h : b = 127 ∨ b = 126) (t : List UInt8) : pKind b t = .ok b t := by unfold pKind; rw [if_pos h]; rfl
theorem table6 : ∀ r ∈ allRows, isFloat r.code = false ∧ r.code ≠ 17 ∧ (r.shape = 7 → r.code = 65 ∨ r.code = 66) ∧ 0 ≤ r.code ∧ r.code ≤ 255 ∧ 0 ≤ r.shape ∧ r.shape ≤ 7 := by decide +kernel
theorem byCode_6 {c : Int} {r : Rw} (h : byCode c = some r) : isFloat c = false ∧ c ≠ 17 ∧ (r.shape = 7 → c = 65 ∨ c = 66) ∧ 0 ≤ c ∧ c ≤ 255 ∧ 0 ≤ r.shape ∧ r.shape ≤ 7 := by
  have h1 := table6 r (List.mem_of_find?_eq_some h)
  have h2 : r.code = c := by have := List.find?_some h; simpa using this
  rwa [h2] at h1
theorem word_is {n : Int} (h : word n = true) : 0 ≤ n ∧ n < 4294967296 := by simpa [word] using h
def InsV.bare (x : InsV) : InsV := ⟨x.op, x.a, x.b, none, 0, x.ls⟩
theorem pNums_put {ls : List Int} (h : ls.all word = true) (hl : ls.length ≤ 4096) (t : List UInt8) : pList pNum (putU ls.length ++ ls.flatMap putU ++ t) = .ok ls t := by
  rw [List.all_eq_true] at h
  have := pList_put (p := pNum) (F := putU) (g := id) (l := ls) (fun n hn t => pNum_put (word_is (h n hn)).1 (word_is (h n hn)).2 t) hl t
  rw [List.append_assoc]
  simpa using this
theorem pTail_put {x : InsV} {r : Rw} (hb : byCode x.op = some r) (h : rightIns x = true) (ha : inI64 x.a) (t : List UInt8) : pTail r.shape x.op (tail5 r.shape x ++ t) = .ok x.bare t := by
  obtain ⟨op, a, b, lp, lc, ls⟩ := x
  have h6 := byCode_6 hb
  unfold rightIns at h
  rw [hb] at h
  unfold rightOf at h
  simp only at h hb h6 ha ⊢
  unfold InsV.bare
  simp only
  by_cases h1 : b ≠ 0 ∧ r.shape ≠ 5
  · rw [if_pos h1] at h; cases h
  rw [if_neg h1] at h
  by_cases h2 : ls ≠ [] ∧ r.shape ≠ 3
  · rw [if_pos h2] at h; cases h
  rw [if_neg h2] at h
  have hb5 : r.shape ≠ 5 → b = 0 := fun e => Classical.byContradiction fun f => h1 ⟨f, e⟩
  have hl3 : r.shape ≠ 3 → ls = [] := fun e => Classical.byContradiction fun f => h2 ⟨f, e⟩
  generalize r.shape = s at *
  unfold pTail tail5
  dsimp only
  rcases (show s = 0 ∨ s = 1 ∨ s = 2 ∨ s = 3 ∨ s = 4 ∨ s = 5 ∨ s = 6 ∨ s = 7 by omega) with rfl | rfl | rfl | rfl | rfl | rfl | rfl | rfl
  · simp at h; rw [hb5 (by decide), hl3 (by decide), h]; rfl
  · simp at h
    rw [hb5 (by decide), hl3 (by decide), if_pos rfl, if_pos rfl, and_ok (pOne_one (by omega) (by omega) t)]
    by_cases h64 : a = 64
    · rw [if_pos h64]; rfl
    · rw [if_neg h64, and_ok (pKind_ok (by omega) t)]; rfl
  · simp at h
    have := word_is h
    rw [hb5 (by decide), hl3 (by decide), if_neg (by decide), if_pos (by decide), if_neg (by decide), if_pos (by decide), and_ok (pNum_put this.1 this.2 t)]; rfl
  · simp at h
    have hw := word_is h.2
    rw [hb5 (by decide), if_neg (by decide), if_neg (by decide), if_pos (by decide), if_neg (by decide), if_neg (by decide), if_pos (by decide)]
    rw [List.append_assoc, and_ok (pNums_put (by rw [List.all_eq_true]; exact h.1.1) h.1.2 _), and_ok (pNum_put hw.1 hw.2 t)]; rfl
  · simp at h
    have := word_is h
    rw [hb5 (by decide), hl3 (by decide), if_neg (by decide), if_pos (by decide), if_neg (by decide), if_pos (by decide), and_ok (pNum_put this.1 this.2 t)]; rfl
  · simp at h
    have hw := word_is h.1
    have hw2 := word_is h.2
    rw [hl3 (by decide), if_neg (by decide), if_neg (by decide), if_neg (by decide), if_pos (by decide), if_neg (by decide), if_neg (by decide), if_neg (by decide), if_pos (by decide)]
    rw [List.append_assoc, and_ok (pNum_put hw.1 hw.2 _), and_ok (pNum_put hw2.1 hw2.2 t)]; rfl
  · simp at h; rw [hb5 (by decide), hl3 (by decide), h]; rfl
  · simp at h
    rw [hb5 (by decide), hl3 (by decide)]
    show (pSigned op).and _ (putS a ++ t) = _
    rw [and_ok (show pSigned op _ = .ok a t by
      unfold pSigned
      rcases h6.2.2.1 rfl with h7 | h7
      · rw [if_pos h7]; exact pS32_put (by omega) (by omega) t
      · rw [if_neg (by omega)]; exact pS64_put ha t)]
    rfl
theorem ins5_is {x : InsV} {r : Rw} (hb : byCode x.op = some r) (h : rightIns x = true) : ins5 x = one5 x.op ++ tail5 r.shape x := by unfold ins5; rw [hb]; simp only; rw [if_pos h]
theorem right_code {x : InsV} (h : rightIns x = true) : ∃ r, byCode x.op = some r := by
  unfold rightIns at h
  cases hb : byCode x.op with
  | none => rw [hb] at h; cases h
  | some r => exact ⟨r, rfl⟩
theorem pIns_put {x : InsV} (h : rightIns x = true) (ha : inI64 x.a) (t : List UInt8) : pIns (ins5 x ++ t) = .ok x.bare t := by
  obtain ⟨r, hb⟩ := right_code h
  have h6 := byCode_6 hb
  rw [ins5_is hb h, List.append_assoc]
  unfold pIns
  rw [and_ok (pOne_one h6.2.2.2.1 (by omega) _), if_neg (by rw [h6.1]; simp; exact h6.2.1), hb]
  exact pTail_put hb h ha t
def FnV.bare (f : FnV) : FnV := ⟨f.type, f.locals, none, 0, f.code.map InsV.bare⟩
def MoV.bare (m : MoV) : MoV := ⟨none, 0, m.types, none, 0, m.funcs.map FnV.bare, none, 0, m.memory, none, 0, m.globals, none, 0, m.exports, m.start, none, 0, m.data⟩
theorem val_of {α : Type} {v x : α} {l r : List UInt8} (h : Pr.val v l = .ok x r) : x = v ∧ r = l := by unfold Pr.val at h; injection h with h1 h2; exact ⟨h1.symm, h2.symm⟩
theorem no_of {α : Type} {e : Int} {x : α} {l r : List UInt8} (h : (Pr.no e : Pr α) l = .ok x r) : False := by unfold Pr.no at h; cases h
theorem pKind_of {b n : Int} {l r : List UInt8} (h : pKind b l = .ok n r) : n = b ∧ (b = 127 ∨ b = 126) := by
  unfold pKind at h
  split at h
  · rename_i hb; exact ⟨(val_of h).1, hb⟩
  · split at h <;> exact absurd h (fun h => no_of h)
theorem pValue_of {l r : List UInt8} {n : Int} (h : pValue l = .ok n r) : n = 127 ∨ n = 126 := by
  obtain ⟨b, m, _, h2⟩ := and_of h
  obtain ⟨rfl, h3⟩ := pKind_of h2
  exact h3
def Ins6 (x : InsV) : Prop := rightIns x = true ∧ inI64 x.a ∧ x.bare = x
def Code6 (f : FnV) : Prop := (∀ x ∈ f.code, Ins6 x) ∧ runs (opsOf f.code) [] = true ∧ vtypes f.locals.data.toList 4096 = true
structure Pts6 (p : Pts) : Prop where
  types : p.types.length ≤ 4096 ∧ ∀ t ∈ p.types, rightTy t = true
  funcs : p.funcs.length ≤ 4096 ∧ ∀ f ∈ p.funcs, word4 f.type = true
  memory : p.memory.length ≤ 4096 ∧ ∀ t ∈ p.memory, rightMem t = true
  globals : p.globals.length ≤ 4096 ∧ ∀ t ∈ p.globals, rightGlob t = true ∧ inI64 t.init
  exports : p.exports.length ≤ 4096 ∧ ∀ t ∈ p.exports, rightExp t = true
  start : p.start = -1 ∨ word4 p.start = true
  data : p.data.length ≤ 4096 ∧ ∀ t ∈ p.data, rightDat t = true
  codes : p.codes.length ≤ 4096 ∧ ∀ f ∈ p.codes, Code6 f
theorem Pts6.last {p : Pts} (h : Pts6 p) (la : Int) : Pts6 { p with last := la } := ⟨h.types, h.funcs, h.memory, h.globals, h.exports, h.start, h.data, h.codes⟩
end Go.Proofs.YthfipknfdnfalaaGreatDoor
