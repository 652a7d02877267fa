/-
  Facts and contracts that the proof calls.
-/
import Derived.Test.YtdinpakclmnacaaGreatDoorKfOpRefRows
import Derived.Test.YtdinpakclmnacaaGreatDoorKfLebPutA
namespace Go.Proofs.YtdinpakclmnacaaGreatDoor
set_option maxRecDepth 100000
set_option maxHeartbeats 16000000
def one5 (n : Int) : List UInt8 := [UInt8.ofNat (n % 256).toNat]
def txt5 (s : List UInt8) : List UInt8 := putU s.length ++ s
def tail5 (shape : Int) (x : InsV) : List UInt8 :=
  if shape = 1 then one5 x.a
  else if shape = 2 ∨ shape = 4 then putU x.a
  else if shape = 3 then putU x.ls.length ++ x.ls.flatMap putU ++ putU x.a
  else if shape = 5 then putU x.a ++ putU x.b
  else if shape = 6 then [0]
  else if shape = 7 then putS x.a
  else []
def ins5 (x : InsV) : List UInt8 := match byCode x.op with
  | none => []
  | some r => if rightIns x then one5 x.op ++ tail5 r.shape x else []
def grp : List UInt8 → List (UInt8 × Nat)
  | [] => []
  | b :: l => match grp l with
    | [] => [(b, 1)]
    | (c, k) :: r => if b = c then (c, k + 1) :: r else (b, 1) :: (c, k) :: r
theorem grp_cons (b : UInt8) (l : List UInt8) : grp (b :: l) = match grp l with
    | [] => [(b, 1)]
    | (c, k) :: r => if b = c then (c, k + 1) :: r else (b, 1) :: (c, k) :: r := by rw [grp]
def runs5 (s : List UInt8) : List UInt8 := putU (grp s).length ++ (grp s).flatMap fun x => putU x.2 ++ [x.1]
def const5 (kind n : Int) : List UInt8 := one5 (192 - kind) ++ putS n ++ [11]
def sect5 (id : Int) (n : Nat) (s : List UInt8) : List UInt8 := if n = 0 then [] else one5 id ++ txt5 (putU n ++ s)
def ty5 (t : TyV) : List UInt8 := [96] ++ txt5 t.params.data.toList ++ txt5 t.results.data.toList
def code5 (f : FnV) : List UInt8 := txt5 (runs5 f.locals.data.toList ++ f.code.flatMap ins5)
def mem5 (t : MemV) : List UInt8 := if t.max = -1 then [0] ++ putU t.min else [1] ++ putU t.min ++ putU t.max
def glob5 (t : GlobV) : List UInt8 := one5 t.type ++ [if t.may then 1 else 0] ++ const5 t.type t.init
def exp5 (t : ExpV) : List UInt8 := txt5 t.name.data.toList ++ one5 t.kind ++ putU t.index
def dat5 (t : DatV) : List UInt8 := [0] ++ const5 127 t.offset ++ txt5 t.bytes.data.toList
def start5 (n : Int) : List UInt8 := if n = -1 then [] else one5 8 ++ txt5 (putU n)
def mod5 (m : MoV) : List UInt8 :=
  [0, 97, 115, 109, 1, 0, 0, 0] ++ sect5 1 m.types.length (m.types.flatMap ty5) ++ sect5 3 m.funcs.length (m.funcs.flatMap fun f => putU f.type) ++ sect5 5 m.memory.length (m.memory.flatMap mem5) ++ sect5 6 m.globals.length (m.globals.flatMap glob5) ++ sect5 7 m.exports.length (m.exports.flatMap exp5) ++ start5 m.start ++ sect5 10 m.funcs.length (m.funcs.flatMap code5) ++ sect5 11 m.data.length (m.data.flatMap dat5)
theorem one5_len (n : Int) : (one5 n).length = 1 := rfl
theorem putU_small {n : Int} (h0 : 0 ≤ n) (h1 : n < 4294967296) : (putU n).length ≤ 5 := (putU_len n h0 4).2 (by omega)
theorem txt5_len {s : List UInt8} (h : (s.length : Int) ≤ 18446744073709551615) : (txt5 s).length ≤ 10 + s.length := by
  unfold txt5
  rw [List.length_append]
  have := putU_len10 (n := (s.length : Int)) (by omega) h
  omega
theorem flat_most {α : Type} {f : α → List UInt8} {k : Nat} : ∀ {l : List α}, (∀ x ∈ l, (f x).length ≤ k) → (l.flatMap f).length ≤ l.length * k
  | [], _ => by simp
  | x :: l, h => by
    rw [List.flatMap_cons, List.length_append, List.length_cons, Nat.succ_mul]
    have h1 := h x (by simp)
    have h2 := flat_most (l := l) fun y hy => h y (by simp [hy])
    omega
theorem grp_len : ∀ s : List UInt8, (grp s).length ≤ s.length
  | [] => by simp [grp]
  | b :: l => by
    have ih := grp_len l
    rw [grp_cons]
    cases hg : grp l with
    | nil => simp
    | cons x r =>
      obtain ⟨c, k⟩ := x
      rw [hg] at ih
      simp only
      split <;> simp at ih ⊢ <;> omega
end Go.Proofs.YtdinpakclmnacaaGreatDoor
namespace Go.Proofs.YtdinpakclmnacaaGreatDoor
set_option maxRecDepth 100000
set_option maxHeartbeats 16000000
def Cap (b f : List UInt8) : Prop := b = f ∨ (1048576 < b.length ∧ 1048576 < f.length)
theorem Cap.refl (b : List UInt8) : Cap b b := .inl rfl
theorem Cap.app2 {b f s t : List UInt8} (h : Cap b f) (g : Cap s t) : Cap (b ++ s) (f ++ t) := by
  unfold Cap at *
  simp only [List.length_append]
  rcases h with rfl | h
  · rcases g with rfl | g
    · exact .inl rfl
    · exact .inr (by omega)
  · exact .inr (by
      refine ⟨by omega, by omega⟩)
theorem Cap.app {b f : List UInt8} (h : Cap b f) (t : List UInt8) : Cap (b ++ t) (f ++ t) := h.app2 (Cap.refl t)
theorem Cap.long {b f : List UInt8} (h : Cap b f) (hb : 1048576 < b.length) : 1048576 < f.length := by
  rcases h with rfl | h
  · exact hb
  · exact h.2
theorem Cap.ne {b f : List UInt8} (h : Cap b f) (hf : f ≠ []) : b ≠ [] := by
  rcases h with rfl | h
  · exact hf
  · intro e; rw [e] at h; exact absurd h.1 (by simp)
def eachC {α : Type} (F : List UInt8 → α → List UInt8) : List UInt8 → List α → List UInt8
  | out, [] => out
  | out, x :: l => if 1048576 < out.length then out else eachC F (F out x) l
theorem eachC_cons {α : Type} (F : List UInt8 → α → List UInt8) (out : List UInt8) (x : α) (l : List α) : eachC F out (x :: l) = if 1048576 < out.length then out else eachC F (F out x) l := by rw [eachC]
def textC (out s : List UInt8) : List UInt8 := out ++ putU s.length ++ s.take 1048577
def numC (out : List UInt8) (n : Int) : List UInt8 := out ++ putU n
def listC {α : Type} (F : List UInt8 → α → List UInt8) (out : List UInt8) (l : List α) : List UInt8 := eachC F (numC out l.length) l
def constC (out : List UInt8) (kind n : Int) : List UInt8 := out ++ [if kind = 127 then 65 else 66] ++ putS n ++ [11]
def typeC (out : List UInt8) (t : TyV) : List UInt8 := textC (textC (out ++ [96]) t.params.data.toList) t.results.data.toList
def funcC (out : List UInt8) (f : FnV) : List UInt8 := numC out f.type
def memC (out : List UInt8) (t : MemV) : List UInt8 := if t.max < 0 then numC (out ++ [0]) t.min else numC (numC (out ++ [1]) t.min) t.max
def globC (out : List UInt8) (t : GlobV) : List UInt8 := constC (out ++ [UInt8.ofNat (t.type % 256).toNat, if t.may then 1 else 0]) t.type t.init
def expC (out : List UInt8) (t : ExpV) : List UInt8 := numC (textC out t.name.data.toList ++ one5 t.kind) t.index
def datC (out : List UInt8) (t : DatV) : List UInt8 := textC (constC (out ++ [0]) 127 t.offset) t.bytes.data.toList
def runC (out : List UInt8) (x : UInt8 × Nat) : List UInt8 := numC out x.2 ++ [x.1]
def tailC (shape : Int) (out : List UInt8) (x : InsV) : List UInt8 :=
  if shape = 1 then out ++ one5 x.a
  else if shape = 2 ∨ shape = 4 then numC out x.a
  else if shape = 3 then numC (listC numC out x.ls) x.a
  else if shape = 5 then numC (numC out x.a) x.b
  else if shape = 6 then out ++ [0]
  else if shape = 7 then out ++ putS x.a
  else out
def insC (out : List UInt8) (x : InsV) : List UInt8 := match byCode x.op with
  | none => out ++ one5 x.op
  | some r => tailC r.shape (out ++ one5 x.op) x
def bodyC (f : FnV) : List UInt8 := eachC insC (listC runC [] (grp f.locals.data.toList)) f.code
def codeC (out : List UInt8) (f : FnV) : List UInt8 := textC out (bodyC f)
def wholeC {α : Type} (F : List UInt8 → α → List UInt8) (l : List α) : List UInt8 := if l.length = 0 then [] else listC F [] l
def startC (n : Int) : List UInt8 := if n < 0 then [] else numC [] n
def sectC (out : List UInt8) (n : Int) (body : List UInt8) : List UInt8 := if body.length = 0 then out else textC (out ++ one5 n) body
def modC (m : MoV) : List UInt8 :=
  sectC (sectC (sectC (sectC (sectC (sectC (sectC (sectC [0, 97, 115, 109, 1, 0, 0, 0] 1 (wholeC typeC m.types)) 3 (wholeC funcC m.funcs)) 5 (wholeC memC m.memory)) 6 (wholeC globC m.globals)) 7 (wholeC expC m.exports)) 8 (startC m.start)) 10 (wholeC codeC m.funcs)) 11 (wholeC datC m.data)
theorem cap_each {α : Type} {F : List UInt8 → α → List UInt8} {g : α → List UInt8} : ∀ {l : List α} {b f : List UInt8}, (∀ x ∈ l, ∀ b f, Cap b f → Cap (F b x) (f ++ g x)) → Cap b f → Cap (eachC F b l) (f ++ l.flatMap g)
  | [], b, f, _, hc => by simpa [eachC] using hc
  | x :: l, b, f, h, hc => by
    rw [eachC_cons]
    by_cases hb : 1048576 < b.length
    · rw [if_pos hb]
      have := hc.long hb
      exact .inr ⟨hb, by rw [List.length_append]; omega⟩
    · rw [if_neg hb, List.flatMap_cons, ← List.append_assoc]
      exact cap_each (fun y hy => h y (by simp [hy])) (h x (by simp) b f hc)
theorem cap_text {b f s t : List UInt8} (h : Cap b f) (g : Cap s t) : Cap (textC b s) (f ++ txt5 t) := by
  unfold textC txt5
  rcases g with rfl | g
  · rw [List.append_assoc]
    refine h.app2 ((Cap.refl _).app2 ?_)
    by_cases hl : s.length ≤ 1048577
    · rw [List.take_of_length_le hl]; exact Cap.refl _
    · exact .inr ⟨by rw [List.length_take]; omega, by omega⟩
  · refine .inr ⟨?_, ?_⟩
    · simp only [List.length_append, List.length_take]; omega
    · simp only [List.length_append]; omega
theorem cap_num {b f : List UInt8} (h : Cap b f) (n : Int) : Cap (numC b n) (f ++ putU n) := h.app _
theorem cap_list {α : Type} {F : List UInt8 → α → List UInt8} {g : α → List UInt8} {l : List α} {b f : List UInt8} (h : ∀ x ∈ l, ∀ b f, Cap b f → Cap (F b x) (f ++ g x)) (hc : Cap b f) : Cap (listC F b l) (f ++ (putU l.length ++ l.flatMap g)) := by
  rw [← List.append_assoc]
  exact cap_each h (cap_num hc _)
theorem cap_type (t : TyV) {b f : List UInt8} (h : Cap b f) : Cap (typeC b t) (f ++ ty5 t) := by
  unfold typeC ty5
  rw [← List.append_assoc, ← List.append_assoc]
  exact cap_text (cap_text (h.app _) (Cap.refl _)) (Cap.refl _)
theorem cap_mem (t : MemV) (hr : rightMem t = true) {b f : List UInt8} (h : Cap b f) : Cap (memC b t) (f ++ mem5 t) := by
  unfold rightMem word4 at hr
  simp only [Bool.and_eq_true, Bool.or_eq_true, decide_eq_true_eq] at hr
  unfold memC mem5
  by_cases hm : t.max = -1
  · rw [if_pos hm, if_pos (by omega), ← List.append_assoc]
    exact cap_num (h.app _) _
  · rw [if_neg hm, if_neg (by omega), ← List.append_assoc, ← List.append_assoc]
    exact cap_num (cap_num (h.app _) _) _
theorem const_cap (kind n : Int) (hk : kind = 126 ∨ kind = 127) (b : List UInt8) : constC b kind n = b ++ const5 kind n := by
  unfold constC const5
  rcases hk with rfl | rfl <;> simp [one5]
theorem cap_glob (t : GlobV) (hr : rightGlob t = true) {b f : List UInt8} (h : Cap b f) : Cap (globC b t) (f ++ glob5 t) := by
  unfold rightGlob at hr
  simp only [Bool.and_eq_true, Bool.or_eq_true, decide_eq_true_eq] at hr
  unfold globC glob5
  rw [const_cap _ _ (by omega), ← List.append_assoc]
  refine Cap.app ?_ _
  rw [show ([UInt8.ofNat (t.type % 256).toNat, if t.may then 1 else 0] : List UInt8) = one5 t.type ++ [if t.may then 1 else 0] from rfl]
  exact h.app _
theorem cap_exp (t : ExpV) {b f : List UInt8} (h : Cap b f) : Cap (expC b t) (f ++ exp5 t) := by
  unfold expC exp5
  rw [← List.append_assoc, ← List.append_assoc]
  exact cap_num ((cap_text h (Cap.refl _)).app _) _
theorem cap_dat (t : DatV) {b f : List UInt8} (h : Cap b f) : Cap (datC b t) (f ++ dat5 t) := by
  unfold datC dat5
  rw [const_cap _ _ (by omega), ← List.append_assoc, ← List.append_assoc]
  exact cap_text ((h.app _).app _) (Cap.refl _)
theorem cap_ins (x : InsV) (hr : rightIns x = true) {b f : List UInt8} (h : Cap b f) : Cap (insC b x) (f ++ ins5 x) := by
  unfold insC ins5
  cases hby : byCode x.op with
  | none => unfold rightIns at hr; rw [hby] at hr; cases hr
  | some r =>
    simp only [hr, if_true]
    rw [← List.append_assoc]
    have h1 := h.app (one5 x.op)
    unfold tailC tail5
    split
    · exact h1.app _
    split
    · exact cap_num h1 _
    split
    · rw [← List.append_assoc]
      exact cap_num (cap_list (F := numC) (g := putU) (fun y _ _ _ hc => cap_num hc y) h1) _
    split
    · rw [← List.append_assoc]
      exact cap_num (cap_num h1 _) _
    split
    · exact h1.app _
    split
    · exact h1.app _
    · simpa using h1
theorem cap_runs (s : List UInt8) : Cap (listC runC [] (grp s)) (runs5 s) := by
  have := cap_list (F := runC) (g := fun x : UInt8 × Nat => putU x.2 ++ [x.1]) (l := grp s) (fun x _ b f hc => by
    unfold runC
    rw [← List.append_assoc]
    exact (cap_num hc _).app _) (Cap.refl [])
  simpa [runs5] using this
theorem cap_body (f : FnV) (hr : f.code.all rightIns = true) : Cap (bodyC f) (runs5 f.locals.data.toList ++ f.code.flatMap ins5) :=
  cap_each (fun x hx _ _ hc => cap_ins x (List.all_eq_true.1 hr x hx) hc) (cap_runs _)
theorem cap_code (t : FnV) (hr : rightFn t = true) {b f : List UInt8} (h : Cap b f) : Cap (codeC b t) (f ++ code5 t) := by
  unfold rightFn at hr
  simp only [Bool.and_eq_true] at hr
  exact cap_text h (cap_body t hr.1)
theorem cap_sect {α : Type} {F : List UInt8 → α → List UInt8} {g : α → List UInt8} {l : List α} (id : Int) {b f : List UInt8} (h : ∀ x ∈ l, ∀ b f, Cap b f → Cap (F b x) (f ++ g x)) (hc : Cap b f) : Cap (sectC b id (wholeC F l)) (f ++ sect5 id l.length (l.flatMap g)) := by
  unfold wholeC sect5
  by_cases hl : l.length = 0
  · rw [if_pos hl, if_pos hl]; simpa [sectC] using hc
  · rw [if_neg hl, if_neg hl]
    have h1 : Cap (listC F [] l) (putU l.length ++ l.flatMap g) := by simpa using cap_list h (Cap.refl [])
    have hn := h1.ne (by intro e; have := congrArg List.length e; have h2 := putU_ne (l.length : Int); rw [List.length_append] at this; cases hp : putU (l.length : Int) <;> simp_all)
    unfold sectC
    rw [if_neg (by intro e; exact hn (List.eq_nil_of_length_eq_zero e)), ← List.append_assoc]
    exact cap_text (hc.app _) h1
theorem cap_start (n : Int) (hr : n = -1 ∨ word4 n = true) {b f : List UInt8} (hc : Cap b f) : Cap (sectC b 8 (startC n)) (f ++ start5 n) := by
  unfold startC start5
  unfold word4 at hr
  simp only [decide_eq_true_eq] at hr
  by_cases hn : n = -1
  · rw [if_pos hn, if_pos (by omega)]; simpa [sectC] using hc
  · rw [if_neg hn, if_neg (by omega)]
    unfold sectC numC
    rw [if_neg (by have h2 := putU_ne n; cases hp : putU n <;> simp_all), ← List.append_assoc]
    exact cap_text (hc.app _) (by simpa using Cap.refl _)
theorem cap_mod (m : MoV) (hr : rightMod m = true) : Cap (modC m) (mod5 m) := by
  unfold rightMod at hr
  simp only [Bool.and_eq_true, decide_eq_true_eq] at hr
  obtain ⟨hfew, r1, r2, r3, r4, r5, r6⟩ := hr
  unfold modC mod5
  refine cap_sect 11 (fun x hx _ _ hc => cap_dat x hc) ?_
  refine cap_sect 10 (fun x hx _ _ hc => cap_code x (List.all_eq_true.1 r2 x hx) hc) ?_
  refine cap_start _ hfew.2.2.2.2.2.2 ?_
  refine cap_sect 7 (fun x hx _ _ hc => cap_exp x hc) ?_
  refine cap_sect 6 (fun x hx _ _ hc => cap_glob x (List.all_eq_true.1 r4 x hx) hc) ?_
  refine cap_sect 5 (fun x hx _ _ hc => cap_mem x (List.all_eq_true.1 r3 x hx) hc) ?_
  refine cap_sect 3 (fun x hx _ _ hc => cap_num hc _) ?_
  exact cap_sect 1 (fun x hx _ _ hc => cap_type x hc) (Cap.refl _)
def Adds {α : Type} (F : List UInt8 → α → List UInt8) (K : Nat) (x : α) : Prop := ∀ out, out.length ≤ 1048576 → (F out x).length ≤ 1048576 + K
theorem each_len {α : Type} {F : List UInt8 → α → List UInt8} {K : Nat} : ∀ {l : List α} {b : List UInt8}, (∀ x ∈ l, Adds F K x) → (eachC F b l).length ≤ max b.length (1048576 + K)
  | [], b, _ => by simp [eachC]; omega
  | x :: l, b, h => by
    rw [eachC_cons]
    by_cases hb : 1048576 < b.length
    · rw [if_pos hb]; omega
    · rw [if_neg hb]
      have h1 := h x (by simp) b (by omega)
      have h2 := each_len (l := l) (b := F b x) (fun y hy => h y (by simp [hy]))
      omega
theorem text_len {b s : List UInt8} (hs : (s.length : Int) ≤ 18446744073709551615) : (textC b s).length ≤ b.length + 1048587 := by
  unfold textC
  simp only [List.length_append, List.length_take]
  have := putU_len10 (n := (s.length : Int)) (by omega) hs
  omega
theorem num_len {b : List UInt8} {n : Int} (h0 : 0 ≤ n) (h1 : n ≤ 18446744073709551615) : (numC b n).length ≤ b.length + 10 := by
  unfold numC
  rw [List.length_append]
  have := putU_len10 h0 h1
  omega
theorem const_len {b : List UInt8} {k n : Int} (h0 : -9223372036854775808 ≤ n) (h1 : n ≤ 9223372036854775807) : (constC b k n).length ≤ b.length + 12 := by
  unfold constC
  simp only [List.length_append, List.length_cons, List.length_nil]
  have := putS_len10 h0 h1
  omega
def ans5 (m : MoV) : List UInt8 × Int := if rightMod m then (if 1048576 < (mod5 m).length then ([], 5) else (mod5 m, 0)) else ([], 1)
theorem ans_cap (m : MoV) (hr : rightMod m = true) : ans5 m = if 1048576 < (modC m).length then ([], 5) else (modC m, 0) := by
  unfold ans5
  rw [if_pos hr]
  rcases cap_mod m hr with h | h
  · rw [h]
  · rw [if_pos h.1, if_pos h.2]
end Go.Proofs.YtdinpakclmnacaaGreatDoor
namespace Go.Proofs.YtdinpakclmnacaaGreatDoor
set_option maxRecDepth 100000
set_option maxHeartbeats 16000000
open Go.RowKit
set_option linter.unusedVariables false
def bs (l : List UInt8) : ByteArray := ⟨l.toArray⟩
end Go.Proofs.YtdinpakclmnacaaGreatDoor
namespace Go.Proofs.YtdinpakclmnacaaGreatDoor
set_option maxRecDepth 100000
set_option maxHeartbeats 16000000
open Go.RowKit
end Go.Proofs.YtdinpakclmnacaaGreatDoor
namespace Go.Proofs.YtdinpakclmnacaaGreatDoor
set_option maxRecDepth 100000
set_option maxHeartbeats 16000000
inductive Out (α : Type) where
  | ok (v : α) (rest : List UInt8)
  | bad (e : Int)
abbrev Pr (α : Type) : Type := List UInt8 → Out α
def Pr.val {α : Type} (v : α) : Pr α := fun l => .ok v l
def Pr.no {α : Type} (e : Int) : Pr α := fun _ => .bad e
def Pr.and {α β : Type} (p : Pr α) (f : α → Pr β) : Pr β := fun l => match p l with
  | .ok v r => f v r
  | .bad e => .bad e
theorem and_ok {α β : Type} {p : Pr α} {f : α → Pr β} {l r : List UInt8} {v : α} (h : p l = .ok v r) : (p.and f) l = f v r := by unfold Pr.and; rw [h]
theorem and_bad {α β : Type} {p : Pr α} {f : α → Pr β} {l : List UInt8} {e : Int} (h : p l = .bad e) : (p.and f) l = .bad e := by unfold Pr.and; rw [h]
theorem and_of {α β : Type} {p : Pr α} {f : α → Pr β} {l r : List UInt8} {v : β} (h : (p.and f) l = .ok v r) : ∃ x m, p l = .ok x m ∧ f x m = .ok v r := by
  unfold Pr.and at h
  cases hp : p l with
  | ok x m => rw [hp] at h; exact ⟨x, m, rfl, h⟩
  | bad e => rw [hp] at h; cases h
def pOne : Pr Int := fun l => match l with
  | [] => .bad 2
  | b :: r => .ok (b.toNat : Int) r
def pFit (K : IntKind) (p : Int → Int) (most : Nat) : Pr Int := fun l => match fit K most (dec p l) with
  | none => .bad 2
  | some (v, n) => .ok v (l.drop n)
def pNum : Pr Int := pFit .u32 usg 5
def pS32 : Pr Int := pFit .i32 sgn 5
def pS64 : Pr Int := pFit .i64 sgn 10
def pMany : Pr Int := pNum.and fun n => if 4096 < n then .no 5 else .val n
def pRep {α : Type} (p : Pr α) : Nat → Pr (List α)
  | 0 => .val []
  | n + 1 => p.and fun x => (pRep p n).and fun l => .val (x :: l)
def pList {α : Type} (p : Pr α) : Pr (List α) := pMany.and fun n => pRep p n.toNat
def pText : Pr (List UInt8) := pNum.and fun n l => if (l.length : Int) < n then .bad 2 else .ok (l.take n.toNat) (l.drop n.toNat)
def pIn {α : Type} (p : Pr α) (t : List UInt8) : Pr α := fun l => match p t with
  | .ok v [] => .ok v l
  | .ok _ (_ :: _) => .bad 2
  | .bad e => .bad e
def pWhole {α : Type} (p : Pr α) : Pr α := pText.and (pIn p)
def pKind (b : Int) : Pr Int := if b = 127 ∨ b = 126 then .val b else if b = 125 ∨ b = 124 then .no 3 else .no 2
def pValue : Pr Int := pOne.and pKind
def pName : Pr (List UInt8) := pText.and fun t => if isName t then .val t else .no 2
def pIs (b : Int) : Pr Unit := pOne.and fun c => if c = b then .val () else .no 2
def pSigned (code : Int) : Pr Int := if code = 65 then pS32 else pS64
def pConst (kind : Int) : Pr Int := pOne.and fun b =>
  if b = 35 ∨ b = 67 ∨ b = 68 then .no 3
  else if b = 65 ∨ b = 66 then (pSigned b).and fun n => if decide (b = 65) = decide (kind = 127) then (pIs 11).and fun _ => .val n else .no 4
  else .no 2
def bareI (op a b : Int) (ls : List Int) : InsV := ⟨op, a, b, none, 0, ls⟩
def pTail (shape op : Int) : Pr InsV :=
  if shape = 1 then pOne.and fun k => if k = 64 then .val (bareI op k 0 []) else (pKind k).and fun _ => .val (bareI op k 0 [])
  else if shape = 2 ∨ shape = 4 then pNum.and fun a => .val (bareI op a 0 [])
  else if shape = 3 then (pList pNum).and fun ls => pNum.and fun a => .val (bareI op a 0 ls)
  else if shape = 5 then pNum.and fun a => pNum.and fun b => .val (bareI op a b [])
  else if shape = 6 then (pIs 0).and fun _ => .val (bareI op 0 0 [])
  else if shape = 7 then (pSigned op).and fun a => .val (bareI op a 0 [])
  else .val (bareI op 0 0 [])
def pIns : Pr InsV := pOne.and fun b =>
  if isFloat b = true ∨ b = 17 then .no 3
  else match byCode b with
    | none => .no 2
    | some r => pTail r.shape b
def u8 (n : Int) : UInt8 := UInt8.ofNat n.toNat
def pLocals : Nat → Int → Pr (List UInt8)
  | 0, _ => .val []
  | n + 1, left => pNum.and fun k => pValue.and fun t => if left < k then .no 5 else (pLocals n (left - k)).and fun l => .val (List.replicate k.toNat (u8 t) ++ l)
def nest (o : List Int) (op : Int) : Option (List Int) :=
  if op = 2 ∨ op = 3 ∨ op = 4 then some (op :: o)
  else if op = 5 then match o with
    | c :: o' => if c = 4 then some (5 :: o') else none
    | [] => none
  else some o
def pBody : Nat → List Int → Pr (List InsV)
  | 0, _ => .no 2
  | f + 1, o => pIns.and fun x =>
    if x.op = 11 then match o with
      | [] => .val [x]
      | _ :: o' => (pBody f o').and fun l => .val (x :: l)
    else match nest o x.op with
      | none => .no 2
      | some o' => (pBody f o').and fun l => .val (x :: l)
def pCodeIn : Pr (List UInt8 × List InsV) := pMany.and fun n => (pLocals n.toNat 4096).and fun ls l => ((pBody l.length []).and fun c => .val (ls, c)) l
def fnOf (x : List UInt8 × List InsV) : FnV := ⟨0, bs x.1, none, 0, x.2⟩
def pCode : Pr FnV := (pWhole pCodeIn).and fun x => .val (fnOf x)
def pKinds : Pr ByteArray := (pList pValue).and fun l => .val (bs (l.map u8))
def pTy : Pr TyV := (pIs 96).and fun _ => pKinds.and fun p => pKinds.and fun q => if 1 < q.size then .no 3 else .val ⟨p, q⟩
def pFn : Pr FnV := pNum.and fun n => .val ⟨n, bs [], none, 0, []⟩
def pMem : Pr MemV := pOne.and fun k => if k = 0 then pNum.and fun a => .val ⟨a, -1⟩ else if k = 1 then pNum.and fun a => pNum.and fun b => .val ⟨a, b⟩ else .no 2
def pGlob : Pr GlobV := pValue.and fun t => pOne.and fun k => if k = 0 ∨ k = 1 then (pConst t).and fun n => .val ⟨t, decide (k = 1), n⟩ else .no 2
def pExp : Pr ExpV := pName.and fun s => pOne.and fun k => if k = 0 ∨ k = 2 ∨ k = 3 then pNum.and fun n => .val ⟨bs s, k, n⟩ else if k = 1 then .no 3 else .no 2
def pDat : Pr DatV := pNum.and fun n => if n = 0 then (pConst 127).and fun o => pText.and fun s => .val ⟨o, bs s⟩ else .no 3
structure Pts where
  types : List TyV
  funcs : List FnV
  memory : List MemV
  globals : List GlobV
  exports : List ExpV
  start : Int
  data : List DatV
  last : Int
  codes : List FnV
def pPart (id : Int) (p : Pts) : Pr Pts :=
  if id = 0 then pName.and fun _ _ => .ok p []
  else if id = 1 then (pList pTy).and fun l => .val { p with types := l }
  else if id = 3 then (pList pFn).and fun l => .val { p with funcs := l }
  else if id = 5 then (pList pMem).and fun l => .val { p with memory := l }
  else if id = 6 then (pList pGlob).and fun l => .val { p with globals := l }
  else if id = 7 then (pList pExp).and fun l => .val { p with exports := l }
  else if id = 8 then pNum.and fun n => .val { p with start := n }
  else if id = 10 then (pList pCode).and fun l => .val { p with codes := l }
  else (pList pDat).and fun l => .val { p with data := l }
def pSect (p : Pts) : Pr Pts := pOne.and fun id =>
  if id = 2 ∨ id = 4 ∨ id = 9 then .no 3
  else if 11 < id ∨ (id ≠ 0 ∧ id ≤ p.last) then .no 2
  else pWhole (pPart id { p with last := max p.last id })
def pSects : Nat → Pts → Pr Pts
  | 0, p => .val p
  | f + 1, p => fun l => match l with
    | [] => .ok p []
    | b :: r => ((pSect p).and (pSects f)) (b :: r)
def pts0 : Pts := ⟨[], [], [], [], [], -1, [], 0, []⟩
def joinFn (f c : FnV) : FnV := ⟨f.type, c.locals, none, 0, c.code⟩
def modOf (p : Pts) : MoV := ⟨none, 0, p.types, none, 0, List.zipWith joinFn p.funcs p.codes, none, 0, p.memory, none, 0, p.globals, none, 0, p.exports, p.start, none, 0, p.data⟩
def head6 : List UInt8 := [0, 97, 115, 109, 1, 0, 0, 0]
def mod6 (s : List UInt8) : Out MoV :=
  if 1048576 < s.length then .bad 5
  else if s.take 8 ≠ head6 then .bad 2
  else match pSects s.length pts0 (s.drop 8) with
    | .bad e => .bad e
    | .ok p r => if p.codes.length = p.funcs.length then .ok (modOf p) r else .bad 2
theorem vtypes_len6 {l : List UInt8} {k : Int} (h : vtypes l k = true) : (l.length : Int) ≤ k := by
  unfold vtypes at h
  simp only [Bool.and_eq_true, decide_eq_true_eq] at h
  omega
theorem pNum_put {n : Int} (h0 : 0 ≤ n) (h1 : n < 4294967296) (t : List UInt8) : pNum (putU n ++ t) = .ok n t := by
  unfold pNum pFit
  rw [dec_putU t n h0]
  simp only [fit]
  rw [if_pos ⟨putU_small h0 h1, by simp [IntKind.min, IntKind.signed]; omega, by simp [IntKind.max, IntKind.signed, IntKind.bits]; omega⟩]
  simp
theorem pS32_put {n : Int} (h0 : -2147483648 ≤ n) (h1 : n < 2147483648) (t : List UInt8) : pS32 (putS n ++ t) = .ok n t := by
  unfold pS32 pFit
  rw [dec_putS t n]
  simp only [fit]
  rw [if_pos ⟨(putS_len n 4).2 (by omega), by simp [IntKind.min, IntKind.signed, IntKind.bits]; omega, by simp [IntKind.max, IntKind.signed, IntKind.bits]; omega⟩]
  simp
theorem pS64_put {n : Int} (h : inI64 n) (t : List UInt8) : pS64 (putS n ++ t) = .ok n t := by
  unfold inI64 at h
  unfold pS64 pFit
  rw [dec_putS t n]
  simp only [fit]
  rw [if_pos ⟨(putS_len n 9).2 (by omega), by simp [IntKind.min, IntKind.signed, IntKind.bits]; omega, by simp [IntKind.max, IntKind.signed, IntKind.bits]; omega⟩]
  simp
theorem pOne_one {n : Int} (h0 : 0 ≤ n) (h1 : n < 256) (t : List UInt8) : pOne (one5 n ++ t) = .ok n t := by
  have e : ((UInt8.ofNat (n % 256).toNat).toNat : Int) = n := by rw [show n % 256 = n by omega]; exact byte_of h0 h1
  show Out.ok ((UInt8.ofNat (n % 256).toNat).toNat : Int) t = _
  rw [e]
theorem pOne_cons (b : UInt8) (t : List UInt8) : pOne (b :: t) = .ok (b.toNat : Int) t := rfl
theorem pIs_cons {n : Int} (b : UInt8) (t : List UInt8) (h : (b.toNat : Int) = n) : pIs n (b :: t) = .ok () t := by unfold pIs; rw [and_ok (pOne_cons b t), if_pos h]; rfl
theorem pMany_put {n : Nat} (h : n ≤ 4096) (t : List UInt8) : pMany (putU n ++ t) = .ok (n : Int) t := by
  unfold pMany
  rw [and_ok (pNum_put (by omega) (by omega) t), if_neg (by omega)]
  rfl
theorem pText_put {s : List UInt8} (h : s.length < 4294967296) (t : List UInt8) : pText (txt5 s ++ t) = .ok s t := by
  unfold pText txt5
  rw [List.append_assoc, and_ok (pNum_put (by omega) (by omega) _), if_neg (by simp; omega)]
  simp
theorem pWhole_put {α : Type} {p : Pr α} {s : List UInt8} {v : α} (h : p s = .ok v []) (hs : s.length < 4294967296) (t : List UInt8) : pWhole p (txt5 s ++ t) = .ok v t := by
  unfold pWhole
  rw [and_ok (pText_put hs t)]
  unfold pIn
  rw [h]
theorem pRep_put {α β : Type} {p : Pr β} {F : α → List UInt8} {g : α → β} : ∀ {l : List α} (_ : ∀ x ∈ l, ∀ t, p (F x ++ t) = .ok (g x) t) (t : List UInt8), pRep p l.length (l.flatMap F ++ t) = .ok (l.map g) t
  | [], _, t => rfl
  | x :: l, h, t => by
    rw [List.flatMap_cons, List.append_assoc, List.length_cons]
    unfold pRep
    rw [and_ok (h x (by simp) _), and_ok (pRep_put (fun y hy => h y (by simp [hy])) t)]
    rfl
theorem pList_put {α β : Type} {p : Pr β} {F : α → List UInt8} {g : α → β} {l : List α} (h : ∀ x ∈ l, ∀ t, p (F x ++ t) = .ok (g x) t) (hl : l.length ≤ 4096) (t : List UInt8) : pList p (putU l.length ++ (l.flatMap F ++ t)) = .ok (l.map g) t := by
  unfold pList
  rw [and_ok (pMany_put hl _), Int.toNat_natCast]
  exact pRep_put h t
theorem pKind_ok {b : Int} (h : b = 127 ∨ b = 126) (t : List UInt8) : pKind b t = .ok b t := by unfold pKind; rw [if_pos h]; rfl
theorem vtype_is {b : UInt8} (h : vtype b = true) : (b.toNat : Int) = 127 ∨ (b.toNat : Int) = 126 := by unfold vtype at h; rw [decide_eq_true_eq] at h; omega
theorem pValue_cons {b : UInt8} (h : vtype b = true) (t : List UInt8) : pValue (b :: t) = .ok (b.toNat : Int) t := by
  unfold pValue
  rw [and_ok (pOne_cons b t), pKind_ok (vtype_is h)]
theorem u8_nat (b : UInt8) : u8 (b.toNat : Int) = b := by unfold u8; simp
theorem pKinds_put {s : List UInt8} {m : Int} (h : vtypes s m = true) (hm : m ≤ 4096) (t : List UInt8) : pKinds (txt5 s ++ t) = .ok (bs s) t := by
  unfold vtypes at h
  rw [Bool.and_eq_true, decide_eq_true_eq, List.all_eq_true] at h
  have e := pList_put (p := pValue) (F := fun b => [b]) (g := fun b : UInt8 => (b.toNat : Int)) (l := s) (fun b hb t => pValue_cons (h.1 b hb) t) (by omega) t
  unfold pKinds txt5
  rw [List.append_assoc]
  rw [show s.flatMap (fun b => [b]) = s by induction s with | nil => rfl | cons a l ih => simp] at e
  rw [and_ok e]
  show Out.ok _ t = _
  rw [List.map_map, show (u8 ∘ fun b : UInt8 => (b.toNat : Int)) = id from funext u8_nat, List.map_id]
theorem bs_bytes (s : ByteArray) : bs s.data.toList = s := by unfold bs; simp
theorem pTy_put {t : TyV} (h : rightTy t = true) (r : List UInt8) : pTy (ty5 t ++ r) = .ok t r := by
  unfold rightTy at h
  rw [Bool.and_eq_true] at h
  unfold pTy ty5
  rw [List.append_assoc, List.append_assoc, List.singleton_append, and_ok (pIs_cons 96 _ (by decide)), and_ok (pKinds_put h.1 (by omega) _), and_ok (pKinds_put h.2 (by omega) _), bs_bytes, bs_bytes]
  have := vtypes_len6 h.2
  rw [if_neg (by simp at this; have e : t.results.size = t.results.data.size := rfl; omega)]
  rfl
theorem word4_is {n : Int} (h : word4 n = true) : 0 ≤ n ∧ n < 4294967296 := by simpa [word4] using h
theorem pMem_put {t : MemV} (h : rightMem t = true) (r : List UInt8) : pMem (mem5 t ++ r) = .ok t r := by
  unfold rightMem at h
  rw [Bool.and_eq_true, Bool.or_eq_true, decide_eq_true_eq] at h
  have h1 := word4_is h.1
  unfold pMem mem5
  obtain ⟨a, b⟩ := t
  by_cases hb : b = -1
  · subst hb
    rw [if_pos rfl, List.append_assoc, List.singleton_append, and_ok (pOne_cons 0 _), if_pos (by rfl), and_ok (pNum_put h1.1 h1.2 _)]
    rfl
  · have h2 := word4_is (h.2.resolve_left hb)
    simp only at *
    rw [if_neg hb, List.append_assoc, List.append_assoc, List.singleton_append, and_ok (pOne_cons 1 _), if_neg (by decide), if_pos (by rfl), and_ok (pNum_put h1.1 h1.2 _), and_ok (pNum_put h2.1 h2.2 _)]
    rfl
theorem pConst_put {k n : Int} (hk : (k = 126 ∧ inI64 n) ∨ (k = 127 ∧ -2147483648 ≤ n ∧ n < 2147483648)) (r : List UInt8) : pConst k (const5 k n ++ r) = .ok n r := by
  unfold pConst const5
  rw [List.append_assoc, List.append_assoc]
  rcases hk with ⟨rfl, h⟩ | ⟨rfl, h⟩
  · rw [and_ok (pOne_one (n := 192 - 126) (by decide) (by decide) _), if_neg (by decide), if_pos (by decide)]
    rw [and_ok (show pSigned (192 - 126) _ = _ by unfold pSigned; rw [if_neg (by decide)]; exact pS64_put h _), if_pos (by decide), List.singleton_append, and_ok (pIs_cons 11 _ (by decide))]
    rfl
  · rw [and_ok (pOne_one (n := 192 - 127) (by decide) (by decide) _), if_neg (by decide), if_pos (by decide)]
    rw [and_ok (show pSigned (192 - 127) _ = _ by unfold pSigned; rw [if_pos (by decide)]; exact pS32_put h.1 h.2 _), if_pos (by decide), List.singleton_append, and_ok (pIs_cons 11 _ (by decide))]
    rfl
theorem pGlob_put {t : GlobV} (h : rightGlob t = true) (hi : inI64 t.init) (r : List UInt8) : pGlob (glob5 t ++ r) = .ok t r := by
  obtain ⟨k, m, n⟩ := t
  unfold rightGlob at h
  simp only [Bool.or_eq_true, Bool.and_eq_true, decide_eq_true_eq, small4] at h hi
  have hk : (k = 126 ∧ inI64 n) ∨ (k = 127 ∧ -2147483648 ≤ n ∧ n < 2147483648) := h.imp (fun e => ⟨e, hi⟩) id
  have hk2 : k = 127 ∨ k = 126 := by omega
  unfold pGlob glob5
  simp only
  rw [List.append_assoc, List.append_assoc, and_ok (show pValue _ = .ok k _ by unfold pValue; rw [and_ok (pOne_one (by omega) (by omega) _), pKind_ok hk2])]
  rw [List.singleton_append, and_ok (pOne_cons _ _)]
  cases m
  · rw [if_pos (.inl rfl), and_ok (pConst_put hk r)]; rfl
  · rw [if_pos (.inr rfl), and_ok (pConst_put hk r)]; rfl
theorem pExp_put {t : ExpV} (h : rightExp t = true) (hn : t.name.size < 4294967296) (r : List UInt8) : pExp (exp5 t ++ r) = .ok t r := by
  obtain ⟨s, k, n⟩ := t
  unfold rightExp at h
  simp only [Bool.and_eq_true, decide_eq_true_eq] at h hn
  obtain ⟨h1, h2, h3⟩ := h
  have h3 := word4_is h3
  unfold pExp exp5
  simp only
  rw [List.append_assoc, List.append_assoc, and_ok (show pName _ = .ok s.data.toList _ by
    unfold pName
    rw [and_ok (pText_put (by rw [Array.length_toList]; exact hn) _), if_pos h1]; rfl)]
  rw [and_ok (pOne_one (by omega) (by omega) _), if_pos h2, and_ok (pNum_put h3.1 h3.2 _), bs_bytes]
  rfl
theorem pDat_put {t : DatV} (h : rightDat t = true) (hn : t.bytes.size < 4294967296) (r : List UInt8) : pDat (dat5 t ++ r) = .ok t r := by
  obtain ⟨o, s⟩ := t
  unfold rightDat small4 at h
  simp only [decide_eq_true_eq] at h hn
  unfold pDat dat5
  simp only
  rw [List.append_assoc, List.append_assoc, and_ok (show pNum ([0] ++ _) = .ok 0 _ from by have := pNum_put (n := 0) (by decide) (by decide) (const5 127 o ++ (txt5 s.data.toList ++ r)); rw [putU_last (by decide)] at this; exact this), if_pos rfl]
  rw [and_ok (pConst_put (.inr ⟨rfl, h.1, h.2⟩) _), and_ok (pText_put (by rw [Array.length_toList]; exact hn) _), bs_bytes]
  rfl
theorem pFn_put {n : Int} (h : word4 n = true) (r : List UInt8) : pFn (putU n ++ r) = .ok ⟨n, bs [], none, 0, []⟩ r := by
  have h := word4_is h
  unfold pFn
  rw [and_ok (pNum_put h.1 h.2 r)]
  rfl
theorem table6 : ∀ r ∈ allRows, isFloat r.code = false ∧ r.code ≠ 17 ∧ (r.shape = 7 → r.code = 65 ∨ r.code = 66) ∧ 0 ≤ r.code ∧ r.code ≤ 255 ∧ 0 ≤ r.shape ∧ r.shape ≤ 7 := by decide +kernel
theorem byCode_6 {c : Int} {r : Rw} (h : byCode c = some r) : isFloat c = false ∧ c ≠ 17 ∧ (r.shape = 7 → c = 65 ∨ c = 66) ∧ 0 ≤ c ∧ c ≤ 255 ∧ 0 ≤ r.shape ∧ r.shape ≤ 7 := by
  have h1 := table6 r (List.mem_of_find?_eq_some h)
  have h2 : r.code = c := by have := List.find?_some h; simpa using this
  rwa [h2] at h1
theorem word_is {n : Int} (h : word n = true) : 0 ≤ n ∧ n < 4294967296 := by simpa [word] using h
def InsV.bare (x : InsV) : InsV := ⟨x.op, x.a, x.b, none, 0, x.ls⟩
theorem pNums_put {ls : List Int} (h : ls.all word = true) (hl : ls.length ≤ 4096) (t : List UInt8) : pList pNum (putU ls.length ++ ls.flatMap putU ++ t) = .ok ls t := by
  rw [List.all_eq_true] at h
  have := pList_put (p := pNum) (F := putU) (g := id) (l := ls) (fun n hn t => pNum_put (word_is (h n hn)).1 (word_is (h n hn)).2 t) hl t
  rw [List.append_assoc]
  simpa using this
theorem pTail_put {x : InsV} {r : Rw} (hb : byCode x.op = some r) (h : rightIns x = true) (ha : inI64 x.a) (t : List UInt8) : pTail r.shape x.op (tail5 r.shape x ++ t) = .ok x.bare t := by
  obtain ⟨op, a, b, lp, lc, ls⟩ := x
  have h6 := byCode_6 hb
  unfold rightIns at h
  rw [hb] at h
  unfold rightOf at h
  simp only at h hb h6 ha ⊢
  unfold InsV.bare
  simp only
  by_cases h1 : b ≠ 0 ∧ r.shape ≠ 5
  · rw [if_pos h1] at h; cases h
  rw [if_neg h1] at h
  by_cases h2 : ls ≠ [] ∧ r.shape ≠ 3
  · rw [if_pos h2] at h; cases h
  rw [if_neg h2] at h
  have hb5 : r.shape ≠ 5 → b = 0 := fun e => Classical.byContradiction fun f => h1 ⟨f, e⟩
  have hl3 : r.shape ≠ 3 → ls = [] := fun e => Classical.byContradiction fun f => h2 ⟨f, e⟩
  generalize r.shape = s at *
  unfold pTail tail5
  dsimp only
  rcases (show s = 0 ∨ s = 1 ∨ s = 2 ∨ s = 3 ∨ s = 4 ∨ s = 5 ∨ s = 6 ∨ s = 7 by omega) with rfl | rfl | rfl | rfl | rfl | rfl | rfl | rfl
  · simp at h; rw [hb5 (by decide), hl3 (by decide), h]; rfl
  · simp at h
    rw [hb5 (by decide), hl3 (by decide), if_pos rfl, if_pos rfl, and_ok (pOne_one (by omega) (by omega) t)]
    by_cases h64 : a = 64
    · rw [if_pos h64]; rfl
    · rw [if_neg h64, and_ok (pKind_ok (by omega) t)]; rfl
  · simp at h
    have := word_is h
    rw [hb5 (by decide), hl3 (by decide), if_neg (by decide), if_pos (by decide), if_neg (by decide), if_pos (by decide), and_ok (pNum_put this.1 this.2 t)]; rfl
  · simp at h
    have hw := word_is h.2
    rw [hb5 (by decide), if_neg (by decide), if_neg (by decide), if_pos (by decide), if_neg (by decide), if_neg (by decide), if_pos (by decide)]
    rw [List.append_assoc, and_ok (pNums_put (by rw [List.all_eq_true]; exact h.1.1) h.1.2 _), and_ok (pNum_put hw.1 hw.2 t)]; rfl
  · simp at h
    have := word_is h
    rw [hb5 (by decide), hl3 (by decide), if_neg (by decide), if_pos (by decide), if_neg (by decide), if_pos (by decide), and_ok (pNum_put this.1 this.2 t)]; rfl
  · simp at h
    have hw := word_is h.1
    have hw2 := word_is h.2
    rw [hl3 (by decide), if_neg (by decide), if_neg (by decide), if_neg (by decide), if_pos (by decide), if_neg (by decide), if_neg (by decide), if_neg (by decide), if_pos (by decide)]
    rw [List.append_assoc, and_ok (pNum_put hw.1 hw.2 _), and_ok (pNum_put hw2.1 hw2.2 t)]; rfl
  · simp at h; rw [hb5 (by decide), hl3 (by decide), h]; rfl
  · simp at h
    rw [hb5 (by decide), hl3 (by decide)]
    show (pSigned op).and _ (putS a ++ t) = _
    rw [and_ok (show pSigned op _ = .ok a t by
      unfold pSigned
      rcases h6.2.2.1 rfl with h7 | h7
      · rw [if_pos h7]; exact pS32_put (by omega) (by omega) t
      · rw [if_neg (by omega)]; exact pS64_put ha t)]
    rfl
theorem ins5_is {x : InsV} {r : Rw} (hb : byCode x.op = some r) (h : rightIns x = true) : ins5 x = one5 x.op ++ tail5 r.shape x := by unfold ins5; rw [hb]; simp only; rw [if_pos h]
theorem right_code {x : InsV} (h : rightIns x = true) : ∃ r, byCode x.op = some r := by
  unfold rightIns at h
  cases hb : byCode x.op with
  | none => rw [hb] at h; cases h
  | some r => exact ⟨r, rfl⟩
theorem pIns_put {x : InsV} (h : rightIns x = true) (ha : inI64 x.a) (t : List UInt8) : pIns (ins5 x ++ t) = .ok x.bare t := by
  obtain ⟨r, hb⟩ := right_code h
  have h6 := byCode_6 hb
  rw [ins5_is hb h, List.append_assoc]
  unfold pIns
  rw [and_ok (pOne_one h6.2.2.2.1 (by omega) _), if_neg (by rw [h6.1]; simp; exact h6.2.1), hb]
  exact pTail_put hb h ha t
theorem ins5_ne {x : InsV} (h : rightIns x = true) : 1 ≤ (ins5 x).length := by
  obtain ⟨r, hb⟩ := right_code h
  rw [ins5_is hb h, List.length_append, one5_len]; omega
theorem pBody_put : ∀ (c : List InsV) (f : Nat) (o : List Int) (t : List UInt8), (∀ x ∈ c, rightIns x = true ∧ inI64 x.a) → runs (opsOf c) o = true → c.length ≤ f → pBody f o (c.flatMap ins5 ++ t) = .ok (c.map InsV.bare) t
  | [], f, o, t, _, hr, _ => by cases hr
  | x :: c, 0, o, t, _, _, hf => by simp at hf
  | x :: c, f + 1, o, t, h, hr, hf => by
    have ih := fun o' hr' => pBody_put c f o' t (fun y hy => h y (by simp [hy])) hr' (by simpa using hf)
    rw [List.flatMap_cons, List.append_assoc]
    unfold pBody
    rw [and_ok (pIns_put (h x (by simp)).1 (h x (by simp)).2 _)]
    have hop : x.bare.op = x.op := rfl
    rw [hop]
    have hr : runs (x.op :: opsOf c) o = true := hr
    by_cases h11 : x.op = 11
    · rw [if_pos h11]
      rw [h11] at hr
      cases o with
      | nil =>
        rw [runs_end_none] at hr
        have hc : c = [] := by cases c with
          | nil => rfl
          | cons y c => simp [opsOf] at hr
        subst hc
        rfl
      | cons u o =>
        rw [runs_end] at hr
        simp only
        rw [and_ok (ih o hr)]
        rfl
    · rw [if_neg h11]
      unfold nest
      by_cases h2 : x.op = 2 ∨ x.op = 3 ∨ x.op = 4
      · rw [if_pos h2]
        rw [runs_open h2] at hr
        simp only
        rw [and_ok (ih _ hr)]
        rfl
      · rw [if_neg h2]
        by_cases h5 : x.op = 5
        · rw [if_pos h5]
          rw [h5] at hr
          cases o with
          | nil => rw [runs_else_none] at hr; cases hr
          | cons u o =>
            rw [runs_else] at hr
            by_cases hu : u = 4
            · rw [if_pos hu] at hr
              simp only
              rw [if_pos hu]
              simp only
              rw [and_ok (ih _ hr)]
              rfl
            · rw [if_neg hu] at hr; cases hr
        · rw [if_neg h5]
          rw [runs_other (by omega)] at hr
          simp only
          rw [and_ok (ih _ hr)]
          rfl
theorem grp_join : ∀ s : List UInt8, ((grp s).flatMap fun x => List.replicate x.2 x.1) = s
  | [] => rfl
  | b :: l => by
    have ih := grp_join l
    rw [grp_cons]
    cases hg : grp l with
    | nil => rw [hg] at ih; simp at ih; simp [← ih]
    | cons x r =>
      obtain ⟨c, k⟩ := x
      rw [hg] at ih
      simp only
      split
      · rename_i he; subst he; simp only [List.flatMap_cons] at ih ⊢; rw [List.replicate_succ, List.cons_append, ih]
      · rw [List.flatMap_cons, ih]; rfl
theorem grp_mem : ∀ s : List UInt8, ∀ x ∈ grp s, x.1 ∈ s
  | [], x, h => by simp [grp] at h
  | b :: l, x, h => by
    have ih := grp_mem l
    rw [grp_cons] at h
    cases hg : grp l with
    | nil => rw [hg] at h; simp at h; simp [h]
    | cons y r =>
      obtain ⟨c, k⟩ := y
      rw [hg] at h ih
      simp only at h
      split at h
      · rename_i he
        rcases List.mem_cons.1 h with rfl | h
        · simp [he]
        · exact List.mem_cons_of_mem _ (ih x (List.mem_cons_of_mem _ h))
      · rcases List.mem_cons.1 h with rfl | h
        · simp
        · exact List.mem_cons_of_mem _ (ih x h)
def sumOf (l : List (UInt8 × Nat)) : Nat := (l.map (·.2)).sum
theorem flat_sum (l : List (UInt8 × Nat)) : (l.flatMap fun x => List.replicate x.2 x.1).length = sumOf l := by
  induction l with
  | nil => rfl
  | cons x l ih => rw [List.flatMap_cons, List.length_append, ih, List.length_replicate]; simp [sumOf]
theorem pLocals_put : ∀ (l : List (UInt8 × Nat)) (left : Int) (t : List UInt8), (∀ x ∈ l, vtype x.1 = true) → (sumOf l : Int) ≤ left → left ≤ 4096 → pLocals l.length left ((l.flatMap fun x => putU x.2 ++ [x.1]) ++ t) = .ok (l.flatMap fun x => List.replicate x.2 x.1) t
  | [], _, t, _, _, _ => rfl
  | x :: l, left, t, h, hs, h4 => by
    have e : sumOf (x :: l) = x.2 + sumOf l := by simp [sumOf]
    rw [e] at hs
    rw [List.flatMap_cons, List.append_assoc, List.append_assoc, List.length_cons]
    unfold pLocals
    rw [and_ok (pNum_put (by omega) (by omega) _), List.singleton_append, and_ok (pValue_cons (h x (by simp)) _), if_neg (by omega), and_ok (pLocals_put l _ t (fun y hy => h y (by simp [hy])) (by omega) (by omega)), Int.toNat_natCast, u8_nat]
    rfl
theorem sum_grp (s : List UInt8) : sumOf (grp s) = s.length := by rw [← flat_sum, grp_join]
def FnV.bare (f : FnV) : FnV := ⟨f.type, f.locals, none, 0, f.code.map InsV.bare⟩
theorem code_len_le {c : List InsV} (h : ∀ x ∈ c, rightIns x = true) : c.length ≤ (c.flatMap ins5).length := by
  induction c with
  | nil => simp
  | cons x c ih =>
    rw [List.flatMap_cons, List.length_append, List.length_cons]
    have := ins5_ne (h x (by simp))
    have := ih fun y hy => h y (by simp [hy])
    omega
theorem pCode_put {f : FnV} (h : rightFn f = true) (ha : ∀ x ∈ f.code, inI64 x.a) (hl : (runs5 f.locals.data.toList ++ f.code.flatMap ins5).length < 4294967296) (t : List UInt8) : pCode (code5 f ++ t) = .ok ⟨0, f.locals, none, 0, f.code.map InsV.bare⟩ t := by
  unfold rightFn at h
  simp only [Bool.and_eq_true] at h
  obtain ⟨h1, ⟨_, h3⟩, h4⟩ := h
  rw [List.all_eq_true] at h1
  unfold vtypes at h3
  rw [Bool.and_eq_true, decide_eq_true_eq, List.all_eq_true] at h3
  have hg := grp_len f.locals.data.toList
  have hs := sum_grp f.locals.data.toList
  unfold pCode code5
  rw [and_ok (pWhole_put (v := (f.locals.data.toList, f.code.map InsV.bare)) (by
    unfold pCodeIn runs5
    rw [List.append_assoc, and_ok (pMany_put (by omega) _), Int.toNat_natCast, and_ok (pLocals_put _ _ _ (fun x hx => h3.1 _ (grp_mem _ x hx)) (by omega) (by omega)), grp_join]
    have := pBody_put f.code (f.code.flatMap ins5).length [] [] (fun x hx => ⟨h1 x hx, ha x hx⟩) h4 (code_len_le h1)
    rw [List.append_nil] at this
    rw [and_ok this]
    rfl) hl _)]
  show Out.ok _ t = _
  unfold fnOf
  rw [bs_bytes]
def MoV.bare (m : MoV) : MoV := ⟨none, 0, m.types, none, 0, m.funcs.map FnV.bare, none, 0, m.memory, none, 0, m.globals, none, 0, m.exports, m.start, none, 0, m.data⟩
structure Fits6 (m : MoV) : Prop where
  ins : ∀ f ∈ m.funcs, ∀ x ∈ f.code, inI64 x.a
  init : ∀ t ∈ m.globals, inI64 t.init
theorem ModAt.fits {w : World} {m : MoV} (h : ModAt w m) : Fits6 m := ⟨fun f hf x hx => ((h.funcsIn f hf).1.2.1 x hx).2.2.2.1, fun t ht => (h.globalsIn t ht).2⟩
def known6 (id : Int) : Prop := id = 1 ∨ id = 3 ∨ id = 5 ∨ id = 6 ∨ id = 7 ∨ id = 8 ∨ id = 10 ∨ id = 11
theorem pSect_put {id : Int} {p q : Pts} {body : List UInt8} (hid : known6 id) (hl : p.last < id) (hb : pPart id { p with last := id } body = .ok q []) (hs : body.length < 4294967296) (t : List UInt8) : pSect p (one5 id ++ (txt5 body ++ t)) = .ok q t := by
  unfold known6 at hid
  unfold pSect
  rw [and_ok (pOne_one (by omega) (by omega) _), if_neg (by omega), if_neg (by omega), show max p.last id = id by omega]
  exact pWhole_put hb hs t
theorem pSects_step {p q : Pts} {l t : List UInt8} (h : pSect p l = .ok q t) (hl : l ≠ []) (f : Nat) : pSects (f + 1) p l = pSects f q t := by
  cases l with
  | nil => exact absurd rfl hl
  | cons b r => show ((pSect p).and (pSects f)) (b :: r) = _; rw [and_ok h]
theorem one5_cons (id : Int) (l : List UInt8) : one5 id ++ l ≠ [] := by simp [one5]
theorem sect_opt {id : Int} {n : Nat} {s : List UInt8} {p q : Pts} (hid : known6 id) (hl : p.last < id) (h0 : n = 0 → q = p) (h1 : n ≠ 0 → pPart id { p with last := id } (putU n ++ s) = .ok { q with last := id } []) (hs : (sect5 id n s).length ≤ 1048576) (f : Nat) (t : List UInt8) (hf : (sect5 id n s ++ t).length ≤ f) :
    ∃ f' la, t.length ≤ f' ∧ la ≤ id ∧ pSects f p (sect5 id n s ++ t) = pSects f' { q with last := la } t := by
  by_cases hn : n = 0
  · subst hn
    refine ⟨f, p.last, by simpa [sect5] using hf, by omega, ?_⟩
    rw [h0 rfl]
    simp [sect5]
  · unfold sect5 at hs hf ⊢
    rw [if_neg hn] at hs hf ⊢
    rw [List.length_append, one5_len] at hs
    have hb : (putU n ++ s).length ≤ 1048576 := by unfold txt5 at hs; rw [List.length_append] at hs; omega
    rw [List.append_assoc, List.length_append, one5_len, List.length_append] at hf
    obtain ⟨f', rfl⟩ : ∃ f', f = f' + 1 := ⟨f - 1, by omega⟩
    refine ⟨f', id, by omega, Int.le_refl _, ?_⟩
    rw [List.append_assoc]
    exact pSects_step (pSect_put hid hl (h1 hn) (by omega) t) (one5_cons _ _) f'
theorem start_opt {n : Int} {p : Pts} (hn : n = -1 ∨ word4 n = true) (hl : p.last < 8) (hp : p.start = -1) (f : Nat) (t : List UInt8) (hf : (start5 n ++ t).length ≤ f) :
    ∃ f' la, t.length ≤ f' ∧ la ≤ 8 ∧ pSects f p (start5 n ++ t) = pSects f' { p with start := n, last := la } t := by
  by_cases h : n = -1
  · subst h
    refine ⟨f, p.last, by simpa [start5] using hf, by omega, ?_⟩
    obtain ⟨_, _, _, _, _, s, _, _, _⟩ := p
    simp only at hp
    subst hp
    simp [start5]
  · have hw := word4_is (hn.resolve_left h)
    unfold start5 at hf ⊢
    rw [if_neg h] at hf ⊢
    rw [List.append_assoc, List.length_append, one5_len, List.length_append] at hf
    obtain ⟨f', rfl⟩ : ∃ f', f = f' + 1 := ⟨f - 1, by omega⟩
    have h5 := putU_small hw.1 hw.2
    refine ⟨f', 8, by omega, by omega, ?_⟩
    rw [List.append_assoc]
    refine pSects_step (pSect_put (by unfold known6; omega) hl ?_ (by omega) t) (one5_cons _ _) f'
    have e := pNum_put hw.1 hw.2 []
    rw [List.append_nil] at e
    unfold pPart
    rw [if_neg (by decide), if_neg (by decide), if_neg (by decide), if_neg (by decide), if_neg (by decide), if_neg (by decide), if_pos rfl, and_ok e]
    rfl
theorem pList_put' {α β : Type} {p : Pr β} {F : α → List UInt8} {g : α → β} {l : List α} (h : ∀ x ∈ l, ∀ t, p (F x ++ t) = .ok (g x) t) (hl : l.length ≤ 4096) : pList p (putU l.length ++ l.flatMap F) = .ok (l.map g) [] := by
  have := pList_put h hl []
  rwa [List.append_nil] at this
theorem flat_in {α : Type} {F : α → List UInt8} {l : List α} {x : α} (h : x ∈ l) : (F x).length ≤ (l.flatMap F).length := by
  induction l with
  | nil => cases h
  | cons y l ih =>
    rw [List.flatMap_cons, List.length_append]
    rcases List.mem_cons.1 h with rfl | h
    · omega
    · have := ih h; omega
theorem sect5_in {id : Int} {n : Nat} {s : List UInt8} (hn : n ≠ 0) : s.length ≤ (sect5 id n s).length := by
  unfold sect5 txt5
  rw [if_neg hn]
  simp only [List.length_append]
  omega
theorem zip_join (l : List FnV) : List.zipWith joinFn (l.map fun f => (⟨f.type, bs [], none, 0, []⟩ : FnV)) (l.map fun f => (⟨0, f.locals, none, 0, f.code.map InsV.bare⟩ : FnV)) = l.map FnV.bare := by
  induction l with
  | nil => rfl
  | cons f l ih => simp only [List.map_cons, List.zipWith_cons_cons, ih]; rfl
theorem mod6_put {m : MoV} (hr : rightMod m = true) (hf : Fits6 m) (hl : (mod5 m).length ≤ 1048576) : mod6 (mod5 m) = .ok m.bare [] := by
  unfold rightMod at hr
  simp only [Bool.and_eq_true, decide_eq_true_eq, List.all_eq_true] at hr
  obtain ⟨hfew, r1, r2, r3, r4, r5, r6⟩ := hr
  unfold fewMod at hfew
  have hlen := hl
  unfold mod5 at hlen
  simp only [List.length_append] at hlen
  have k10 : ∀ f ∈ m.funcs, (runs5 f.locals.data.toList ++ f.code.flatMap ins5).length < 4294967296 := fun f hfm => by
    have h1 := flat_in (F := code5) hfm
    have h2 := sect5_in (id := 10) (n := m.funcs.length) (s := m.funcs.flatMap code5) (by intro e; rw [List.length_eq_zero_iff.1 e] at hfm; cases hfm)
    have h3 : (runs5 f.locals.data.toList ++ f.code.flatMap ins5).length ≤ (code5 f).length := by unfold code5 txt5; simp only [List.length_append]; omega
    omega
  have k7 : ∀ t ∈ m.exports, t.name.size < 4294967296 := fun t ht => by
    have h1 := flat_in (F := exp5) ht
    have h2 := sect5_in (id := 7) (n := m.exports.length) (s := m.exports.flatMap exp5) (by intro e; rw [List.length_eq_zero_iff.1 e] at ht; cases ht)
    have h3 : t.name.data.toList.length ≤ (exp5 t).length := by unfold exp5 txt5; simp only [List.length_append]; omega
    rw [Array.length_toList] at h3
    have e : t.name.size = t.name.data.size := rfl
    omega
  have k11 : ∀ t ∈ m.data, t.bytes.size < 4294967296 := fun t ht => by
    have h1 := flat_in (F := dat5) ht
    have h2 := sect5_in (id := 11) (n := m.data.length) (s := m.data.flatMap dat5) (by intro e; rw [List.length_eq_zero_iff.1 e] at ht; cases ht)
    have h3 : t.bytes.data.toList.length ≤ (dat5 t).length := by unfold dat5 txt5; simp only [List.length_append]; omega
    rw [Array.length_toList] at h3
    have e : t.bytes.size = t.bytes.data.size := rfl
    omega
  have e1 := pList_put' (p := pTy) (F := ty5) (g := id) (l := m.types) (fun t ht r => pTy_put (r1 t ht) r) (by omega)
  have e3 := pList_put' (p := pFn) (F := fun f : FnV => putU f.type) (g := fun f => (⟨f.type, bs [], none, 0, []⟩ : FnV)) (l := m.funcs) (fun f hfm r => pFn_put (by have := r2 f hfm; unfold rightFn at this; simp only [Bool.and_eq_true] at this; exact this.2.1.1) r) (by omega)
  have e5 := pList_put' (p := pMem) (F := mem5) (g := id) (l := m.memory) (fun t ht r => pMem_put (r3 t ht) r) (by omega)
  have e6 := pList_put' (p := pGlob) (F := glob5) (g := id) (l := m.globals) (fun t ht r => pGlob_put (r4 t ht) (hf.init t ht) r) (by omega)
  have e7 := pList_put' (p := pExp) (F := exp5) (g := id) (l := m.exports) (fun t ht r => pExp_put (r5 t ht) (k7 t ht) r) (by omega)
  have e10 := pList_put' (p := pCode) (F := code5) (g := fun f => (⟨0, f.locals, none, 0, f.code.map InsV.bare⟩ : FnV)) (l := m.funcs) (fun f hfm r => pCode_put (r2 f hfm) (hf.ins f hfm) (k10 f hfm) r) (by omega)
  have e11 := pList_put' (p := pDat) (F := dat5) (g := id) (l := m.data) (fun t ht r => pDat_put (r6 t ht) (k11 t ht) r) (by omega)
  simp only [List.map_id] at e1 e5 e6 e7 e11
  unfold mod6
  rw [if_neg (by omega)]
  have hh : mod5 m = head6 ++ (sect5 1 m.types.length (m.types.flatMap ty5) ++ (sect5 3 m.funcs.length (m.funcs.flatMap fun f => putU f.type) ++ (sect5 5 m.memory.length (m.memory.flatMap mem5) ++ (sect5 6 m.globals.length (m.globals.flatMap glob5) ++ (sect5 7 m.exports.length (m.exports.flatMap exp5) ++ (start5 m.start ++ (sect5 10 m.funcs.length (m.funcs.flatMap code5) ++ (sect5 11 m.data.length (m.data.flatMap dat5) ++ [])))))))) := by
    unfold mod5 head6; simp only [List.append_assoc, List.append_nil]
  have hd : (mod5 m).drop 8 = sect5 1 m.types.length (m.types.flatMap ty5) ++ (sect5 3 m.funcs.length (m.funcs.flatMap fun f => putU f.type) ++ (sect5 5 m.memory.length (m.memory.flatMap mem5) ++ (sect5 6 m.globals.length (m.globals.flatMap glob5) ++ (sect5 7 m.exports.length (m.exports.flatMap exp5) ++ (start5 m.start ++ (sect5 10 m.funcs.length (m.funcs.flatMap code5) ++ (sect5 11 m.data.length (m.data.flatMap dat5) ++ []))))))) := by rw [hh]; rfl
  rw [if_neg (by rw [hh]; exact fun h => h rfl), hd]
  have hz : ∀ {α : Type} {l : List α}, l.length = 0 → [] = l := fun h => (List.length_eq_zero_iff.1 h).symm
  have hz0 : m.funcs.length = 0 → m.funcs = [] := fun h => List.length_eq_zero_iff.1 h
  obtain ⟨f1, la1, g1, q1, s1⟩ := sect_opt (id := 1) (n := m.types.length) (p := pts0) (q := ⟨m.types, [], [], [], [], -1, [], 0, []⟩) (s := m.types.flatMap ty5) (by unfold known6; omega) (by decide) (fun h => by rw [← hz h]; rfl) (fun _ => by unfold pPart; rw [if_neg (by decide), if_pos rfl, and_ok e1]; rfl) (by omega) (mod5 m).length _ (by rw [← hd, List.length_drop]; omega)
  rw [s1]
  obtain ⟨f3, la3, g3, q3, s3⟩ := sect_opt (id := 3) (n := m.funcs.length) (p := ⟨m.types, [], [], [], [], -1, [], la1, []⟩) (q := ⟨m.types, (m.funcs.map fun f => (⟨f.type, bs [], none, 0, []⟩ : FnV)), [], [], [], -1, [], la1, []⟩) (s := m.funcs.flatMap fun f => putU f.type) (by unfold known6; omega) (by show la1 < 3; omega) (fun h => by rw [hz0 h]; rfl) (fun _ => by unfold pPart; rw [if_neg (by decide), if_neg (by decide), if_pos rfl, and_ok e3]; rfl) (by omega) f1 _ g1
  rw [s3]
  obtain ⟨f5, la5, g5, q5, s5⟩ := sect_opt (id := 5) (n := m.memory.length) (p := ⟨m.types, (m.funcs.map fun f => (⟨f.type, bs [], none, 0, []⟩ : FnV)), [], [], [], -1, [], la3, []⟩) (q := ⟨m.types, (m.funcs.map fun f => (⟨f.type, bs [], none, 0, []⟩ : FnV)), m.memory, [], [], -1, [], la3, []⟩) (s := m.memory.flatMap mem5) (by unfold known6; omega) (by show la3 < 5; omega) (fun h => by rw [← hz h]) (fun _ => by unfold pPart; rw [if_neg (by decide), if_neg (by decide), if_neg (by decide), if_pos rfl, and_ok e5]; rfl) (by omega) f3 _ g3
  rw [s5]
  obtain ⟨f6, la6, g6, q6, s6⟩ := sect_opt (id := 6) (n := m.globals.length) (p := ⟨m.types, (m.funcs.map fun f => (⟨f.type, bs [], none, 0, []⟩ : FnV)), m.memory, [], [], -1, [], la5, []⟩) (q := ⟨m.types, (m.funcs.map fun f => (⟨f.type, bs [], none, 0, []⟩ : FnV)), m.memory, m.globals, [], -1, [], la5, []⟩) (s := m.globals.flatMap glob5) (by unfold known6; omega) (by show la5 < 6; omega) (fun h => by rw [← hz h]) (fun _ => by unfold pPart; rw [if_neg (by decide), if_neg (by decide), if_neg (by decide), if_neg (by decide), if_pos rfl, and_ok e6]; rfl) (by omega) f5 _ g5
  rw [s6]
  obtain ⟨f7, la7, g7, q7, s7⟩ := sect_opt (id := 7) (n := m.exports.length) (p := ⟨m.types, (m.funcs.map fun f => (⟨f.type, bs [], none, 0, []⟩ : FnV)), m.memory, m.globals, [], -1, [], la6, []⟩) (q := ⟨m.types, (m.funcs.map fun f => (⟨f.type, bs [], none, 0, []⟩ : FnV)), m.memory, m.globals, m.exports, -1, [], la6, []⟩) (s := m.exports.flatMap exp5) (by unfold known6; omega) (by show la6 < 7; omega) (fun h => by rw [← hz h]) (fun _ => by unfold pPart; rw [if_neg (by decide), if_neg (by decide), if_neg (by decide), if_neg (by decide), if_neg (by decide), if_pos rfl, and_ok e7]; rfl) (by omega) f6 _ g6
  rw [s7]
  obtain ⟨f8, la8, g8, q8, s8⟩ := start_opt (n := m.start) (p := ⟨m.types, (m.funcs.map fun f => (⟨f.type, bs [], none, 0, []⟩ : FnV)), m.memory, m.globals, m.exports, -1, [], la7, []⟩) hfew.2.2.2.2.2.2 (by show la7 < 8; omega) rfl f7 _ g7
  rw [s8]
  obtain ⟨f10, la10, g10, q10, s10⟩ := sect_opt (id := 10) (n := m.funcs.length) (p := ⟨m.types, (m.funcs.map fun f => (⟨f.type, bs [], none, 0, []⟩ : FnV)), m.memory, m.globals, m.exports, m.start, [], la8, []⟩) (q := ⟨m.types, (m.funcs.map fun f => (⟨f.type, bs [], none, 0, []⟩ : FnV)), m.memory, m.globals, m.exports, m.start, [], la8, (m.funcs.map fun f => (⟨0, f.locals, none, 0, f.code.map InsV.bare⟩ : FnV))⟩) (s := m.funcs.flatMap code5) (by unfold known6; omega) (by show la8 < 10; omega) (fun h => by rw [hz0 h]; rfl) (fun _ => by unfold pPart; rw [if_neg (by decide), if_neg (by decide), if_neg (by decide), if_neg (by decide), if_neg (by decide), if_neg (by decide), if_neg (by decide), if_pos rfl, and_ok e10]; rfl) (by omega) f8 _ g8
  rw [s10]
  obtain ⟨f11, la11, g11, q11, s11⟩ := sect_opt (id := 11) (n := m.data.length) (p := ⟨m.types, (m.funcs.map fun f => (⟨f.type, bs [], none, 0, []⟩ : FnV)), m.memory, m.globals, m.exports, m.start, [], la10, (m.funcs.map fun f => (⟨0, f.locals, none, 0, f.code.map InsV.bare⟩ : FnV))⟩) (q := ⟨m.types, (m.funcs.map fun f => (⟨f.type, bs [], none, 0, []⟩ : FnV)), m.memory, m.globals, m.exports, m.start, m.data, la10, (m.funcs.map fun f => (⟨0, f.locals, none, 0, f.code.map InsV.bare⟩ : FnV))⟩) (s := m.data.flatMap dat5) (by unfold known6; omega) (by show la10 < 11; omega) (fun h => by rw [← hz h]) (fun _ => by unfold pPart; rw [if_neg (by decide), if_neg (by decide), if_neg (by decide), if_neg (by decide), if_neg (by decide), if_neg (by decide), if_neg (by decide), if_neg (by decide), and_ok e11]; rfl) (by omega) f10 _ g10
  rw [s11]
  have hend : ∀ f p, pSects f p [] = .ok p [] := fun f p => by cases f <;> rfl
  rw [hend]
  simp only [List.length_map]
  rw [if_pos trivial]
  unfold modOf MoV.bare
  simp only
  rw [zip_join]
theorem val_of {α : Type} {v x : α} {l r : List UInt8} (h : Pr.val v l = .ok x r) : x = v ∧ r = l := by unfold Pr.val at h; injection h with h1 h2; exact ⟨h1.symm, h2.symm⟩
theorem no_of {α : Type} {e : Int} {x : α} {l r : List UInt8} (h : (Pr.no e : Pr α) l = .ok x r) : False := by unfold Pr.no at h; cases h
theorem pFit_of {K : IntKind} {p : Int → Int} {most : Nat} {l r : List UInt8} {n : Int} (h : pFit K p most l = .ok n r) : K.min ≤ n ∧ n ≤ K.max := by
  unfold pFit at h
  cases hd : dec p l with
  | none => rw [hd] at h; cases h
  | some x =>
    obtain ⟨v, k⟩ := x
    rw [hd] at h
    simp only [fit] at h
    split at h
    · cases h
    · rename_i v' k' hf
      split at hf
      · rename_i hc
        injection hf with hf; injection hf with h1 h2; injection h with h3 h4
        subst h3 h1
        exact hc.2
      · cases hf
theorem pNum_of {l r : List UInt8} {n : Int} (h : pNum l = .ok n r) : 0 ≤ n ∧ n < 4294967296 := by
  have := pFit_of h
  simp [IntKind.min, IntKind.max, IntKind.signed, IntKind.bits] at this
  omega
theorem pS32_of {l r : List UInt8} {n : Int} (h : pS32 l = .ok n r) : -2147483648 ≤ n ∧ n < 2147483648 := by
  have := pFit_of h
  simp [IntKind.min, IntKind.max, IntKind.signed, IntKind.bits] at this
  omega
theorem pS64_of {l r : List UInt8} {n : Int} (h : pS64 l = .ok n r) : inI64 n := by
  have := pFit_of h
  simp [IntKind.min, IntKind.max, IntKind.signed, IntKind.bits] at this
  unfold inI64
  omega
theorem pMany_of {l r : List UInt8} {n : Int} (h : pMany l = .ok n r) : 0 ≤ n ∧ n ≤ 4096 := by
  obtain ⟨x, m, h1, h2⟩ := and_of h
  have := pNum_of h1
  split at h2
  · exact absurd h2 (fun h => no_of h)
  · obtain ⟨rfl, _⟩ := val_of h2; omega
theorem pRep_of {α : Type} {p : Pr α} {Q : α → Prop} (hp : ∀ l v r, p l = .ok v r → Q v) : ∀ (n : Nat) (l r : List UInt8) (vs : List α), pRep p n l = .ok vs r → vs.length = n ∧ ∀ v ∈ vs, Q v
  | 0, l, r, vs, h => by obtain ⟨rfl, _⟩ := val_of h; simp
  | n + 1, l, r, vs, h => by
    unfold pRep at h
    obtain ⟨x, m, h1, h2⟩ := and_of h
    obtain ⟨xs, m2, h3, h4⟩ := and_of h2
    obtain ⟨rfl, _⟩ := val_of h4
    have ih := pRep_of hp n m m2 xs h3
    refine ⟨by simp [ih.1], fun v hv => ?_⟩
    rcases List.mem_cons.1 hv with rfl | hv
    · exact hp _ _ _ h1
    · exact ih.2 v hv
theorem pList_of {α : Type} {p : Pr α} {Q : α → Prop} (hp : ∀ l v r, p l = .ok v r → Q v) {l r : List UInt8} {vs : List α} (h : pList p l = .ok vs r) : vs.length ≤ 4096 ∧ ∀ v ∈ vs, Q v := by
  obtain ⟨n, m, h1, h2⟩ := and_of h
  have := pMany_of h1
  have h3 := pRep_of hp _ _ _ _ h2
  exact ⟨by omega, h3.2⟩
theorem pKind_of {b n : Int} {l r : List UInt8} (h : pKind b l = .ok n r) : n = b ∧ (b = 127 ∨ b = 126) := by
  unfold pKind at h
  split at h
  · rename_i hb; exact ⟨(val_of h).1, hb⟩
  · split at h <;> exact absurd h (fun h => no_of h)
theorem pValue_of {l r : List UInt8} {n : Int} (h : pValue l = .ok n r) : n = 127 ∨ n = 126 := by
  obtain ⟨b, m, _, h2⟩ := and_of h
  obtain ⟨rfl, h3⟩ := pKind_of h2
  exact h3
theorem u8_vtype {n : Int} (h : n = 127 ∨ n = 126) : vtype (u8 n) = true := by rcases h with rfl | rfl <;> decide
theorem pKinds_of {l r : List UInt8} {s : ByteArray} (h : pKinds l = .ok s r) : vtypes s.data.toList 4096 = true := by
  obtain ⟨vs, m, h1, h2⟩ := and_of h
  obtain ⟨rfl, _⟩ := val_of h2
  have h3 := pList_of (fun _ _ _ h => pValue_of h) h1
  unfold vtypes
  rw [Bool.and_eq_true, decide_eq_true_eq, List.all_eq_true]
  refine ⟨fun b hb => ?_, by simp [bs]; omega⟩
  simp only [bs, List.mem_map] at hb
  obtain ⟨n, hn, rfl⟩ := hb
  exact u8_vtype (h3.2 n hn)
theorem pTy_of {l r : List UInt8} {t : TyV} (h : pTy l = .ok t r) : rightTy t = true := by
  obtain ⟨_, m, _, h2⟩ := and_of h
  obtain ⟨p, m2, h3, h4⟩ := and_of h2
  obtain ⟨q, m3, h5, h6⟩ := and_of h4
  split at h6
  · exact absurd h6 (fun h => no_of h)
  · obtain ⟨rfl, _⟩ := val_of h6
    unfold rightTy
    rw [pKinds_of h3, Bool.true_and]
    have h7 := pKinds_of h5
    unfold vtypes at h7 ⊢
    rw [Bool.and_eq_true] at h7 ⊢
    refine ⟨h7.1, decide_eq_true ?_⟩
    have e : q.size = q.data.size := rfl
    rw [Array.length_toList]
    dsimp only
    omega
theorem word4_of {n : Int} (h : 0 ≤ n ∧ n < 4294967296) : word4 n = true := decide_eq_true h
theorem pMem_of {l r : List UInt8} {t : MemV} (h : pMem l = .ok t r) : rightMem t = true := by
  obtain ⟨k, m, _, h2⟩ := and_of h
  split at h2
  · obtain ⟨a, m2, h3, h4⟩ := and_of h2
    obtain ⟨rfl, _⟩ := val_of h4
    unfold rightMem
    rw [word4_of (pNum_of h3)]; rfl
  · split at h2
    · obtain ⟨a, m2, h3, h4⟩ := and_of h2
      obtain ⟨b, m3, h5, h6⟩ := and_of h4
      obtain ⟨rfl, _⟩ := val_of h6
      unfold rightMem
      rw [word4_of (pNum_of h3), word4_of (pNum_of h5)]; simp
    · exact absurd h2 (fun h => no_of h)
theorem pSigned_of {c n : Int} {l r : List UInt8} (h : pSigned c l = .ok n r) : inI64 n ∧ (c = 65 → -2147483648 ≤ n ∧ n < 2147483648) := by
  unfold pSigned at h
  split at h
  · have := pS32_of h; exact ⟨by unfold inI64; omega, fun _ => this⟩
  · rename_i hc; exact ⟨pS64_of h, fun e => absurd e hc⟩
theorem pConst_of {k n : Int} {l r : List UInt8} (h : pConst k l = .ok n r) : inI64 n ∧ (k = 127 → -2147483648 ≤ n ∧ n < 2147483648) := by
  obtain ⟨b, m, _, h2⟩ := and_of h
  split at h2
  · exact absurd h2 (fun h => no_of h)
  · split at h2
    · obtain ⟨x, m2, h3, h4⟩ := and_of h2
      split at h4
      · rename_i hk
        obtain ⟨_, m3, _, h5⟩ := and_of h4
        obtain ⟨rfl, _⟩ := val_of h5
        have := pSigned_of h3
        refine ⟨this.1, fun e => this.2 ?_⟩
        rw [decide_eq_decide] at hk
        exact hk.2 e
      · exact absurd h4 (fun h => no_of h)
    · exact absurd h2 (fun h => no_of h)
theorem pGlob_of {l r : List UInt8} {t : GlobV} (h : pGlob l = .ok t r) : rightGlob t = true ∧ inI64 t.init := by
  obtain ⟨k, m, h1, h2⟩ := and_of h
  obtain ⟨b, m2, _, h4⟩ := and_of h2
  split at h4
  · obtain ⟨n, m3, h5, h6⟩ := and_of h4
    obtain ⟨rfl, _⟩ := val_of h6
    have hc := pConst_of h5
    refine ⟨?_, hc.1⟩
    unfold rightGlob small4
    rcases pValue_of h1 with rfl | rfl
    · simp [hc.2 rfl]
    · rfl
  · exact absurd h4 (fun h => no_of h)
theorem pName_of {l r s : List UInt8} (h : pName l = .ok s r) : isName s = true := by
  obtain ⟨t, m, _, h2⟩ := and_of h
  split at h2
  · rename_i hn; obtain ⟨rfl, _⟩ := val_of h2; exact hn
  · exact absurd h2 (fun h => no_of h)
theorem bs_data (l : List UInt8) : (bs l).data.toList = l := by simp [bs]
theorem pExp_of {l r : List UInt8} {t : ExpV} (h : pExp l = .ok t r) : rightExp t = true := by
  obtain ⟨s, m, h1, h2⟩ := and_of h
  obtain ⟨k, m2, _, h4⟩ := and_of h2
  split at h4
  · rename_i hk
    obtain ⟨n, m3, h5, h6⟩ := and_of h4
    obtain ⟨rfl, _⟩ := val_of h6
    unfold rightExp
    rw [bs_data, pName_of h1, word4_of (pNum_of h5), decide_eq_true hk]; rfl
  · split at h4 <;> exact absurd h4 (fun h => no_of h)
theorem pDat_of {l r : List UInt8} {t : DatV} (h : pDat l = .ok t r) : rightDat t = true := by
  obtain ⟨n, m, _, h2⟩ := and_of h
  split at h2
  · obtain ⟨o, m2, h3, h4⟩ := and_of h2
    obtain ⟨s, m3, _, h6⟩ := and_of h4
    obtain ⟨rfl, _⟩ := val_of h6
    exact decide_eq_true ((pConst_of h3).2 rfl)
  · exact absurd h2 (fun h => no_of h)
theorem pFn_of {l r : List UInt8} {f : FnV} (h : pFn l = .ok f r) : word4 f.type = true := by
  obtain ⟨n, m, h1, h2⟩ := and_of h
  obtain ⟨rfl, _⟩ := val_of h2
  exact word4_of (pNum_of h1)
theorem word_of {n : Int} (h : 0 ≤ n ∧ n < 4294967296) : word n = true := decide_eq_true h
def Ins6 (x : InsV) : Prop := rightIns x = true ∧ inI64 x.a ∧ x.bare = x
theorem pTail_of {op : Int} {R : Rw} (hb : byCode op = some R) {l r : List UInt8} {x : InsV} (h : pTail R.shape op l = .ok x r) : Ins6 x ∧ x.op = op := by
  have h6 := byCode_6 hb
  have key : ∀ a b ls, rightOf (some R) op a b ls = true → inI64 a → Ins6 (bareI op a b ls) ∧ (bareI op a b ls).op = op := fun a b ls h1 h2 => ⟨⟨by unfold rightIns bareI; simp only; rw [hb]; exact h1, h2, rfl⟩, rfl⟩
  have z : inI64 0 := ⟨by decide, by decide⟩
  unfold pTail at h
  generalize hs : R.shape = s at *
  have w4 : ∀ {n : Int}, 0 ≤ n ∧ n < 4294967296 → inI64 n := fun h => by unfold inI64; omega
  split at h
  · rename_i h1
    obtain ⟨k, m, _, h2⟩ := and_of h
    split at h2
    · rename_i h3
      obtain ⟨rfl, _⟩ := val_of h2
      subst h3
      exact key _ _ _ (by unfold rightOf; simp [hs, h1]) ⟨by decide, by decide⟩
    · obtain ⟨k2, m2, h3, h4⟩ := and_of h2
      obtain ⟨rfl, _⟩ := val_of h4
      obtain ⟨_, hk⟩ := pKind_of h3
      exact key _ _ _ (by unfold rightOf; simp [hs, h1]; omega) (by unfold inI64; omega)
  · split at h
    · rename_i h1 h2
      obtain ⟨a, m, h3, h4⟩ := and_of h
      obtain ⟨rfl, _⟩ := val_of h4
      have ha := pNum_of h3
      exact key _ _ _ (by unfold rightOf; rcases h2 with h2 | h2 <;> simp [hs, h2, word_of ha]) (w4 ha)
    · split at h
      · rename_i h1 h2 h3
        obtain ⟨ls, m, h4, h5⟩ := and_of h
        obtain ⟨a, m2, h6, h7⟩ := and_of h5
        obtain ⟨rfl, _⟩ := val_of h7
        have ha := pNum_of h6
        have hl := pList_of (Q := fun n => word n = true) (fun _ _ _ h => word_of (pNum_of h)) h4
        exact key _ _ _ (by unfold rightOf; simp [hs, h3, word_of ha, hl.1]; exact hl.2) (w4 ha)
      · split at h
        · rename_i h1 h2 h3 h4
          obtain ⟨a, m, h5, h6⟩ := and_of h
          obtain ⟨b, m2, h7, h8⟩ := and_of h6
          obtain ⟨rfl, _⟩ := val_of h8
          have ha := pNum_of h5
          exact key _ _ _ (by unfold rightOf; simp [hs, h4, word_of ha, word_of (pNum_of h7)]) (w4 ha)
        · split at h
          · rename_i h1 h2 h3 h4 h5
            obtain ⟨_, m, _, h7⟩ := and_of h
            obtain ⟨rfl, _⟩ := val_of h7
            exact key _ _ _ (by unfold rightOf; simp [hs, h5]) z
          · split at h
            · rename_i h1 h2 h3 h4 h5 h7
              obtain ⟨a, m, h8, h9⟩ := and_of h
              obtain ⟨rfl, _⟩ := val_of h9
              have ha := pSigned_of h8
              exact key _ _ _ (by
                unfold rightOf
                rcases h6.2.2.1 h7 with e | e
                · simp [hs, h7, ha.2 e]
                · simp [hs, h7, e]) ha.1
            · rename_i h1 h2 h3 h4 h5 h7
              obtain ⟨rfl, _⟩ := val_of h
              exact key _ _ _ (by
                have : s = 0 := by omega
                unfold rightOf; simp [hs, this]) z
theorem pIns_of {l r : List UInt8} {x : InsV} (h : pIns l = .ok x r) : Ins6 x := by
  obtain ⟨b, m, _, h2⟩ := and_of h
  split at h2
  · exact absurd h2 (fun h => no_of h)
  · cases hb : byCode b with
    | none => rw [hb] at h2; exact absurd h2 (fun h => no_of h)
    | some R => rw [hb] at h2; exact (pTail_of hb h2).1
theorem pBody_of : ∀ (f : Nat) (o : List Int) (l r : List UInt8) (c : List InsV), pBody f o l = .ok c r → (∀ x ∈ c, Ins6 x) ∧ runs (opsOf c) o = true
  | 0, o, l, r, c, h => absurd h (fun h => no_of h)
  | f + 1, o, l, r, c, h => by
    unfold pBody at h
    obtain ⟨x, m, h1, h2⟩ := and_of h
    have hx := pIns_of h1
    have more : ∀ o' c' m', pBody f o' m = .ok c' m' → (runs (opsOf c') o' = true → runs (x.op :: opsOf c') o = true) → (∀ y ∈ x :: c', Ins6 y) ∧ runs (opsOf (x :: c')) o = true := fun o' c' m' h3 h4 => by
      have ih := pBody_of f o' m m' c' h3
      exact ⟨fun y hy => by
        rcases List.mem_cons.1 hy with rfl | hy
        · exact hx
        · exact ih.1 y hy, h4 ih.2⟩
    split at h2
    · rename_i h11
      cases o with
      | nil =>
        obtain ⟨rfl, _⟩ := val_of h2
        exact ⟨fun y hy => by rw [List.mem_singleton.1 hy]; exact hx, by show runs [x.op] [] = true; rw [h11]; rfl⟩
      | cons u o =>
        obtain ⟨c', m', h3, h4⟩ := and_of h2
        obtain ⟨rfl, _⟩ := val_of h4
        exact more _ _ _ h3 (fun hr => by rw [h11, runs_end]; exact hr)
    · rename_i h11
      cases hn : nest o x.op with
      | none => rw [hn] at h2; exact absurd h2 (fun h => no_of h)
      | some o' =>
        rw [hn] at h2
        obtain ⟨c', m', h3, h4⟩ := and_of h2
        obtain ⟨rfl, _⟩ := val_of h4
        refine more _ _ _ h3 (fun hr => ?_)
        unfold nest at hn
        split at hn
        · rename_i h5; injection hn with hn; rw [runs_open h5, hn]; exact hr
        · split at hn
          · rename_i h5
            cases o with
            | nil => cases hn
            | cons u o =>
              simp only at hn
              split at hn
              · rename_i hu; injection hn with hn; rw [h5, runs_else, if_pos hu, hn]; exact hr
              · cases hn
          · injection hn with hn; rw [runs_other (by omega), hn]; exact hr
theorem pLocals_of : ∀ (n : Nat) (left : Int) (l r s : List UInt8), 0 ≤ left → pLocals n left l = .ok s r → (∀ b ∈ s, vtype b = true) ∧ (s.length : Int) ≤ left
  | 0, left, l, r, s, h0, h => by obtain ⟨rfl, _⟩ := val_of h; simp [h0]
  | n + 1, left, l, r, s, h0, h => by
    unfold pLocals at h
    obtain ⟨k, m, h1, h2⟩ := and_of h
    obtain ⟨t, m2, h3, h4⟩ := and_of h2
    split at h4
    · exact absurd h4 (fun h => no_of h)
    · obtain ⟨s', m3, h5, h6⟩ := and_of h4
      obtain ⟨rfl, _⟩ := val_of h6
      have hk := pNum_of h1
      have ih := pLocals_of n _ _ _ _ (by omega) h5
      refine ⟨fun b hb => ?_, by rw [List.length_append, List.length_replicate]; omega⟩
      rcases List.mem_append.1 hb with hb | hb
      · rw [List.eq_of_mem_replicate hb]; exact u8_vtype (pValue_of h3)
      · exact ih.1 b hb
theorem pWhole_of {α : Type} {p : Pr α} {l r : List UInt8} {v : α} (h : pWhole p l = .ok v r) : ∃ t, p t = .ok v [] := by
  obtain ⟨t, m, _, h2⟩ := and_of h
  unfold pIn at h2
  cases hp : p t with
  | bad e => rw [hp] at h2; cases h2
  | ok w rest =>
    rw [hp] at h2
    cases rest with
    | nil => injection h2 with h3 _; subst h3; exact ⟨t, hp⟩
    | cons b rest => cases h2
def Code6 (f : FnV) : Prop := (∀ x ∈ f.code, Ins6 x) ∧ runs (opsOf f.code) [] = true ∧ vtypes f.locals.data.toList 4096 = true
theorem pCode_of {l r : List UInt8} {f : FnV} (h : pCode l = .ok f r) : Code6 f := by
  obtain ⟨x, m, h1, h2⟩ := and_of h
  obtain ⟨rfl, _⟩ := val_of h2
  obtain ⟨t, h3⟩ := pWhole_of h1
  obtain ⟨n, m2, _, h5⟩ := and_of h3
  obtain ⟨ls, m3, h6, h7⟩ := and_of h5
  obtain ⟨c, m4, h8, h9⟩ := and_of h7
  obtain ⟨rfl, _⟩ := val_of h9
  have a := pLocals_of _ _ _ _ _ (by decide) h6
  have b := pBody_of _ _ _ _ _ h8
  exact ⟨b.1, b.2, by unfold vtypes fnOf; rw [bs_data, Bool.and_eq_true, decide_eq_true_eq, List.all_eq_true]; exact ⟨a.1, a.2⟩⟩
structure Pts6 (p : Pts) : Prop where
  types : p.types.length ≤ 4096 ∧ ∀ t ∈ p.types, rightTy t = true
  funcs : p.funcs.length ≤ 4096 ∧ ∀ f ∈ p.funcs, word4 f.type = true
  memory : p.memory.length ≤ 4096 ∧ ∀ t ∈ p.memory, rightMem t = true
  globals : p.globals.length ≤ 4096 ∧ ∀ t ∈ p.globals, rightGlob t = true ∧ inI64 t.init
  exports : p.exports.length ≤ 4096 ∧ ∀ t ∈ p.exports, rightExp t = true
  start : p.start = -1 ∨ word4 p.start = true
  data : p.data.length ≤ 4096 ∧ ∀ t ∈ p.data, rightDat t = true
  codes : p.codes.length ≤ 4096 ∧ ∀ f ∈ p.codes, Code6 f
theorem pts0_right : Pts6 pts0 := ⟨by simp [pts0], by simp [pts0], by simp [pts0], by simp [pts0], by simp [pts0], .inl rfl, by simp [pts0], by simp [pts0]⟩
theorem pPart_of {id : Int} {p q : Pts} {l r : List UInt8} (hp : Pts6 p) (h : pPart id p l = .ok q r) : Pts6 q := by
  unfold pPart at h
  split at h
  · obtain ⟨s, m, _, h2⟩ := and_of h; injection h2 with h3 _; rw [← h3]; exact hp
  · split at h
    · obtain ⟨s, m, h1, h2⟩ := and_of h; obtain ⟨rfl, _⟩ := val_of h2; exact { hp with types := pList_of (fun _ _ _ h => pTy_of h) h1 }
    · split at h
      · obtain ⟨s, m, h1, h2⟩ := and_of h; obtain ⟨rfl, _⟩ := val_of h2; exact { hp with funcs := pList_of (fun _ _ _ h => pFn_of h) h1 }
      · split at h
        · obtain ⟨s, m, h1, h2⟩ := and_of h; obtain ⟨rfl, _⟩ := val_of h2; exact { hp with memory := pList_of (fun _ _ _ h => pMem_of h) h1 }
        · split at h
          · obtain ⟨s, m, h1, h2⟩ := and_of h; obtain ⟨rfl, _⟩ := val_of h2; exact { hp with globals := pList_of (fun _ _ _ h => pGlob_of h) h1 }
          · split at h
            · obtain ⟨s, m, h1, h2⟩ := and_of h; obtain ⟨rfl, _⟩ := val_of h2; exact { hp with exports := pList_of (fun _ _ _ h => pExp_of h) h1 }
            · split at h
              · obtain ⟨s, m, h1, h2⟩ := and_of h; obtain ⟨rfl, _⟩ := val_of h2; exact { hp with start := .inr (word4_of (pNum_of h1)) }
              · split at h
                · obtain ⟨s, m, h1, h2⟩ := and_of h; obtain ⟨rfl, _⟩ := val_of h2; exact { hp with codes := pList_of (fun _ _ _ h => pCode_of h) h1 }
                · obtain ⟨s, m, h1, h2⟩ := and_of h; obtain ⟨rfl, _⟩ := val_of h2; exact { hp with data := pList_of (fun _ _ _ h => pDat_of h) h1 }
theorem Pts6.last {p : Pts} (h : Pts6 p) (la : Int) : Pts6 { p with last := la } := ⟨h.types, h.funcs, h.memory, h.globals, h.exports, h.start, h.data, h.codes⟩
theorem pSect_of {p q : Pts} {l r : List UInt8} (hp : Pts6 p) (h : pSect p l = .ok q r) : Pts6 q := by
  obtain ⟨id, m, _, h2⟩ := and_of h
  split at h2
  · exact absurd h2 (fun h => no_of h)
  · split at h2
    · exact absurd h2 (fun h => no_of h)
    · obtain ⟨t, ht⟩ := pWhole_of h2
      exact pPart_of (hp.last _) ht
theorem pSects_of : ∀ (f : Nat) (p q : Pts) (l r : List UInt8), Pts6 p → pSects f p l = .ok q r → Pts6 q
  | 0, p, q, l, r, hp, h => by obtain ⟨rfl, _⟩ := val_of h; exact hp
  | f + 1, p, q, l, r, hp, h => by
    unfold pSects at h
    cases l with
    | nil => injection h with h1 _; rw [← h1]; exact hp
    | cons b l =>
      obtain ⟨p', m, h1, h2⟩ := and_of h
      exact pSects_of f p' q m r (pSect_of hp h1) h2
theorem mem_zip {f : FnV} : ∀ {l m : List FnV}, f ∈ List.zipWith joinFn l m → ∃ a ∈ l, ∃ b ∈ m, f = joinFn a b
  | [], _, h => by simp at h
  | _ :: _, [], h => by simp at h
  | a :: l, b :: m, h => by
    simp only [List.zipWith_cons_cons, List.mem_cons] at h
    rcases h with h | h
    · exact ⟨a, by simp, b, by simp, h⟩
    · obtain ⟨x, hx, y, hy, e⟩ := mem_zip h
      exact ⟨x, by simp [hx], y, by simp [hy], e⟩
theorem modOf_right {p : Pts} (h : Pts6 p) : rightMod (modOf p) = true ∧ Fits6 (modOf p) ∧ (modOf p).bare = modOf p := by
  have hz : (List.zipWith joinFn p.funcs p.codes).length ≤ 4096 := by rw [List.length_zipWith]; have := h.funcs.1; omega
  refine ⟨?_, ⟨fun f hf x hx => ?_, fun t ht => (h.globals.2 t ht).2⟩, ?_⟩
  · unfold rightMod
    simp only [Bool.and_eq_true, decide_eq_true_eq, List.all_eq_true]
    refine ⟨⟨h.types.1, hz, h.memory.1, h.globals.1, h.exports.1, h.data.1, h.start⟩, h.types.2, fun f hf => ?_, h.memory.2, fun t ht => (h.globals.2 t ht).1, h.exports.2, h.data.2⟩
    obtain ⟨a, ha, b, hb, rfl⟩ := mem_zip hf
    have hc := h.codes.2 b hb
    unfold rightFn joinFn
    simp only [Bool.and_eq_true, List.all_eq_true]
    exact ⟨fun x hx => (hc.1 x hx).1, ⟨h.funcs.2 a ha, hc.2.2⟩, hc.2.1⟩
  · obtain ⟨a, ha, b, hb, rfl⟩ := mem_zip hf
    exact ((h.codes.2 b hb).1 x hx).2.1
  · unfold MoV.bare
    have e : (modOf p).funcs.map FnV.bare = (modOf p).funcs := by
      refine (List.map_congr_left fun f hf => ?_).trans (List.map_id _)
      obtain ⟨a, ha, b, hb, rfl⟩ := mem_zip hf
      unfold FnV.bare joinFn id
      simp only
      rw [show b.code.map InsV.bare = b.code from (List.map_congr_left fun x hx => ((h.codes.2 b hb).1 x hx).2.2).trans (List.map_id _)]
    rw [e]
    rfl
theorem mod6_of {s r : List UInt8} {m : MoV} (h : mod6 s = .ok m r) : rightMod m = true ∧ Fits6 m ∧ m.bare = m := by
  unfold mod6 at h
  split at h
  · cases h
  · split at h
    · cases h
    · split at h
      · cases h
      · rename_i p r' hp
        split at h
        · injection h with h1 _
          rw [← h1]
          exact modOf_right (pSects_of _ _ _ _ _ pts0_right hp)
        · cases h
end Go.Proofs.YtdinpakclmnacaaGreatDoor
