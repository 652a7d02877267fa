/-
  Chapter 5: what bytes an instruction, runs of locals, a section, a module have, on Lean's own lists. Plain; no program is looked at.
-/
import Derived.Test.YtpamchagidnijaaGreatDoorModAt
import Derived.Test.YtpamchagidnijaaGreatDoorLebEnc
namespace Go.Proofs.YtpamchagidnijaaGreatDoor

/-- A byte; a text. -/
def one5 (n : Int) : List UInt8 := [UInt8.ofNat (n % 256).toNat]
def txt5 (s : List UInt8) : List UInt8 := putU s.length ++ s
/-- An instruction that is right. -/
def tail5 (shape : Int) (x : InsV) : List UInt8 :=
  if shape = 1 then one5 x.a
  else if shape = 2 ∨ shape = 4 then putU x.a
  else if shape = 3 then putU x.ls.length ++ x.ls.flatMap putU ++ putU x.a
  else if shape = 5 then putU x.a ++ putU x.b
  else if shape = 6 then [0]
  else if shape = 7 then putS x.a
  else []
def ins5 (x : InsV) : List UInt8 := match byCode x.op with
  | none => []
  | some r => if rightIns x then one5 x.op ++ tail5 r.shape x else []
/-- The runs of a list of bytes: each as long as can be. -/
def grp : List UInt8 → List (UInt8 × Nat)
  | [] => []
  | b :: l => match grp l with
    | [] => [(b, 1)]
    | (c, k) :: r => if b = c then (c, k + 1) :: r else (b, 1) :: (c, k) :: r
theorem grp_cons (b : UInt8) (l : List UInt8) : grp (b :: l) = match grp l with
    | [] => [(b, 1)]
    | (c, k) :: r => if b = c then (c, k + 1) :: r else (b, 1) :: (c, k) :: r := by rw [grp]
theorem grp_head {l : List UInt8} {c : UInt8} {k : Nat} {r : List (UInt8 × Nat)} (h : grp l = (c, k) :: r) : l.head? = some c := by
  cases l with
  | nil => simp [grp] at h
  | cons d l =>
    rw [grp_cons] at h
    split at h
    · injection h with h1 _; injection h1 with h1 _; simp [h1]
    · split at h
      · rename_i he; injection h with h1 _; injection h1 with h1 _; simp [he, h1]
      · injection h with h1 _; injection h1 with h1 _; simp [h1]
theorem grp_run (b : UInt8) (l : List UInt8) (h : ∀ c, l.head? = some c → b ≠ c) : ∀ k : Nat, grp (List.replicate (k + 1) b ++ l) = (b, k + 1) :: grp l
  | 0 => by
    show grp (b :: l) = _
    rw [grp_cons]
    cases hg : grp l with
    | nil => rfl
    | cons x r =>
      obtain ⟨c, k⟩ := x
      simp only
      rw [if_neg (h c (grp_head hg))]
  | k + 1 => by
    rw [List.replicate_succ, List.cons_append, grp_cons, grp_run b l h k]
    simp
def runs5 (s : List UInt8) : List UInt8 := putU (grp s).length ++ (grp s).flatMap fun x => putU x.2 ++ [x.1]
def const5 (kind n : Int) : List UInt8 := one5 (192 - kind) ++ putS n ++ [11]
def sect5 (id : Int) (n : Nat) (s : List UInt8) : List UInt8 := if n = 0 then [] else one5 id ++ txt5 (putU n ++ s)
def ty5 (t : TyV) : List UInt8 := [96] ++ txt5 t.params.data.toList ++ txt5 t.results.data.toList
def code5 (f : FnV) : List UInt8 := txt5 (runs5 f.locals.data.toList ++ f.code.flatMap ins5)
def mem5 (t : MemV) : List UInt8 := if t.max = -1 then [0] ++ putU t.min else [1] ++ putU t.min ++ putU t.max
def glob5 (t : GlobV) : List UInt8 := one5 t.type ++ [if t.may then 1 else 0] ++ const5 t.type t.init
def exp5 (t : ExpV) : List UInt8 := txt5 t.name.data.toList ++ one5 t.kind ++ putU t.index
def dat5 (t : DatV) : List UInt8 := [0] ++ const5 127 t.offset ++ txt5 t.bytes.data.toList
def start5 (n : Int) : List UInt8 := if n = -1 then [] else one5 8 ++ txt5 (putU n)
def mod5 (m : MoV) : List UInt8 :=
  [0, 97, 115, 109, 1, 0, 0, 0] ++ sect5 1 m.types.length (m.types.flatMap ty5) ++ sect5 3 m.funcs.length (m.funcs.flatMap fun f => putU f.type) ++ sect5 5 m.memory.length (m.memory.flatMap mem5) ++ sect5 6 m.globals.length (m.globals.flatMap glob5) ++ sect5 7 m.exports.length (m.exports.flatMap exp5) ++ start5 m.start ++ sect5 10 m.funcs.length (m.funcs.flatMap code5) ++ sect5 11 m.data.length (m.data.flatMap dat5)

/-! How long they are. -/
theorem one5_len (n : Int) : (one5 n).length = 1 := rfl
theorem putU_small {n : Int} (h0 : 0 ≤ n) (h1 : n < 4294967296) : (putU n).length ≤ 5 := (putU_len n h0 4).2 (by omega)
theorem txt5_len {s : List UInt8} (h : (s.length : Int) ≤ 18446744073709551615) : (txt5 s).length ≤ 10 + s.length := by
  unfold txt5
  rw [List.length_append]
  have := putU_len10 (n := (s.length : Int)) (by omega) h
  omega
theorem flat_most {α : Type} {f : α → List UInt8} {k : Nat} : ∀ {l : List α}, (∀ x ∈ l, (f x).length ≤ k) → (l.flatMap f).length ≤ l.length * k
  | [], _ => by simp
  | x :: l, h => by
    rw [List.flatMap_cons, List.length_append, List.length_cons, Nat.succ_mul]
    have h1 := h x (by simp)
    have h2 := flat_most (l := l) fun y hy => h y (by simp [hy])
    omega
theorem grp_len : ∀ s : List UInt8, (grp s).length ≤ s.length
  | [] => by simp [grp]
  | b :: l => by
    have ih := grp_len l
    rw [grp_cons]
    cases hg : grp l with
    | nil => simp
    | cons x r =>
      obtain ⟨c, k⟩ := x
      rw [hg] at ih
      simp only
      split <;> simp at ih ⊢ <;> omega
end Go.Proofs.YtpamchagidnijaaGreatDoor

namespace Go.Proofs.YtpamchagidnijaaGreatDoor

/-- The same bytes, or both too many. -/
def Cap (b f : List UInt8) : Prop := b = f ∨ (1048576 < b.length ∧ 1048576 < f.length)
theorem Cap.refl (b : List UInt8) : Cap b b := .inl rfl
theorem Cap.app2 {b f s t : List UInt8} (h : Cap b f) (g : Cap s t) : Cap (b ++ s) (f ++ t) := by
  unfold Cap at *
  simp only [List.length_append]
  rcases h with rfl | h
  · rcases g with rfl | g
    · exact .inl rfl
    · exact .inr (by omega)
  · exact .inr (by
      refine ⟨by omega, by omega⟩)
theorem Cap.app {b f : List UInt8} (h : Cap b f) (t : List UInt8) : Cap (b ++ t) (f ++ t) := h.app2 (Cap.refl t)
theorem Cap.long {b f : List UInt8} (h : Cap b f) (hb : 1048576 < b.length) : 1048576 < f.length := by
  rcases h with rfl | h
  · exact hb
  · exact h.2
theorem Cap.ne {b f : List UInt8} (h : Cap b f) (hf : f ≠ []) : b ≠ [] := by
  rcases h with rfl | h
  · exact hf
  · intro e; rw [e] at h; exact absurd h.1 (by simp)

/-- Things put one behind the other, as long as what is there is not too long. -/
def eachC {α : Type} (F : List UInt8 → α → List UInt8) : List UInt8 → List α → List UInt8
  | out, [] => out
  | out, x :: l => if 1048576 < out.length then out else eachC F (F out x) l
theorem eachC_cons {α : Type} (F : List UInt8 → α → List UInt8) (out : List UInt8) (x : α) (l : List α) : eachC F out (x :: l) = if 1048576 < out.length then out else eachC F (F out x) l := by rw [eachC]
def textC (out s : List UInt8) : List UInt8 := out ++ putU s.length ++ s.take 1048577
def numC (out : List UInt8) (n : Int) : List UInt8 := out ++ putU n
def listC {α : Type} (F : List UInt8 → α → List UInt8) (out : List UInt8) (l : List α) : List UInt8 := eachC F (numC out l.length) l
def constC (out : List UInt8) (kind n : Int) : List UInt8 := out ++ [if kind = 127 then 65 else 66] ++ putS n ++ [11]
def typeC (out : List UInt8) (t : TyV) : List UInt8 := textC (textC (out ++ [96]) t.params.data.toList) t.results.data.toList
def funcC (out : List UInt8) (f : FnV) : List UInt8 := numC out f.type
def memC (out : List UInt8) (t : MemV) : List UInt8 := if t.max < 0 then numC (out ++ [0]) t.min else numC (numC (out ++ [1]) t.min) t.max
def globC (out : List UInt8) (t : GlobV) : List UInt8 := constC (out ++ [UInt8.ofNat (t.type % 256).toNat, if t.may then 1 else 0]) t.type t.init
def expC (out : List UInt8) (t : ExpV) : List UInt8 := numC (textC out t.name.data.toList ++ one5 t.kind) t.index
def datC (out : List UInt8) (t : DatV) : List UInt8 := textC (constC (out ++ [0]) 127 t.offset) t.bytes.data.toList
def runC (out : List UInt8) (x : UInt8 × Nat) : List UInt8 := numC out x.2 ++ [x.1]
def tailC (shape : Int) (out : List UInt8) (x : InsV) : List UInt8 :=
  if shape = 1 then out ++ one5 x.a
  else if shape = 2 ∨ shape = 4 then numC out x.a
  else if shape = 3 then numC (listC numC out x.ls) x.a
  else if shape = 5 then numC (numC out x.a) x.b
  else if shape = 6 then out ++ [0]
  else if shape = 7 then out ++ putS x.a
  else out
def insC (out : List UInt8) (x : InsV) : List UInt8 := match byCode x.op with
  | none => out ++ one5 x.op
  | some r => tailC r.shape (out ++ one5 x.op) x
def bodyC (f : FnV) : List UInt8 := eachC insC (listC runC [] (grp f.locals.data.toList)) f.code
def codeC (out : List UInt8) (f : FnV) : List UInt8 := textC out (bodyC f)
def wholeC {α : Type} (F : List UInt8 → α → List UInt8) (l : List α) : List UInt8 := if l.length = 0 then [] else listC F [] l
def startC (n : Int) : List UInt8 := if n < 0 then [] else numC [] n
def sectC (out : List UInt8) (n : Int) (body : List UInt8) : List UInt8 := if body.length = 0 then out else textC (out ++ one5 n) body
def modC (m : MoV) : List UInt8 :=
  sectC (sectC (sectC (sectC (sectC (sectC (sectC (sectC [0, 97, 115, 109, 1, 0, 0, 0] 1 (wholeC typeC m.types)) 3 (wholeC funcC m.funcs)) 5 (wholeC memC m.memory)) 6 (wholeC globC m.globals)) 7 (wholeC expC m.exports)) 8 (startC m.start)) 10 (wholeC codeC m.funcs)) 11 (wholeC datC m.data)

theorem cap_each {α : Type} {F : List UInt8 → α → List UInt8} {g : α → List UInt8} : ∀ {l : List α} {b f : List UInt8}, (∀ x ∈ l, ∀ b f, Cap b f → Cap (F b x) (f ++ g x)) → Cap b f → Cap (eachC F b l) (f ++ l.flatMap g)
  | [], b, f, _, hc => by simpa [eachC] using hc
  | x :: l, b, f, h, hc => by
    rw [eachC_cons]
    by_cases hb : 1048576 < b.length
    · rw [if_pos hb]
      have := hc.long hb
      exact .inr ⟨hb, by rw [List.length_append]; omega⟩
    · rw [if_neg hb, List.flatMap_cons, ← List.append_assoc]
      exact cap_each (fun y hy => h y (by simp [hy])) (h x (by simp) b f hc)
theorem cap_text {b f s t : List UInt8} (h : Cap b f) (g : Cap s t) : Cap (textC b s) (f ++ txt5 t) := by
  unfold textC txt5
  rcases g with rfl | g
  · rw [List.append_assoc]
    refine h.app2 ((Cap.refl _).app2 ?_)
    by_cases hl : s.length ≤ 1048577
    · rw [List.take_of_length_le hl]; exact Cap.refl _
    · exact .inr ⟨by rw [List.length_take]; omega, by omega⟩
  · refine .inr ⟨?_, ?_⟩
    · simp only [List.length_append, List.length_take]; omega
    · simp only [List.length_append]; omega
theorem cap_num {b f : List UInt8} (h : Cap b f) (n : Int) : Cap (numC b n) (f ++ putU n) := h.app _
theorem cap_list {α : Type} {F : List UInt8 → α → List UInt8} {g : α → List UInt8} {l : List α} {b f : List UInt8} (h : ∀ x ∈ l, ∀ b f, Cap b f → Cap (F b x) (f ++ g x)) (hc : Cap b f) : Cap (listC F b l) (f ++ (putU l.length ++ l.flatMap g)) := by
  rw [← List.append_assoc]
  exact cap_each h (cap_num hc _)
theorem cap_type (t : TyV) {b f : List UInt8} (h : Cap b f) : Cap (typeC b t) (f ++ ty5 t) := by
  unfold typeC ty5
  rw [← List.append_assoc, ← List.append_assoc]
  exact cap_text (cap_text (h.app _) (Cap.refl _)) (Cap.refl _)
theorem cap_mem (t : MemV) (hr : rightMem t = true) {b f : List UInt8} (h : Cap b f) : Cap (memC b t) (f ++ mem5 t) := by
  unfold rightMem word4 at hr
  simp only [Bool.and_eq_true, Bool.or_eq_true, decide_eq_true_eq] at hr
  unfold memC mem5
  by_cases hm : t.max = -1
  · rw [if_pos hm, if_pos (by omega), ← List.append_assoc]
    exact cap_num (h.app _) _
  · rw [if_neg hm, if_neg (by omega), ← List.append_assoc, ← List.append_assoc]
    exact cap_num (cap_num (h.app _) _) _
theorem const_cap (kind n : Int) (hk : kind = 126 ∨ kind = 127) (b : List UInt8) : constC b kind n = b ++ const5 kind n := by
  unfold constC const5
  rcases hk with rfl | rfl <;> simp [one5]
theorem cap_glob (t : GlobV) (hr : rightGlob t = true) {b f : List UInt8} (h : Cap b f) : Cap (globC b t) (f ++ glob5 t) := by
  unfold rightGlob at hr
  simp only [Bool.and_eq_true, Bool.or_eq_true, decide_eq_true_eq] at hr
  unfold globC glob5
  rw [const_cap _ _ (by omega), ← List.append_assoc]
  refine Cap.app ?_ _
  rw [show ([UInt8.ofNat (t.type % 256).toNat, if t.may then 1 else 0] : List UInt8) = one5 t.type ++ [if t.may then 1 else 0] from rfl]
  exact h.app _
theorem cap_exp (t : ExpV) {b f : List UInt8} (h : Cap b f) : Cap (expC b t) (f ++ exp5 t) := by
  unfold expC exp5
  rw [← List.append_assoc, ← List.append_assoc]
  exact cap_num ((cap_text h (Cap.refl _)).app _) _
theorem cap_dat (t : DatV) {b f : List UInt8} (h : Cap b f) : Cap (datC b t) (f ++ dat5 t) := by
  unfold datC dat5
  rw [const_cap _ _ (by omega), ← List.append_assoc, ← List.append_assoc]
  exact cap_text ((h.app _).app _) (Cap.refl _)
theorem cap_ins (x : InsV) (hr : rightIns x = true) {b f : List UInt8} (h : Cap b f) : Cap (insC b x) (f ++ ins5 x) := by
  unfold insC ins5
  cases hby : byCode x.op with
  | none => unfold rightIns at hr; rw [hby] at hr; cases hr
  | some r =>
    simp only [hr, if_true]
    rw [← List.append_assoc]
    have h1 := h.app (one5 x.op)
    unfold tailC tail5
    split
    · exact h1.app _
    split
    · exact cap_num h1 _
    split
    · rw [← List.append_assoc]
      exact cap_num (cap_list (F := numC) (g := putU) (fun y _ _ _ hc => cap_num hc y) h1) _
    split
    · rw [← List.append_assoc]
      exact cap_num (cap_num h1 _) _
    split
    · exact h1.app _
    split
    · exact h1.app _
    · simpa using h1
theorem cap_runs (s : List UInt8) : Cap (listC runC [] (grp s)) (runs5 s) := by
  have := cap_list (F := runC) (g := fun x : UInt8 × Nat => putU x.2 ++ [x.1]) (l := grp s) (fun x _ b f hc => by
    unfold runC
    rw [← List.append_assoc]
    exact (cap_num hc _).app _) (Cap.refl [])
  simpa [runs5] using this
theorem cap_body (f : FnV) (hr : f.code.all rightIns = true) : Cap (bodyC f) (runs5 f.locals.data.toList ++ f.code.flatMap ins5) :=
  cap_each (fun x hx _ _ hc => cap_ins x (List.all_eq_true.1 hr x hx) hc) (cap_runs _)
theorem cap_code (t : FnV) (hr : rightFn t = true) {b f : List UInt8} (h : Cap b f) : Cap (codeC b t) (f ++ code5 t) := by
  unfold rightFn at hr
  simp only [Bool.and_eq_true] at hr
  exact cap_text h (cap_body t hr.1)
theorem cap_sect {α : Type} {F : List UInt8 → α → List UInt8} {g : α → List UInt8} {l : List α} (id : Int) {b f : List UInt8} (h : ∀ x ∈ l, ∀ b f, Cap b f → Cap (F b x) (f ++ g x)) (hc : Cap b f) : Cap (sectC b id (wholeC F l)) (f ++ sect5 id l.length (l.flatMap g)) := by
  unfold wholeC sect5
  by_cases hl : l.length = 0
  · rw [if_pos hl, if_pos hl]; simpa [sectC] using hc
  · rw [if_neg hl, if_neg hl]
    have h1 : Cap (listC F [] l) (putU l.length ++ l.flatMap g) := by simpa using cap_list h (Cap.refl [])
    have hn := h1.ne (by intro e; have := congrArg List.length e; have h2 := putU_ne (l.length : Int); rw [List.length_append] at this; cases hp : putU (l.length : Int) <;> simp_all)
    unfold sectC
    rw [if_neg (by intro e; exact hn (List.eq_nil_of_length_eq_zero e)), ← List.append_assoc]
    exact cap_text (hc.app _) h1
theorem cap_start (n : Int) (hr : n = -1 ∨ word4 n = true) {b f : List UInt8} (hc : Cap b f) : Cap (sectC b 8 (startC n)) (f ++ start5 n) := by
  unfold startC start5
  unfold word4 at hr
  simp only [decide_eq_true_eq] at hr
  by_cases hn : n = -1
  · rw [if_pos hn, if_pos (by omega)]; simpa [sectC] using hc
  · rw [if_neg hn, if_neg (by omega)]
    unfold sectC numC
    rw [if_neg (by have h2 := putU_ne n; cases hp : putU n <;> simp_all), ← List.append_assoc]
    exact cap_text (hc.app _) (by simpa using Cap.refl _)
theorem cap_mod (m : MoV) (hr : rightMod m = true) : Cap (modC m) (mod5 m) := by
  unfold rightMod at hr
  simp only [Bool.and_eq_true, decide_eq_true_eq] at hr
  obtain ⟨hfew, r1, r2, r3, r4, r5, r6⟩ := hr
  unfold modC mod5
  refine cap_sect 11 (fun x hx _ _ hc => cap_dat x hc) ?_
  refine cap_sect 10 (fun x hx _ _ hc => cap_code x (List.all_eq_true.1 r2 x hx) hc) ?_
  refine cap_start _ hfew.2.2.2.2.2.2 ?_
  refine cap_sect 7 (fun x hx _ _ hc => cap_exp x hc) ?_
  refine cap_sect 6 (fun x hx _ _ hc => cap_glob x (List.all_eq_true.1 r4 x hx) hc) ?_
  refine cap_sect 5 (fun x hx _ _ hc => cap_mem x (List.all_eq_true.1 r3 x hx) hc) ?_
  refine cap_sect 3 (fun x hx _ _ hc => cap_num hc _) ?_
  exact cap_sect 1 (fun x hx _ _ hc => cap_type x hc) (Cap.refl _)

/-! How long what is made can be. -/
def Adds {α : Type} (F : List UInt8 → α → List UInt8) (K : Nat) (x : α) : Prop := ∀ out, out.length ≤ 1048576 → (F out x).length ≤ 1048576 + K
theorem each_len {α : Type} {F : List UInt8 → α → List UInt8} {K : Nat} : ∀ {l : List α} {b : List UInt8}, (∀ x ∈ l, Adds F K x) → (eachC F b l).length ≤ max b.length (1048576 + K)
  | [], b, _ => by simp [eachC]; omega
  | x :: l, b, h => by
    rw [eachC_cons]
    by_cases hb : 1048576 < b.length
    · rw [if_pos hb]; omega
    · rw [if_neg hb]
      have h1 := h x (by simp) b (by omega)
      have h2 := each_len (l := l) (b := F b x) (fun y hy => h y (by simp [hy]))
      omega
theorem text_len {b s : List UInt8} (hs : (s.length : Int) ≤ 18446744073709551615) : (textC b s).length ≤ b.length + 1048587 := by
  unfold textC
  simp only [List.length_append, List.length_take]
  have := putU_len10 (n := (s.length : Int)) (by omega) hs
  omega
theorem num_len {b : List UInt8} {n : Int} (h0 : 0 ≤ n) (h1 : n ≤ 18446744073709551615) : (numC b n).length ≤ b.length + 10 := by
  unfold numC
  rw [List.length_append]
  have := putU_len10 h0 h1
  omega
theorem const_len {b : List UInt8} {k n : Int} (h0 : -9223372036854775808 ≤ n) (h1 : n ≤ 9223372036854775807) : (constC b k n).length ≤ b.length + 12 := by
  unfold constC
  simp only [List.length_append, List.length_cons, List.length_nil]
  have := putS_len10 h0 h1
  omega
/-- What a module has: its bytes, or the error. -/
def ans5 (m : MoV) : List UInt8 × Int := if rightMod m then (if 1048576 < (mod5 m).length then ([], 5) else (mod5 m, 0)) else ([], 1)
theorem ans_cap (m : MoV) (hr : rightMod m = true) : ans5 m = if 1048576 < (modC m).length then ([], 5) else (modC m, 0) := by
  unfold ans5
  rw [if_pos hr]
  rcases cap_mod m hr with h | h
  · rw [h]
  · rw [if_pos h.1, if_pos h.2]
end Go.Proofs.YtpamchagidnijaaGreatDoor
