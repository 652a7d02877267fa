/-
  Code of blocks in one another, as lists, and gone through. Plain; and where it lies. No statement is proved here.
-/
import Derived.Test.YtomffpibdinkaaaGreatDoorValidAlignsWalk
namespace Go.Proofs.YtomffpibdinkaaaGreatDoor
open Go.RowKit Go.Maps
set_option linter.unusedVariables false
set_option linter.unusedSimpArgs false

/-- So many blocks and loops are opened. -/
def opF : Nat → List PI
  | 0 => []
  | k + 1 => opF k ++ [⟨2 + (k : Int) % 2, 64, 0⟩]
/-- So many ends. -/
def endF : Nat → List PI
  | 0 => []
  | k + 1 => endF k ++ [⟨11, 0, 0⟩]
theorem opF_len : ∀ k, (opF k).length = k
  | 0 => rfl
  | k + 1 => by rw [opF, List.length_append, opF_len k]; rfl
theorem endF_rep : ∀ k, endF k = List.replicate k ⟨11, 0, 0⟩
  | 0 => rfl
  | k + 1 => by rw [endF, endF_rep k, List.replicate_succ']
theorem endF_len (k : Nat) : (endF k).length = k := by rw [endF_rep, List.length_replicate]
theorem opF_mem : ∀ (k : Nat) (x : PI), x ∈ opF k → x = ⟨2, 64, 0⟩ ∨ x = ⟨3, 64, 0⟩
  | 0, x, h => by cases h
  | k + 1, x, h => by
    rcases List.mem_append.1 h with h | h
    · exact opF_mem k x h
    · rw [List.mem_singleton.1 h]
      have : (k : Int) % 2 = 0 ∨ (k : Int) % 2 = 1 := by omega
      rcases this with e | e <;> rw [e]
      · exact .inl rfl
      · exact .inr rfl
theorem endF_mem (k : Nat) (x : PI) (h : x ∈ endF k) : x = ⟨11, 0, 0⟩ := by
  rw [endF_rep] at h
  exact (List.mem_replicate.1 h).2
/-- What is open then. -/
def opsOn : Nat → List Int
  | 0 => []
  | k + 1 => (2 + (k : Int) % 2) :: opsOn k
theorem opsOn_len : ∀ k, (opsOn k).length = k
  | 0 => rfl
  | k + 1 => by rw [opsOn, List.length_cons, opsOn_len k]
theorem two_three (k : Nat) : 2 + (k : Int) % 2 = 2 ∨ 2 + (k : Int) % 2 = 3 := by omega
theorem runs_opF : ∀ (k : Nat) (t st : List Int), runs ((opF k).map PI.op ++ t) st = runs t (opsOn k ++ st)
  | 0, t, st => rfl
  | k + 1, t, st => by
    rw [opF, List.map_append, List.append_assoc, runs_opF k]
    show runs ((2 + (k : Int) % 2) :: t) (opsOn k ++ st) = _
    rw [opsOn]
    rcases two_three k with e | e <;> rw [e] <;> rfl
theorem runs_ends : ∀ (j : Nat) (st : List Int), st.length = j → runs ((List.replicate (j + 1) (⟨11, 0, 0⟩ : PI)).map PI.op) st = true
  | 0, st, h => by
    have : st = [] := List.eq_nil_of_length_eq_zero h
    subst this
    rfl
  | j + 1, st, h => by
    match st, h with
    | t :: st, h =>
      rw [List.replicate_succ, List.map_cons]
      show runs (11 :: (List.replicate (j + 1) (⟨11, 0, 0⟩ : PI)).map PI.op) (t :: st) = true
      exact runs_ends j st (by simpa using h)
theorem nest_opF : ∀ (k : Nat) (t : List Int) (c g : Int), 0 ≤ c → c ≤ g → nest7 ((opF k).map PI.op ++ t) c g = nest7 t (c + k) (max g (c + k))
  | 0, t, c, g, h0, h => by
    show nest7 t c g = nest7 t (c + ((0 : Nat) : Int)) (max g (c + ((0 : Nat) : Int)))
    rw [show c + ((0 : Nat) : Int) = c by omega, show max g c = g by omega]
  | k + 1, t, c, g, h0, h => by
    rw [opF, List.map_append, List.append_assoc, nest_opF k _ c g h0 h]
    show nest7 ((2 + (k : Int) % 2) :: t) (c + k) (max g (c + k)) = _
    rw [nest7, if_pos (by rcases two_three k with e | e <;> rw [e] <;> simp)]
    rw [show c + (k : Int) + 1 = c + ((k + 1 : Nat) : Int) by omega]
    congr 1
    omega
theorem nest_ends : ∀ (j : Nat) (c g : Int), nest7 ((List.replicate j (⟨11, 0, 0⟩ : PI)).map PI.op) c g = g
  | 0, c, g => rfl
  | j + 1, c, g => by
    rw [List.replicate_succ, List.map_cons]
    show nest7 (11 :: (List.replicate j (⟨11, 0, 0⟩ : PI)).map PI.op) c g = g
    rw [nest7, if_neg (by decide), if_pos rfl]
    exact nest_ends j (c - 1) g
/-- Frames of blocks without a result. -/
def plainF (l : List FrV) : Prop := ∀ b ∈ l, b.result = [] ∧ b.height = 0 ∧ b.code ≠ 4
def frsOn (o : List FrV) : Nat → List FrV
  | 0 => o
  | k + 1 => ⟨2 + (k : Int) % 2, [], 0, false⟩ :: frsOn o k
theorem frsOn_len (o : List FrV) : ∀ k, (frsOn o k).length = o.length + k
  | 0 => rfl
  | k + 1 => by rw [frsOn, List.length_cons, frsOn_len o k]; omega
theorem frsOn_plain {o : List FrV} (h : plainF o) : ∀ k, plainF (frsOn o k)
  | 0 => h
  | k + 1 => fun b hb => by
    rcases List.mem_cons.1 hb with rfl | hb
    · exact ⟨rfl, rfl, by show (2 + (k : Int) % 2) ≠ 4; omega⟩
    · exact frsOn_plain h k b hb
theorem vrun_opF (c : VC) (o : List FrV) : ∀ (k : Nat) (t : List InsV), vrun c ((opF k).map insOf ++ t) ⟨[], o, false⟩ = vrun c t ⟨[], frsOn o k, false⟩
  | 0, t => rfl
  | k + 1, t => by
    rw [opF, List.map_append, List.append_assoc, vrun_opF c o k]
    show vrun c (insOf ⟨2 + (k : Int) % 2, 64, 0⟩ :: t) ⟨[], frsOn o k, false⟩ = _
    rw [frsOn]
    rcases two_three k with e | e <;> rw [e] <;> rfl
theorem vrun_ends (c : VC) : ∀ (o : List FrV), plainF o → (vrun c ((List.replicate o.length (⟨11, 0, 0⟩ : PI)).map insOf) ⟨[], o, false⟩).wrong = false
  | [], _ => rfl
  | b :: o, h => by
    obtain ⟨h1, h2, h3⟩ := h b List.mem_cons_self
    rw [List.length_cons, List.replicate_succ, List.map_cons]
    have hs : vstep c (insOf ⟨11, 0, 0⟩) ⟨[], b :: o, false⟩ = ⟨[], o, false⟩ := by
      obtain ⟨code, result, height, dead⟩ := b
      simp only at h1 h2 h3
      subst h1 h2
      have hc : (code != 4) = true := by simp [bne, h3]
      show (VS.put (VS.ask _ (code != 4 || true)) []) = _
      simp [VS.put, VS.ask, VS.leave, VS.take, takeL, VS.inner]
    rw [vrun, hs, if_neg (fun h => by cases h)]
    exact vrun_ends c o fun x hx => h x (List.mem_cons_of_mem _ hx)
/-- A branch to one of the blocks, or to none. -/
theorem vstep_br (c : VC) (o : List FrV) (h : plainF o) (hne : o ≠ []) (n : Nat) : (n < o.length → ∃ o', plainF o' ∧ o'.length = o.length ∧ vstep c (insOf ⟨12, n, 0⟩) ⟨[], o, false⟩ = ⟨[], o', false⟩) ∧ (¬ n < o.length → (vstep c (insOf ⟨12, n, 0⟩) ⟨[], o, false⟩).wrong = true) := by
  have e : vstep c (insOf ⟨12, n, 0⟩) ⟨[], o, false⟩ = ((VS.label ⟨[], o, false⟩ n).2.take (VS.label ⟨[], o, false⟩ n).1).kill := rfl
  refine ⟨fun hn => ?_, fun hn => ?_⟩
  · obtain ⟨b, o2, rfl⟩ : ∃ b o2, o = b :: o2 := by
      cases o with
      | nil => exact absurd rfl hne
      | cons b o2 => exact ⟨b, o2, rfl⟩
    have hl : VS.label ⟨[], b :: o2, false⟩ n = ([], ⟨[], b :: o2, false⟩) := by
      unfold VS.label
      rw [if_pos (by simp only; omega)]
      simp only [Int.toNat_natCast, List.getElem?_eq_getElem hn]
      have hr := (h _ (List.getElem_mem hn)).1
      simp only [hr, ite_self]
    rw [e, hl]
    refine ⟨{ b with dead := true } :: o2, fun x hx => ?_, rfl, ?_⟩
    · rcases List.mem_cons.1 hx with rfl | hx
      · exact h b List.mem_cons_self
      · exact h x (List.mem_cons_of_mem _ hx)
    · show VS.kill (VS.take ⟨[], b :: o2, false⟩ []) = _
      simp [VS.take, takeL, VS.kill]
  · have hl : VS.label ⟨[], o, false⟩ n = ([], ⟨[], o, true⟩) := by
      unfold VS.label
      rw [if_neg (by simp only; omega)]
      rfl
    rw [e, hl]
    show (VS.kill (VS.take ⟨[], o, true⟩ [])).wrong = true
    cases o with
    | nil => rfl
    | cons b o2 => rfl
/-! ### What the chapter says of a function whose code this is -/
def blF (p : Option Addr) (c : Nat) (code : List PI) : FnV := ⟨0, ⟨#[]⟩, p, c, code.map insOf⟩
theorem ops_ins (code : List PI) : opsOf (code.map insOf) = code.map PI.op := by
  unfold opsOf
  rw [List.map_map]
  rfl
theorem bl_right (T p : Option Addr) (c : Nat) (code : List PI) (h1 : ∀ x ∈ code, rightIns (insOf x) = true) (h2 : runs (code.map PI.op) [] = true) : rightMod (alone7 (alMod T none 0 []) (blF p c code) 0) = true := by
  have hf : rightFn (blF p c code) = true := by
    show ((code.map insOf).all rightIns && (word4 0 && vtypes [] 4096 && runs (opsOf (code.map insOf)) [])) = true
    rw [ops_ins, h2]
    have : (code.map insOf).all rightIns = true := by
      rw [List.all_eq_true]
      intro y hy
      obtain ⟨x, hx, rfl⟩ := List.mem_map.1 hy
      exact h1 x hx
    rw [this]
    rfl
  show (decide (fewMod _) && ([(⟨⟨#[]⟩, ⟨#[]⟩⟩ : TyV)].all rightTy && ([blF p c code].all rightFn && (([] : List MemV).all rightMem && (([] : List GlobV).all rightGlob && (([] : List ExpV).all rightExp && ([] : List DatV).all rightDat)))))) = true
  rw [show [blF p c code].all rightFn = true by simp [hf]]
  have hfew : fewMod (alone7 (alMod T none 0 []) (blF p c code) 0) := ⟨by show 1 ≤ 4096; decide, by show 1 ≤ 4096; decide, by show 0 ≤ 4096; decide, by show 0 ≤ 4096; decide, by show 0 ≤ 4096; decide, by show 0 ≤ 4096; decide, .inl rfl⟩
  rw [decide_eq_true hfew]
  rfl
def o7 : List FrV := [⟨2, [], 0, false⟩]
theorem o7_plain : plainF o7 := fun b hb => by cases List.mem_singleton.1 hb; exact ⟨rfl, rfl, by decide⟩
theorem bl_valid (T p : Option Addr) (c : Nat) (code : List PI) : validFn (alMod T none 0 []) (blF p c code) = !(vrun ⟨alMod T none 0 [], [], []⟩ (code.map insOf) ⟨[], o7, false⟩).wrong := rfl
theorem r_open : rightIns (insOf ⟨2, 64, 0⟩) = true ∧ rightIns (insOf ⟨3, 64, 0⟩) = true ∧ rightIns (insOf ⟨11, 0, 0⟩) = true := ⟨by kernel_rfl, by kernel_rfl, by kernel_rfl⟩
theorem r_br (n : Nat) (h : n < 24) : rightIns (insOf ⟨12, n, 0⟩) = true := by
  have : ∀ n : Fin 24, rightIns (insOf ⟨12, (n.val : Int), 0⟩) = true := by decide +kernel
  exact this ⟨n, h⟩
theorem nests_right (k : Nat) : ∀ x ∈ opF k ++ endF (k + 1), rightIns (insOf x) = true := fun x hx => by
  rcases List.mem_append.1 hx with h | h
  · rcases opF_mem k x h with rfl | rfl
    · exact r_open.1
    · exact r_open.2.1
  · rw [endF_mem _ x h]
    exact r_open.2.2
theorem nests_nest (k : Nat) : nest7 ((opF k ++ endF (k + 1)).map PI.op) 0 0 = k := by
  rw [List.map_append, nest_opF k _ 0 0 (Int.le_refl _) (Int.le_refl _), endF_rep, nest_ends]
  omega
theorem nests_ans (T p : Option Addr) (c k : Nat) : funcAns (alMod T none 0 []) (blF p c (opF k ++ endF (k + 1))) = if k ≤ 256 then 0 else 5 := by
  unfold funcAns
  have hr : runs ((opF k ++ endF (k + 1)).map PI.op) [] = true := by
    rw [List.map_append, runs_opF, endF_rep]
    exact runs_ends k _ (by rw [List.append_nil, opsOn_len])
  rw [if_pos (bl_right T p c _ (nests_right k) hr)]
  have hd : deep7 (blF p c (opF k ++ endF (k + 1))) = decide (256 < k) := by
    unfold deep7 blF
    simp only
    rw [ops_ins, nests_nest]
    exact decide_eq_decide.2 (by omega)
  rw [hd]
  by_cases h : k ≤ 256
  · rw [if_pos h, if_neg (by simp; omega), if_pos]
    rw [bl_valid, List.map_append, vrun_opF, endF_rep]
    have := vrun_ends ⟨alMod T none 0 [], [], []⟩ (frsOn o7 k) (frsOn_plain o7_plain k)
    rw [frsOn_len, show o7.length + k = k + 1 by show 1 + k = k + 1; omega] at this
    rw [this]
    rfl
  · rw [if_neg h, if_pos (by simp; omega)]
theorem labels_right (k n : Nat) (hn : n < 24) : ∀ x ∈ opF k ++ [⟨12, n, 0⟩] ++ endF (k + 1), rightIns (insOf x) = true := fun x hx => by
  rcases List.mem_append.1 hx with h | h
  · rcases List.mem_append.1 h with h | h
    · exact nests_right k x (List.mem_append_left _ h)
    · rw [List.mem_singleton.1 h]
      exact r_br n hn
  · exact nests_right k x (List.mem_append_right _ h)
theorem labels_ans (T p : Option Addr) (c k n : Nat) (hk : k < 20) (hn : n < 24) : funcAns (alMod T none 0 []) (blF p c (opF k ++ [⟨12, n, 0⟩] ++ endF (k + 1))) = if n ≤ k then 0 else 4 := by
  unfold funcAns
  have hr : runs ((opF k ++ [(⟨12, n, 0⟩ : PI)] ++ endF (k + 1)).map PI.op) [] = true := by
    rw [List.map_append, List.map_append, List.append_assoc, runs_opF, endF_rep]
    exact runs_ends k _ (by rw [List.append_nil, opsOn_len])
  rw [if_pos (bl_right T p c _ (labels_right k n hn) hr)]
  have hd : deep7 (blF p c (opF k ++ [⟨12, n, 0⟩] ++ endF (k + 1))) = false := by
    unfold deep7 blF
    simp only
    rw [ops_ins, List.map_append, List.map_append, List.append_assoc, nest_opF k _ 0 0 (Int.le_refl _) (Int.le_refl _)]
    show decide (256 < nest7 (12 :: (endF (k + 1)).map PI.op) (0 + k) (max 0 (0 + k))) = false
    rw [nest7, if_neg (by decide), if_neg (by decide), endF_rep, nest_ends]
    exact decide_eq_false (by omega)
  rw [hd, if_neg (by decide)]
  have hfl : (frsOn o7 k).length = k + 1 := by rw [frsOn_len]; show 1 + k = k + 1; omega
  obtain ⟨y1, y2⟩ := vstep_br ⟨alMod T none 0 [], [], []⟩ (frsOn o7 k) (frsOn_plain o7_plain k) (fun e => by rw [e] at hfl; cases hfl) n
  rw [hfl] at y1 y2
  have hv : validFn (alMod T none 0 []) (blF p c (opF k ++ [⟨12, n, 0⟩] ++ endF (k + 1))) = !(vrun ⟨alMod T none 0 [], [], []⟩ (insOf ⟨12, n, 0⟩ :: (endF (k + 1)).map insOf) ⟨[], frsOn o7 k, false⟩).wrong := by
    rw [bl_valid, List.map_append, List.map_append, List.append_assoc, vrun_opF]
    rfl
  rw [hv]
  by_cases h : n ≤ k
  · obtain ⟨o', p1, p2, p3⟩ := y1 (by omega)
    have e1 : vrun ⟨alMod T none 0 [], [], []⟩ (insOf ⟨12, n, 0⟩ :: (endF (k + 1)).map insOf) ⟨[], frsOn o7 k, false⟩ = vrun ⟨alMod T none 0 [], [], []⟩ ((endF (k + 1)).map insOf) ⟨[], o', false⟩ := by
      rw [vrun, p3]
      exact if_neg (fun h => by cases h)
    have e2 := vrun_ends ⟨alMod T none 0 [], [], []⟩ o' p1
    rw [p2] at e2
    rw [e1, endF_rep, e2, if_pos h]
    rfl
  · have hw := y2 (by omega)
    have e1 : (vrun ⟨alMod T none 0 [], [], []⟩ (insOf ⟨12, n, 0⟩ :: (endF (k + 1)).map insOf) ⟨[], frsOn o7 k, false⟩).wrong = true := by
      rw [vrun, if_pos hw]
      exact hw
    rw [e1, if_neg h]
    rfl
/-! ### Where such code lies -/
theorem code_own {w : World} {lo cap : Nat} {p : Option Addr} {code : List PI} (h : w.ownsRow lo 38 4 (.slice p code.length cap) code.length (codeCells code)) (hr : ∀ x ∈ code, inI64 x.op ∧ inI64 x.a ∧ inI64 x.b) (hl : code.length ≤ 4398046511104) : CodeAt w p (code.map insOf) := by
  refine ⟨rows_own (n := code.length) (cap := cap) (lo := lo) (t := 38) ?_ (by simp) (fun x _ => rfl), fun x hx => ?_, by simpa using hl⟩
  · rw [code_cells]
    exact h
  · obtain ⟨y, hy, rfl⟩ := List.mem_map.1 hx
    obtain ⟨h1, h2, h3⟩ := hr y hy
    exact ⟨fun j hj => absurd hj (by simp [insOf]), by show (0 : Nat) ≤ _; exact Nat.zero_le _, h1, h2, h3, fun n hn => by cases hn⟩
end Go.Proofs.YtomffpibdinkaaaGreatDoor
