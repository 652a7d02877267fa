/-
  A program that goes by its stack is gone through without a fault, and what package valid answers of its module with another part. Plain; no program is looked at.
-/
import Derived.Test.YtomffpibdinkaaaGreatDoorValFunc
import Derived.Test.YtomffpibdinkaaaGreatDoorValMod

namespace Go.Proofs.YtomffpibdinkaaaGreatDoor
open Go.RowKit
set_option linter.unusedVariables false
set_option linter.unusedSimpArgs false

def u8T (k : Int) : UInt8 := if k = 126 then 126 else 127
def frOf (o : PO) : FrV := ⟨o.op, answer7 o.result, o.height, false⟩
def frs (l : List PO) : List FrV := l.reverse.map frOf ++ [⟨2, [126], 0, false⟩]
/-- What the walk holds where the program holds this. -/
def vsOf (t : PS) : VS := ⟨(t.stack.map u8T).reverse, frs t.opens, false⟩
def ctx7 (m : MoV) : VC := ⟨m, [126, 127, 127, 126], [126]⟩
/-- The module that such programs are put into. -/
structure Home (m : MoV) : Prop where
  mem : 0 < m.memory.length
  glob : ∃ i0 i1, m.globals = [⟨127, true, i0⟩, ⟨126, true, i1⟩]
structure OkS (t : PS) : Prop where
  st : ∀ k ∈ t.stack, k = 126 ∨ k = 127
  op : ∀ o ∈ t.opens, (o.op = 2 ∨ o.op = 3 ∨ (o.op = 4 ∨ o.op = 5) ∧ o.result = 64) ∧ (o.result = 64 ∨ o.result = 126 ∨ o.result = 127)
  sorted : t.opens.Pairwise fun a b => a.height ≤ b.height
  under : ∀ o ∈ t.opens, o.height ≤ t.stack.length
def startP : VS := ⟨[], [⟨2, [126], 0, false⟩], false⟩
/-- The program's code, gone through, leaves what it says. -/
structure Sim (m : MoV) (t : PS) : Prop where
  ok : OkS t
  go : ∀ rest, vrun (ctx7 m) (t.code.map insOf ++ rest) startP = vrun (ctx7 m) rest (vsOf t)
variable {m : MoV} {t : PS}

theorem Sim.begin (m : MoV) : Sim m ⟨[], [], []⟩ := ⟨⟨(fun k h => by cases h), (fun o h => by cases h), List.Pairwise.nil, (fun o h => by cases h)⟩, fun rest => rfl⟩
theorem Sim.ins (h : Sim m t) (x : PI) {t' : PS} (hc : t'.code = t.code ++ [x]) (hok : OkS t') (hv : vstep (ctx7 m) (insOf x) (vsOf t) = vsOf t') : Sim m t' := by
  refine ⟨hok, fun rest => ?_⟩
  rw [hc, List.map_append, List.append_assoc, h.go]
  show vrun (ctx7 m) (insOf x :: rest) (vsOf t) = _
  rw [vrun, hv]
  exact if_neg (fun h => by cases h)
theorem inner_of (t : PS) : (vsOf t).inner = match t.opens.getLast? with | none => ⟨2, [126], 0, false⟩ | some o => frOf o := by
  unfold VS.inner vsOf frs
  simp only
  cases hl : t.opens.getLast? with
  | none =>
    have : t.opens = [] := List.getLast?_eq_none_iff.1 hl
    rw [this]
    rfl
  | some o =>
    obtain ⟨l, hl2⟩ := List.getLast?_eq_some_iff.1 hl
    rw [hl2, List.reverse_append]
    rfl
theorem inner_dead (t : PS) : (vsOf t).inner.dead = false := by
  rw [inner_of]
  cases t.opens.getLast? <;> rfl
theorem inner_height (t : PS) : (vsOf t).inner.height = topHeight t := by
  rw [inner_of]
  unfold topHeight
  cases t.opens.getLast? <;> rfl
theorem len_of (t : PS) : (vsOf t).stack.length = t.stack.length := by simp [vsOf]
theorem takeAny_of (st : List Int) (k : Int) (hst : t.stack = st ++ [k]) (hh : topHeight t ≤ st.length) : (vsOf t).takeAny = (u8T k, vsOf { t with stack := st }) := by
  unfold VS.takeAny
  rw [inner_height, len_of, hst, List.length_append, List.length_singleton, if_neg (by omega)]
  simp [vsOf, hst]
theorem take_of7 : ∀ (r : List Int) (t : PS) (st : List Int), t.stack = st ++ r.reverse → topHeight t ≤ st.length → takeL (r.map u8T) (vsOf t) = vsOf { t with stack := st }
  | [], t, st, h, hh => by
    have : t.stack = st := by simpa using h
    rw [List.map_nil, takeL, ← this]
  | k :: r, t, st, h, hh => by
    have h2 : t.stack = (st ++ r.reverse) ++ [k] := by rw [h, List.reverse_cons, List.append_assoc]
    have ht := takeAny_of (t := t) (st ++ r.reverse) k h2 (by rw [List.length_append]; omega)
    rw [List.map_cons, takeL]
    have he : (vsOf t).endless = false := by
      unfold VS.endless
      rw [inner_dead]
      rfl
    rw [he, if_neg (fun h => by cases h), ht]
    have ha : (vsOf { t with stack := st ++ r.reverse }).ask (u8T k == u8T k || u8T k == 0) = vsOf { t with stack := st ++ r.reverse } := by
      simp [VS.ask, vsOf]
    simp only
    rw [ha]
    exact take_of7 r { t with stack := st ++ r.reverse } st rfl hh
/-- Types are taken that stand on top. -/
theorem takes (st ks : List Int) (hst : t.stack = st ++ ks) (hh : topHeight t ≤ st.length) : (vsOf t).take (ks.map u8T) = vsOf { t with stack := st } := by
  unfold VS.take
  rw [← List.map_reverse]
  exact take_of7 ks.reverse t st (by rw [List.reverse_reverse]; exact hst) hh
theorem puts (t : PS) (rs : List Int) : (vsOf t).put (rs.map u8T) = vsOf { t with stack := t.stack ++ rs } := by
  simp [VS.put, vsOf]
/-! ### Instructions that only take and put -/
def special7 : List Int := [0, 2, 3, 4, 5, 11, 12, 13, 14, 15, 16, 26, 27, 32, 33, 34, 35, 36]
def plainB (op : Int) (ps rs : List UInt8) : Bool := !special7.contains op && match byCode op with
  | some r => decide (r.shape ≠ 5 ∧ r.shape ≠ 6) && decide (r.params.data.toList = ps) && decide (r.results.data.toList = rs)
  | none => false
def plainM (op pw : Int) (ps rs : List UInt8) : Bool := !special7.contains op && decide (power7 op = pw) && match byCode op with
  | some r => decide (r.shape = 5 ∨ r.shape = 6) && decide (r.params.data.toList = ps) && decide (r.results.data.toList = rs)
  | none => false
theorem not_special {op : Int} (h : special7.contains op = false) : ¬ op = 0 ∧ ¬ (op = 2 ∨ op = 3) ∧ ¬ op = 4 ∧ ¬ op = 5 ∧ ¬ op = 11 ∧ ¬ op = 12 ∧ ¬ op = 13 ∧ ¬ op = 14 ∧ ¬ op = 15 ∧ ¬ op = 16 ∧ ¬ op = 26 ∧ ¬ op = 27 ∧ ¬ op = 32 ∧ ¬ op = 33 ∧ ¬ op = 34 ∧ ¬ op = 35 ∧ ¬ op = 36 := by
  have hn : ¬ op ∈ special7 := by simpa using h
  simp only [special7, List.mem_cons, List.not_mem_nil, or_false, not_or] at hn
  omega
theorem vstep_plain {op : Int} {ps rs : List UInt8} (h : plainB op ps rs = true) (c : VC) (a b : Int) (s : VS) : vstep c (insOf ⟨op, a, b⟩) s = (s.take ps).put rs := by
  unfold plainB at h
  simp only [Bool.and_eq_true, Bool.not_eq_true'] at h
  obtain ⟨h1, h2⟩ := h
  obtain ⟨n0, n1, n2, n3, n4, n5, n6, n7, n8, n9, n10, n11, n12, n13, n14, n15, n16⟩ := not_special h1
  cases hb : byCode op with
  | none => rw [hb] at h2; cases h2
  | some r =>
    rw [hb] at h2
    simp only [Bool.and_eq_true, decide_eq_true_eq] at h2
    obtain ⟨⟨⟨s5, s6⟩, hp⟩, hr⟩ := h2
    unfold vstep insOf
    simp only [n0, n1, n2, n3, n4, n5, n6, n7, n8, n9, n10, n11, n12, n13, n14, n15, n16, if_false, hb, s5, s6, or_self, hp, hr]
theorem vstep_mem {op pw : Int} {ps rs : List UInt8} (h : plainM op pw ps rs = true) (m : MoV) (hm : Home m) (a b : Int) (ha : a ≤ pw) (s : VS) : vstep (ctx7 m) (insOf ⟨op, a, b⟩) s = (s.take ps).put rs := by
  unfold plainM at h
  simp only [Bool.and_eq_true, Bool.not_eq_true', decide_eq_true_eq] at h
  obtain ⟨⟨h1, hpw⟩, h2⟩ := h
  obtain ⟨n0, n1, n2, n3, n4, n5, n6, n7, n8, n9, n10, n11, n12, n13, n14, n15, n16⟩ := not_special h1
  cases hb : byCode op with
  | none => rw [hb] at h2; cases h2
  | some r =>
    rw [hb] at h2
    simp only [Bool.and_eq_true, decide_eq_true_eq] at h2
    obtain ⟨⟨s5, hp⟩, hr⟩ := h2
    have hask : s.ask (decide (0 < m.memory.length) && decide (a ≤ power7 op)) = s := by
      rw [hpw, decide_eq_true hm.mem, decide_eq_true ha]
      unfold VS.ask
      simp
    unfold vstep insOf
    simp only [n0, n1, n2, n3, n4, n5, n6, n7, n8, n9, n10, n11, n12, n13, n14, n15, n16, if_false, hb, s5, if_true, hp, hr]
    show ((s.ask (decide (0 < m.memory.length) && decide (a ≤ power7 op))).take ps).put rs = _
    rw [hask]
theorem OkS.restack (h : OkS t) (st : List Int) (hst : ∀ k ∈ st, k = 126 ∨ k = 127) (hh : topHeight t ≤ st.length) (code : List PI) : OkS { t with code := code, stack := st } := by
  refine ⟨hst, h.op, h.sorted, fun o ho => Nat.le_trans ?_ hh⟩
  unfold topHeight
  cases hl : t.opens.getLast? with
  | none =>
    have : t.opens = [] := List.getLast?_eq_none_iff.1 hl
    rw [this] at ho
    cases ho
  | some p =>
    obtain ⟨l, hl2⟩ := List.getLast?_eq_some_iff.1 hl
    have hs := h.sorted
    rw [hl2] at hs ho
    rcases List.mem_append.1 ho with e | e
    · exact (List.pairwise_append.1 hs).2.2 o e p (List.mem_singleton.2 rfl)
    · rw [List.mem_singleton.1 e]
      exact Nat.le_refl _
theorem OkS.top (h : OkS t) : topHeight t ≤ t.stack.length := by
  unfold topHeight
  cases hl : t.opens.getLast? with
  | none => exact Nat.zero_le _
  | some p => exact h.under p (List.mem_of_getLast? hl)
/-- An instruction that takes and puts. -/
theorem Sim.does (h : Sim m t) (x : PI) {ps rs : List UInt8} (hv : ∀ s, vstep (ctx7 m) (insOf x) s = (s.take ps).put rs) (st ks qs : List Int) (hst : t.stack = st ++ ks) (hh : topHeight t ≤ st.length) (hp : ks.map u8T = ps) (hr : qs.map u8T = rs) (hq : ∀ k ∈ qs, k = 126 ∨ k = 127) : Sim m { t with code := t.code ++ [x], stack := st ++ qs } := by
  refine h.ins x rfl (h.ok.restack _ (fun k hk => ?_) (by rw [List.length_append]; omega) _) ?_
  · rcases List.mem_append.1 hk with e | e
    · exact h.ok.st k (by rw [hst]; exact List.mem_append_left _ e)
    · exact hq k e
  · rw [hv, ← hp, takes st ks hst hh, ← hr, puts]
    rfl
end Go.Proofs.YtomffpibdinkaaaGreatDoor


namespace Go.Proofs.YtomffpibdinkaaaGreatDoor
open Go.RowKit
set_option linter.unusedVariables false
set_option linter.unusedSimpArgs false
variable {m : MoV} {t : PS}

/-! ### The instructions by themselves -/
theorem take_nil (s : VS) : s.take [] = s := rfl
theorem put_nil (s : VS) : s.put [] = s := rfl
theorem v_drop (c : VC) (a b : Int) (s : VS) : vstep c (insOf ⟨26, a, b⟩) s = s.takeAny.2 := by simp [vstep, insOf]
theorem v_get (m : MoV) (a b : Int) (k : UInt8) (h : (a = 0 ∧ k = 126) ∨ (a = 1 ∧ k = 127) ∨ (a = 2 ∧ k = 127) ∨ (a = 3 ∧ k = 126)) (s : VS) : vstep (ctx7 m) (insOf ⟨32, a, b⟩) s = (s.take []).put [k] := by
  rcases h with ⟨rfl, rfl⟩ | ⟨rfl, rfl⟩ | ⟨rfl, rfl⟩ | ⟨rfl, rfl⟩ <;> simp [vstep, insOf, local7, ctx7, take_nil]
theorem v_set (m : MoV) (a b : Int) (k : UInt8) (h : (a = 0 ∧ k = 126) ∨ (a = 1 ∧ k = 127) ∨ (a = 2 ∧ k = 127) ∨ (a = 3 ∧ k = 126)) (s : VS) : vstep (ctx7 m) (insOf ⟨33, a, b⟩) s = (s.take [k]).put [] := by
  rcases h with ⟨rfl, rfl⟩ | ⟨rfl, rfl⟩ | ⟨rfl, rfl⟩ | ⟨rfl, rfl⟩ <;> simp [vstep, insOf, local7, ctx7, put_nil]
theorem v_tee (m : MoV) (a b : Int) (k : UInt8) (h : (a = 0 ∧ k = 126) ∨ (a = 1 ∧ k = 127) ∨ (a = 2 ∧ k = 127) ∨ (a = 3 ∧ k = 126)) (s : VS) : vstep (ctx7 m) (insOf ⟨34, a, b⟩) s = (s.take [k]).put [k] := by
  rcases h with ⟨rfl, rfl⟩ | ⟨rfl, rfl⟩ | ⟨rfl, rfl⟩ | ⟨rfl, rfl⟩ <;> simp [vstep, insOf, local7, ctx7]
theorem v_gget (hm : Home m) (a b : Int) (k : UInt8) (h : (a = 0 ∧ k = 127) ∨ (a = 1 ∧ k = 126)) (s : VS) : vstep (ctx7 m) (insOf ⟨35, a, b⟩) s = (s.take []).put [k] := by
  obtain ⟨i0, i1, hg⟩ := hm.glob
  rcases h with ⟨rfl, rfl⟩ | ⟨rfl, rfl⟩ <;> simp [vstep, insOf, global7, ctx7, hg, take_nil, answer7]
theorem v_gset (hm : Home m) (b : Int) (s : VS) : vstep (ctx7 m) (insOf ⟨36, 1, b⟩) s = (s.take [126]).put [] := by
  obtain ⟨i0, i1, hg⟩ := hm.glob
  simp [vstep, insOf, global7, ctx7, hg, put_nil, answer7, VS.ask]
theorem u8T_126 : u8T 126 = 126 := rfl
theorem u8T_127 : u8T 127 = 127 := rfl
theorem b_const (k : Int) (hk : k = 126 ∨ k = 127) : plainB (192 - k) [] [u8T k] = true := by
  rcases hk with rfl | rfl <;> decide +kernel
theorem b_turn (k : Int) (hk : k = 126 ∨ k = 127) : plainB (if k = 127 then 167 else 173) [u8T (253 - k)] [u8T k] = true := by
  rcases hk with rfl | rfl <;> decide +kernel

/-- What stands on top, over what is under the block's own. -/
structure Tops (t : PS) (k : Int) (st : List Int) : Prop where
  stack : t.stack = st ++ [k]
  height : topHeight t ≤ st.length
theorem sim_want (h : Sim m t) (k : Int) (hk : k = 126 ∨ k = 127) : Sim m (wantF t k) ∧ (wantF t k).opens = t.opens ∧ ∃ st, Tops (wantF t k) k st ∧ st.take (topHeight t) = t.stack.take (topHeight t) := by
  unfold wantF
  split
  · next hh =>
    have h1 := h.does ⟨192 - k, 7, 0⟩ (fun s => vstep_plain (b_const k hk) _ _ _ s) t.stack [] [k] (by simp) (by omega) rfl rfl (fun x hx => by rw [List.mem_singleton.1 hx]; exact hk)
    exact ⟨h1, rfl, t.stack, ⟨rfl, Nat.le_of_eq hh⟩, rfl⟩
  · next hh =>
    have ht := h.ok.top
    cases hl : t.stack.getLast? with
    | none =>
      have : t.stack = [] := List.getLast?_eq_none_iff.1 hl
      rw [this] at hh ht
      exact absurd (Nat.le_zero.1 ht) hh
    | some x =>
      obtain ⟨st, hst⟩ := List.getLast?_eq_some_iff.1 hl
      have hlen : t.stack.length = st.length + 1 := by rw [hst, List.length_append]; rfl
      have htop : topHeight t ≤ st.length := by omega
      have htk : st.take (topHeight t) = t.stack.take (topHeight t) := by rw [hst, List.take_append_of_le_length htop]
      split
      · next hx =>
        injection hx with hx
        subst hx
        exact ⟨h, rfl, st, ⟨hst, htop⟩, htk⟩
      · next hx =>
        have hxm := h.ok.st x (by rw [hst]; simp)
        have hne : x = 253 - k := by
          have : ¬ x = k := fun e => hx (by rw [e])
          omega
        have h1 := h.does ⟨if k = 127 then 167 else 173, 0, 0⟩ (fun s => vstep_plain (b_turn k hk) _ _ _ s) st [253 - k] [k] (by rw [hst, hne]) htop rfl rfl (fun x hx => by rw [List.mem_singleton.1 hx]; exact hk)
        have hd : t.stack.dropLast = st := by rw [hst]; simp
        rw [hd]
        exact ⟨h1, rfl, st, ⟨rfl, htop⟩, htk⟩
/-- What is wanted, then one instruction more that takes it. -/
theorem Sim.on (h : Sim m t) {k : Int} {st : List Int} (hT : Tops t k st) (x : PI) (qs : List Int) (hv : ∀ s, vstep (ctx7 m) (insOf x) s = (s.take [u8T k]).put (qs.map u8T)) (hq : ∀ k ∈ qs, k = 126 ∨ k = 127) : Sim m { t with code := t.code ++ [x], stack := st ++ qs } :=
  h.does x hv st [k] qs hT.stack hT.height rfl rfl hq
theorem Sim.more (h : Sim m t) (x : PI) (qs : List Int) (hv : ∀ s, vstep (ctx7 m) (insOf x) s = (s.take []).put (qs.map u8T)) (hq : ∀ k ∈ qs, k = 126 ∨ k = 127) : Sim m { t with code := t.code ++ [x], stack := t.stack ++ qs } :=
  h.does x hv t.stack [] qs (by simp) h.ok.top rfl rfl hq
theorem Sim.drop (h : Sim m t) {k : Int} {st : List Int} (hT : Tops t k st) : Sim m { t with code := t.code ++ [⟨26, 0, 0⟩], stack := st } := by
  refine h.ins ⟨26, 0, 0⟩ rfl (h.ok.restack _ (fun k hk => h.ok.st k (by rw [hT.stack]; exact List.mem_append_left _ hk)) hT.height _) ?_
  rw [v_drop, takeAny_of st k hT.stack hT.height]
  rfl
/-! ### A level is put right -/
theorem sim_drops (h : Sim m t) : ∀ n, n + topHeight t ≤ t.stack.length → Sim m { t with code := t.code ++ reps n [⟨26, 0, 0⟩], stack := t.stack.take (t.stack.length - n) }
  | 0, _ => by
    have : ({ t with code := t.code ++ reps 0 [⟨26, 0, 0⟩], stack := t.stack.take (t.stack.length - 0) } : PS) = t := by
      rw [reps_zero, List.append_nil, Nat.sub_zero, List.take_length]
    rw [this]
    exact h
  | n + 1, hn => by
    have h1 := sim_drops h n (by omega)
    have hlt : t.stack.length - (n + 1) < t.stack.length := by omega
    have he : t.stack.take (t.stack.length - n) = t.stack.take (t.stack.length - (n + 1)) ++ [t.stack[t.stack.length - (n + 1)]] := by
      rw [show t.stack.length - n = t.stack.length - (n + 1) + 1 by omega, ← List.take_append_getElem hlt]
    have h2 := h1.drop (k := t.stack[t.stack.length - (n + 1)]) (st := t.stack.take (t.stack.length - (n + 1))) ⟨he, by rw [List.length_take]; show topHeight t ≤ _; omega⟩
    rw [reps_snoc, ← List.append_assoc]
    exact h2
theorem sim_unders (h : Sim m t) (k : Int) (hk : k = 126 ∨ k = 127) (st : List Int) (hT : Tops t k st) : ∀ n, n + topHeight t ≤ st.length → Sim m { t with code := t.code ++ reps n [⟨33, 129 - k, 0⟩, ⟨26, 0, 0⟩, ⟨32, 129 - k, 0⟩], stack := st.take (st.length - n) ++ [k] }
  | 0, _ => by
    have : ({ t with code := t.code ++ reps 0 [⟨33, 129 - k, 0⟩, ⟨26, 0, 0⟩, ⟨32, 129 - k, 0⟩], stack := st.take (st.length - 0) ++ [k] } : PS) = t := by
      rw [reps_zero, List.append_nil, Nat.sub_zero, List.take_length, ← hT.stack]
    rw [this]
    exact h
  | n + 1, hn => by
    have h1 := sim_unders h k hk st hT n (by omega)
    have hlt : st.length - (n + 1) < st.length := by omega
    have he : st.take (st.length - n) = st.take (st.length - (n + 1)) ++ [st[st.length - (n + 1)]] := by
      rw [show st.length - n = st.length - (n + 1) + 1 by omega, ← List.take_append_getElem hlt]
    have hloc : (129 - k = 0 ∧ u8T k = 126) ∨ (129 - k = 1 ∧ u8T k = 127) ∨ (129 - k = 2 ∧ u8T k = 127) ∨ (129 - k = 3 ∧ u8T k = 126) := by
      rcases hk with rfl | rfl
      · exact Or.inr (Or.inr (Or.inr ⟨rfl, rfl⟩))
      · exact Or.inr (Or.inr (Or.inl ⟨rfl, rfl⟩))
    have h2 := h1.on (k := k) (st := st.take (st.length - n)) ⟨rfl, by rw [List.length_take]; show topHeight t ≤ _; omega⟩ ⟨33, 129 - k, 0⟩ [] (fun s => v_set m _ _ _ hloc s) (fun x hx => by cases hx)
    have h3 := h2.drop (k := st[st.length - (n + 1)]) (st := st.take (st.length - (n + 1))) ⟨by rw [List.append_nil]; exact he, by rw [List.length_take]; show topHeight t ≤ _; omega⟩
    have h4 := h3.more ⟨32, 129 - k, 0⟩ [k] (fun s => v_get m _ _ _ hloc s) (fun x hx => by rw [List.mem_singleton.1 hx]; exact hk)
    have hc : t.code ++ reps (n + 1) [⟨33, 129 - k, 0⟩, ⟨26, 0, 0⟩, ⟨32, 129 - k, 0⟩] = ((t.code ++ reps n [⟨33, 129 - k, 0⟩, ⟨26, 0, 0⟩, ⟨32, 129 - k, 0⟩]) ++ [⟨33, 129 - k, 0⟩] ++ [⟨26, 0, 0⟩]) ++ [⟨32, 129 - k, 0⟩] := by
      rw [reps_snoc]
      simp
    rw [hc]
    exact h4
/-- What the walk holds once a level has been put right. -/
def levS (t : PS) (r : Int) : PS := { t with code := (levelF t r (topHeight t)).code, stack := t.stack.take (topHeight t) ++ (if r = 64 then [] else [r]) }
theorem sim_level (h : Sim m t) (r : Int) (hr : r = 64 ∨ r = 126 ∨ r = 127) : Sim m (levS t r) := by
  have ht := h.ok.top
  unfold levS levelF
  by_cases h64 : r = 64
  · simp only [if_pos h64, List.append_nil]
    have h1 := sim_drops h (t.stack.length - topHeight t) (by omega)
    rw [show t.stack.length - (t.stack.length - topHeight t) = topHeight t by omega] at h1
    exact h1
  · simp only [if_neg h64]
    have hk : r = 126 ∨ r = 127 := by omega
    obtain ⟨h1, ho, st, hT, htk⟩ := sim_want h r hk
    have hth : topHeight (wantF t r) = topHeight t := by unfold topHeight; rw [ho]
    have hle := hT.height
    rw [hth] at hle
    have h2 := sim_unders h1 r hk st hT (st.length - topHeight t) (by rw [hth]; omega)
    have hn : (wantF t r).stack.length - (topHeight t + 1) = st.length - topHeight t := by
      rw [hT.stack, List.length_append, List.length_singleton]
      omega
    rw [show st.length - (st.length - topHeight t) = topHeight t by omega, htk] at h2
    rw [hn]
    have : ({ t with code := (wantF t r).code ++ reps (st.length - topHeight t) [⟨33, 129 - r, 0⟩, ⟨26, 0, 0⟩, ⟨32, 129 - r, 0⟩], stack := t.stack.take (topHeight t) ++ [r] } : PS) = { wantF t r with code := (wantF t r).code ++ reps (st.length - topHeight t) [⟨33, 129 - r, 0⟩, ⟨26, 0, 0⟩, ⟨32, 129 - r, 0⟩], stack := t.stack.take (topHeight t) ++ [r] } := by
      show PS.mk _ _ t.opens = PS.mk _ _ (wantF t r).opens
      rw [ho]
    rw [this]
    exact h2
end Go.Proofs.YtomffpibdinkaaaGreatDoor


namespace Go.Proofs.YtomffpibdinkaaaGreatDoor
open Go.RowKit
set_option linter.unusedVariables false
set_option linter.unusedSimpArgs false
variable {m : MoV} {t : PS}

theorem answer_of (r : Int) (hr : r = 64 ∨ r = 126 ∨ r = 127) : answer7 r = (if r = 64 then ([] : List Int) else [r]).map u8T := by
  rcases hr with rfl | rfl | rfl <;> rfl
theorem top_of {l : List PO} {o : PO} (ho : t.opens = l ++ [o]) : topHeight t = o.height := by
  unfold topHeight
  rw [ho, List.getLast?_append]
  rfl
theorem inner_is {l : List PO} {o : PO} (ho : t.opens = l ++ [o]) : (vsOf t).inner = frOf o := by
  rw [inner_of, ho, List.getLast?_append]
  rfl
theorem frs_snoc (l : List PO) (o : PO) : frs (l ++ [o]) = frOf o :: frs l := by
  unfold frs
  rw [List.reverse_append]
  rfl
/-- A block's end: its result is taken, and the block. -/
theorem leave_of (l : List PO) (o : PO) (ho : t.opens = l ++ [o]) (hr : o.result = 64 ∨ o.result = 126 ∨ o.result = 127) (st : List Int) (hst : t.stack = st ++ (if o.result = 64 then [] else [o.result])) (hh : st.length = o.height) : (vsOf t).leave = vsOf { t with stack := st, opens := l } := by
  have h1 : (vsOf t).take (frOf o).result = vsOf { t with stack := st } := by
    show (vsOf t).take (answer7 o.result) = _
    rw [answer_of _ hr]
    exact takes st _ hst (by rw [top_of ho, hh]; exact Nat.le_refl _)
  unfold VS.leave
  rw [inner_is ho, h1]
  have h2 : (vsOf { t with stack := st }).stack.length = (frOf o).height := by
    rw [len_of]
    exact hh
  rw [decide_eq_true h2]
  unfold VS.ask vsOf
  simp only [Bool.not_true, Bool.or_false]
  rw [ho, frs_snoc]
  rfl
theorem ok_opens (h : OkS t) (st : List Int) (hst : ∀ k ∈ st, k = 126 ∨ k = 127) (l : List PO) (o : PO) (ho : t.opens = l ++ [o]) (hh : o.height ≤ st.length) (code : List PI) : OkS ⟨code, st, l⟩ := by
  have hs := h.sorted
  rw [ho] at hs
  refine ⟨hst, fun p hp => h.op p (by rw [ho]; exact List.mem_append_left _ hp), (List.pairwise_append.1 hs).1, fun p hp => ?_⟩
  exact Nat.le_trans ((List.pairwise_append.1 hs).2.2 p hp o (List.mem_singleton.2 rfl)) hh
theorem ok_snoc (h : OkS t) (o : PO) (h1 : (o.op = 2 ∨ o.op = 3 ∨ (o.op = 4 ∨ o.op = 5) ∧ o.result = 64) ∧ (o.result = 64 ∨ o.result = 126 ∨ o.result = 127)) (h2 : o.height = t.stack.length) (code : List PI) : OkS ⟨code, t.stack, t.opens ++ [o]⟩ := by
  refine ⟨h.st, fun p hp => ?_, List.pairwise_append.2 ⟨h.sorted, List.pairwise_singleton _ _, fun a ha b hb => ?_⟩, fun p hp => ?_⟩
  · rcases List.mem_append.1 hp with e | e
    · exact h.op p e
    · rw [List.mem_singleton.1 e]; exact h1
  · rw [List.mem_singleton.1 hb, h2]
    exact h.under a ha
  · rcases List.mem_append.1 hp with e | e
    · exact h.under p e
    · rw [List.mem_singleton.1 e, h2]; exact Nat.le_refl _
theorem sim_shut (h : Sim m t) : Sim m (shutF t) := by
  unfold shutF
  cases hl : t.opens.getLast? with
  | none => exact h
  | some o =>
    obtain ⟨l, ho⟩ := List.getLast?_eq_some_iff.1 hl
    have hop := h.ok.op o (by rw [ho]; simp)
    have hth := top_of ho
    have hu := h.ok.under o (by rw [ho]; simp)
    have hlev := sim_level h o.result hop.2
    have hlen : (t.stack.take (topHeight t)).length = o.height := by rw [List.length_take, hth]; omega
    have hld : t.opens.dropLast = l := by rw [ho]; simp
    simp only
    rw [hld, ← hth]
    have hlv := leave_of (t := levS t o.result) l o ho hop.2 (t.stack.take (topHeight t)) rfl hlen
    have hin := inner_is (t := levS t o.result) ho
    have hst : ∀ k ∈ t.stack.take (topHeight t) ++ (if o.result = 64 then [] else [o.result]), k = 126 ∨ k = 127 := hlev.ok.st
    refine hlev.ins ⟨11, 0, 0⟩ rfl ?_ ?_
    · exact ok_opens h.ok _ hst l o ho (by rw [List.length_append, hlen]; omega) _
    · have hv : vstep (ctx7 m) (insOf ⟨11, 0, 0⟩) (vsOf (levS t o.result)) = ((vsOf (levS t o.result)).leave.ask ((vsOf (levS t o.result)).inner.code != 4 || (vsOf (levS t o.result)).inner.result.isEmpty)).put (vsOf (levS t o.result)).inner.result := by simp [vstep, insOf]
      have hc : ((frOf o).code != 4 || (frOf o).result.isEmpty) = true := by
        show (o.op != 4 || (answer7 o.result).isEmpty) = true
        rcases hop.1 with e | e | e
        · rw [e]; rfl
        · rw [e]; rfl
        · rw [e.2]; simp [answer7]
      rw [hv, hin, hc, hlv]
      have ha : ∀ s : VS, s.ask true = s := fun s => by simp [VS.ask]
      rw [ha]
      show VS.put _ (answer7 o.result) = _
      rw [answer_of _ hop.2, puts]
      rfl
theorem sim_else (h : Sim m t) (o : PO) (l : List PO) (ho : t.opens = l ++ [o]) (h4 : o.op = 4) : Sim m (elseF t o) := by
  have hop := h.ok.op o (by rw [ho]; simp)
  have h64 : o.result = 64 := by
    rcases hop.1 with e | e | e
    · omega
    · omega
    · exact e.2
  have hth := top_of ho
  have hu := h.ok.under o (by rw [ho]; simp)
  have hlev := sim_level h o.result hop.2
  have hlen : (t.stack.take (topHeight t)).length = o.height := by rw [List.length_take, hth]; omega
  have hld : t.opens.dropLast = l := by rw [ho]; simp
  unfold elseF
  rw [hld, ← hth]
  have hs : (levS t o.result).stack = t.stack.take (topHeight t) := by
    show _ ++ _ = _
    rw [if_pos h64, List.append_nil]
  have hlv := leave_of (t := levS t o.result) l o ho hop.2 (t.stack.take (topHeight t)) rfl hlen
  have hin := inner_is (t := levS t o.result) ho
  have hst : ∀ k ∈ t.stack.take (topHeight t), k = 126 ∨ k = 127 := fun k hk => h.ok.st k (List.mem_of_mem_take hk)
  refine hlev.ins ⟨5, 0, 0⟩ rfl ?_ ?_
  · have h1 := ok_opens h.ok _ hst l o ho (by rw [hlen]; exact Nat.le_refl _) []
    exact ok_snoc h1 ⟨5, o.result, topHeight t⟩ ⟨Or.inr (Or.inr ⟨Or.inr rfl, h64⟩), hop.2⟩ (hth.trans hlen.symm) _
  · have hv : vstep (ctx7 m) (insOf ⟨5, 0, 0⟩) (vsOf (levS t o.result)) = { (vsOf (levS t o.result)).leave with opens := ⟨5, (vsOf (levS t o.result)).inner.result, (vsOf (levS t o.result)).inner.height, false⟩ :: (vsOf (levS t o.result)).leave.opens } := by simp [vstep, insOf]
    rw [hv, hin, hlv]
    unfold vsOf
    simp only
    rw [frs_snoc, hth]
    rfl
theorem sim_open (h : Sim m t) (op r : Int) (h1 : (op = 2 ∨ op = 3) ∧ (r = 64 ∨ r = 126 ∨ r = 127)) : Sim m (opensF t op r) := by
  unfold opensF
  refine h.ins ⟨op, r, 0⟩ rfl (ok_snoc h.ok ⟨op, r, t.stack.length⟩ ⟨by rcases h1.1 with e | e <;> simp [e], h1.2⟩ rfl _) ?_
  have hv : vstep (ctx7 m) (insOf ⟨op, r, 0⟩) (vsOf t) = (vsOf t).enter op r := by rcases h1.1 with rfl | rfl <;> simp [vstep, insOf]
  rw [hv]
  unfold VS.enter
  rw [len_of]
  unfold vsOf
  simp only
  rw [frs_snoc]
  rfl
theorem takeF_of {k : Int} {st : List Int} (hT : Tops t k st) : takeF t = { t with stack := st } := by
  unfold takeF
  rw [hT.stack]
  simp
theorem tops_same {k : Int} {st : List Int} (hT : Tops t k st) : ({ t with stack := st ++ [k] } : PS) = t := by
  rw [← hT.stack]
theorem take_127 {st : List Int} (hT : Tops t 127 st) : (vsOf t).take [127] = vsOf { t with stack := st } :=
  takes st [127] hT.stack hT.height
theorem sim_if (h : Sim m t) {st : List Int} (hT : Tops t 127 st) : Sim m (opensF (takeF t) 4 64) := by
  rw [takeF_of hT]
  have hok : OkS { t with stack := st } := h.ok.restack st (fun k hk => h.ok.st k (by rw [hT.stack]; exact List.mem_append_left _ hk)) hT.height _
  unfold opensF
  refine h.ins ⟨4, 64, 0⟩ rfl (ok_snoc hok ⟨4, 64, st.length⟩ ⟨Or.inr (Or.inr ⟨Or.inl rfl, rfl⟩), Or.inl rfl⟩ rfl _) ?_
  have hv : vstep (ctx7 m) (insOf ⟨4, 64, 0⟩) (vsOf t) = ((vsOf t).take [127]).enter 4 64 := by simp [vstep, insOf]
  rw [hv, take_127 hT]
  unfold VS.enter
  rw [len_of]
  unfold vsOf
  simp only
  rw [frs_snoc]
  rfl
end Go.Proofs.YtomffpibdinkaaaGreatDoor


namespace Go.Proofs.YtomffpibdinkaaaGreatDoor
open Go.RowKit
set_option linter.unusedVariables false
set_option linter.unusedSimpArgs false
variable {m : MoV} {t : PS}

theorem label_of {n : Nat} (hj : n < t.opens.length) (o : PO) (ho : t.opens[t.opens.length - 1 - n]? = some o) (hr : o.result = 64 ∨ o.op = 3) : (vsOf t).label (n : Int) = ([], vsOf t) := by
  have hlen : (vsOf t).opens.length = t.opens.length + 1 := by simp [vsOf, frs]
  have hget : (vsOf t).opens[n]? = some (frOf o) := by
    show (frs t.opens)[n]? = _
    unfold frs
    rw [List.getElem?_append_left (by simpa using hj), List.getElem?_map, List.getElem?_reverse hj, ho]
    rfl
  unfold VS.label
  rw [if_pos ⟨by omega, by rw [hlen]; omega⟩, Int.toNat_natCast, hget]
  simp only
  by_cases h3 : (frOf o).code = 3
  · rw [if_pos h3]
  · rw [if_neg h3]
    have : o.result = 64 := hr.resolve_right h3
    show (answer7 o.result, _) = _
    rw [this]
    rfl
theorem sim_jump (h : Sim m t) (n : Nat) : Sim m (jumpsF t n) := by
  unfold jumpsF
  cases ho : t.opens[t.opens.length - 1 - n % t.opens.length]? with
  | none => exact h
  | some o =>
    simp only
    split
    · exact h
    · next hr =>
      have hpos : 0 < t.opens.length := by
        have := (List.getElem?_eq_some_iff.1 ho).1
        omega
      have hj : n % t.opens.length < t.opens.length := Nat.mod_lt _ hpos
      obtain ⟨h1, hop, st, hT, _⟩ := sim_want h 127 (Or.inr rfl)
      have ht : takeF (putF (wantF t 127) 13 (n % t.opens.length : Nat) 0) = { wantF t 127 with code := (wantF t 127).code ++ [⟨13, (n % t.opens.length : Nat), 0⟩], stack := st } := by
        unfold takeF putF
        simp only
        rw [hT.stack]
        simp
      rw [ht]
      refine h1.ins ⟨13, (n % t.opens.length : Nat), 0⟩ rfl (h1.ok.restack _ (fun k hk => h1.ok.st k (by rw [hT.stack]; exact List.mem_append_left _ hk)) hT.height _) ?_
      have hv : vstep (ctx7 m) (insOf ⟨13, (n % t.opens.length : Nat), 0⟩) (vsOf (wantF t 127)) = ((((vsOf (wantF t 127)).take [127]).label (n % t.opens.length : Nat)).2.take (((vsOf (wantF t 127)).take [127]).label (n % t.opens.length : Nat)).1).put (((vsOf (wantF t 127)).take [127]).label (n % t.opens.length : Nat)).1 := by simp [vstep, insOf]
      have hlab : (vsOf { wantF t 127 with stack := st }).label (n % t.opens.length : Nat) = ([], vsOf { wantF t 127 with stack := st }) := label_of (t := { wantF t 127 with stack := st }) (by show _ < (wantF t 127).opens.length; rw [hop]; exact hj) o (by show (wantF t 127).opens[(wantF t 127).opens.length - 1 - _]? = _; rw [hop]; exact ho) (by
        by_cases h64 : o.result = 64
        · exact Or.inl h64
        · by_cases h3 : o.op = 3
          · exact Or.inr h3
          · exact absurd ⟨h64, h3⟩ hr)
      rw [hv, take_127 hT, hlab]
      rfl
theorem drop_of {k : Int} {st : List Int} (hT : Tops t k st) : t.stack.dropLast = st := by rw [hT.stack]; simp
theorem is126 : ∀ k ∈ ([126] : List Int), k = 126 ∨ k = 127 := fun k hk => Or.inl (List.mem_singleton.1 hk)
theorem is127 : ∀ k ∈ ([127] : List Int), k = 126 ∨ k = 127 := fun k hk => Or.inr (List.mem_singleton.1 hk)
theorem isNone : ∀ k ∈ ([] : List Int), k = 126 ∨ k = 127 := fun k hk => by cases hk
theorem bin64 (op : Int) : plainB (124 + op / 2 % 15) [126, 126] [126] = true := by
  have : ∀ j : Fin 15, plainB (124 + (j.val : Int)) [126, 126] [126] = true := by decide +kernel
  have h0 : 0 ≤ op / 2 % 15 := by omega
  have h1 : op / 2 % 15 < 15 := by omega
  have h2 := this ⟨(op / 2 % 15).toNat, by omega⟩
  rw [show ((⟨(op / 2 % 15).toNat, by omega⟩ : Fin 15).val : Int) = op / 2 % 15 from Int.toNat_of_nonneg h0] at h2
  exact h2
theorem bin32 (op : Int) : plainB (106 + op / 2 % 15) [127, 127] [127] = true := by
  have : ∀ j : Fin 15, plainB (106 + (j.val : Int)) [127, 127] [127] = true := by decide +kernel
  have h0 : 0 ≤ op / 2 % 15 := by omega
  have h1 : op / 2 % 15 < 15 := by omega
  have h2 := this ⟨(op / 2 % 15).toNat, by omega⟩
  rw [show ((⟨(op / 2 % 15).toNat, by omega⟩ : Fin 15).val : Int) = op / 2 % 15 from Int.toNat_of_nonneg h0] at h2
  exact h2
theorem sim_put (h : Sim m t) (op a b : Int) (k : Int) (hk : k = 126 ∨ k = 127) (hv : ∀ s, vstep (ctx7 m) (insOf ⟨op, a, b⟩) s = (s.take []).put [u8T k]) : Sim m (pushF (putF t op a b) k) :=
  h.more ⟨op, a, b⟩ [k] hv (fun x hx => by rw [List.mem_singleton.1 hx]; exact hk)
/-- Wanted, and taken. -/
theorem sim_set (h : Sim m t) (op a b : Int) (k : Int) (hk : k = 126 ∨ k = 127) (hv : ∀ s, vstep (ctx7 m) (insOf ⟨op, a, b⟩) s = (s.take [u8T k]).put []) : Sim m (takeF (putF (wantF t k) op a b)) := by
  obtain ⟨h1, ho, st, hT, _⟩ := sim_want h k hk
  have h2 := h1.on hT ⟨op, a, b⟩ [] hv isNone
  rw [List.append_nil, ← drop_of hT] at h2
  exact h2
/-- Wanted, and turned into its own kind. -/
theorem sim_own (h : Sim m t) (op a b : Int) (k : Int) (hk : k = 126 ∨ k = 127) (hv : ∀ s, vstep (ctx7 m) (insOf ⟨op, a, b⟩) s = (s.take [u8T k]).put [u8T k]) : Sim m (putF (wantF t k) op a b) := by
  obtain ⟨h1, ho, st, hT, _⟩ := sim_want h k hk
  have h2 := h1.on hT ⟨op, a, b⟩ [k] hv (fun x hx => by rw [List.mem_singleton.1 hx]; exact hk)
  rw [← hT.stack] at h2
  exact h2
/-- Wanted, and turned into an i32. -/
theorem sim_test (h : Sim m t) (op a b : Int) (k : Int) (hk : k = 126 ∨ k = 127) (hv : ∀ s, vstep (ctx7 m) (insOf ⟨op, a, b⟩) s = (s.take [u8T k]).put [127]) : Sim m (pushF (takeF (putF (wantF t k) op a b)) 127) := by
  obtain ⟨h1, ho, st, hT, _⟩ := sim_want h k hk
  have h2 := h1.on hT ⟨op, a, b⟩ [127] hv is127
  rw [← drop_of hT] at h2
  exact h2
theorem sim_bin (h : Sim m t) (op j : Int) (k : Int) (hk : k = 126 ∨ k = 127) (hg : ∀ s, vstep (ctx7 m) (insOf ⟨32, j, 0⟩) s = (s.take []).put [u8T k]) (hv : ∀ s, vstep (ctx7 m) (insOf ⟨op, 0, 0⟩) s = (s.take [u8T k, u8T k]).put [u8T k]) : Sim m (putF (putF (wantF t k) 32 j 0) op 0 0) := by
  obtain ⟨h1, ho, st, hT, _⟩ := sim_want h k hk
  have hq : ∀ x ∈ [k], x = 126 ∨ x = 127 := fun x hx => by rw [List.mem_singleton.1 hx]; exact hk
  have h2 := h1.more ⟨32, j, 0⟩ [k] hg hq
  have h3 := h2.does ⟨op, 0, 0⟩ hv st [k, k] [k] (by show (wantF t k).stack ++ [k] = _; rw [hT.stack]; simp) hT.height rfl rfl hq
  rw [← hT.stack] at h3
  exact h3
theorem sim_store (h : Sim m t) (op b : Int) (hv : ∀ s, vstep (ctx7 m) (insOf ⟨op, 0, b⟩) s = (s.take [127, 126]).put []) : Sim m (takeF (putF (putF (wantF t 127) 32 0 0) op 0 b)) := by
  obtain ⟨h1, ho, st, hT, _⟩ := sim_want h 127 (Or.inr rfl)
  have h2 := h1.more ⟨32, 0, 0⟩ [126] (fun s => v_get m _ _ _ (Or.inl ⟨rfl, rfl⟩) s) is126
  have h3 := h2.does ⟨op, 0, b⟩ hv st [127, 126] [] (by show (wantF t 127).stack ++ [126] = _; rw [hT.stack]; simp) hT.height rfl rfl isNone
  rw [List.append_nil, ← drop_of hT] at h3
  exact h3
theorem iteS {P : Prop} [Decidable P] {x y : PS} (h1 : P → Sim m x) (h2 : ¬ P → Sim m y) : Sim m (if P then x else y) := by
  by_cases h : P
  · rw [if_pos h]; exact h1 h
  · rw [if_neg h]; exact h2 h
theorem sim_does (hm : Home m) (h : Sim m t) (kind op a b : Int) : Sim m (doesF t kind op a b) := by
  unfold doesF
  refine iteS (fun hc => ?_) (fun hc => ?_)
  · refine iteS (fun hc => ?_) (fun hc => ?_)
    · exact sim_put h _ _ _ 126 (Or.inl rfl) (fun s => vstep_plain (by decide +kernel) _ _ _ s)
    · exact sim_put h _ _ _ 127 (Or.inr rfl) (fun s => vstep_plain (by decide +kernel) _ _ _ s)
  refine iteS (fun hc => ?_) (fun hc => ?_)
  · refine iteS (fun hc => ?_) (fun hc => ?_)
    · exact sim_bin h _ _ 126 (Or.inl rfl) (fun s => v_get m _ _ _ (Or.inl ⟨rfl, rfl⟩) s) (fun s => vstep_plain (bin64 op) _ _ _ s)
    · exact sim_bin h _ _ 127 (Or.inr rfl) (fun s => v_get m _ _ _ (Or.inr (Or.inl ⟨rfl, rfl⟩)) s) (fun s => vstep_plain (bin32 op) _ _ _ s)
  refine iteS (fun hc => ?_) (fun hc => ?_)
  · refine iteS (fun hc => ?_) (fun hc => ?_)
    · exact sim_test h _ _ _ 126 (Or.inl rfl) (fun s => vstep_plain (by decide +kernel) _ _ _ s)
    · exact sim_test h _ _ _ 127 (Or.inr rfl) (fun s => vstep_plain (by decide +kernel) _ _ _ s)
  refine iteS (fun hc => ?_) (fun hc => ?_)
  · refine iteS (fun hc => ?_) (fun hc => ?_)
    · exact sim_put h _ _ _ 126 (Or.inl rfl) (fun s => v_get m _ _ _ (Or.inl ⟨rfl, rfl⟩) s)
    refine iteS (fun hc => ?_) (fun hc => ?_)
    · exact sim_put h _ _ _ 127 (Or.inr rfl) (fun s => v_get m _ _ _ (Or.inr (Or.inl ⟨rfl, rfl⟩)) s)
    refine iteS (fun hc => ?_) (fun hc => ?_)
    · exact sim_put h _ _ _ 127 (Or.inr rfl) (fun s => v_get m _ _ _ (Or.inr (Or.inr (Or.inl ⟨rfl, rfl⟩))) s)
    · exact sim_put h _ _ _ 126 (Or.inl rfl) (fun s => v_get m _ _ _ (Or.inr (Or.inr (Or.inr ⟨rfl, rfl⟩))) s)
  refine iteS (fun hc => ?_) (fun hc => ?_)
  · refine iteS (fun hc => ?_) (fun hc => ?_)
    · exact sim_set h _ _ _ 126 (Or.inl rfl) (fun s => v_set m _ _ _ (Or.inl ⟨rfl, rfl⟩) s)
    refine iteS (fun hc => ?_) (fun hc => ?_)
    · exact sim_set h _ _ _ 127 (Or.inr rfl) (fun s => v_set m _ _ _ (Or.inr (Or.inl ⟨rfl, rfl⟩)) s)
    refine iteS (fun hc => ?_) (fun hc => ?_)
    · exact sim_set h _ _ _ 127 (Or.inr rfl) (fun s => v_set m _ _ _ (Or.inr (Or.inr (Or.inl ⟨rfl, rfl⟩))) s)
    · exact sim_set h _ _ _ 126 (Or.inl rfl) (fun s => v_set m _ _ _ (Or.inr (Or.inr (Or.inr ⟨rfl, rfl⟩))) s)
  refine iteS (fun hc => ?_) (fun hc => ?_)
  · refine iteS (fun hc => ?_) (fun hc => ?_)
    · exact sim_own h _ _ _ 126 (Or.inl rfl) (fun s => v_tee m _ _ _ (Or.inl ⟨rfl, rfl⟩) s)
    refine iteS (fun hc => ?_) (fun hc => ?_)
    · exact sim_own h _ _ _ 127 (Or.inr rfl) (fun s => v_tee m _ _ _ (Or.inr (Or.inl ⟨rfl, rfl⟩)) s)
    refine iteS (fun hc => ?_) (fun hc => ?_)
    · exact sim_own h _ _ _ 127 (Or.inr rfl) (fun s => v_tee m _ _ _ (Or.inr (Or.inr (Or.inl ⟨rfl, rfl⟩))) s)
    · exact sim_own h _ _ _ 126 (Or.inl rfl) (fun s => v_tee m _ _ _ (Or.inr (Or.inr (Or.inr ⟨rfl, rfl⟩))) s)
  refine iteS (fun hc => ?_) (fun hc => ?_)
  · refine iteS (fun hc => ?_) (fun hc => ?_)
    · exact sim_set (sim_put h 35 0 0 127 (Or.inr rfl) (fun s => v_gget hm _ _ _ (Or.inl ⟨rfl, rfl⟩) s)) _ _ _ 126 (Or.inl rfl) (fun s => v_gset hm _ s)
    · exact sim_set (sim_put h 35 1 0 126 (Or.inl rfl) (fun s => v_gget hm _ _ _ (Or.inr ⟨rfl, rfl⟩) s)) _ _ _ 126 (Or.inl rfl) (fun s => v_gset hm _ s)
  refine iteS (fun hc => ?_) (fun hc => ?_)
  · exact sim_own h _ _ _ 127 (Or.inr rfl) (fun s => vstep_mem (pw := 2) (by decide +kernel) m hm _ _ (by omega) s)
  refine iteS (fun hc => ?_) (fun hc => ?_)
  · refine sim_store h _ _ (fun s => ?_)
    rcases (by omega : op % 3 = 0 ∨ op % 3 = 1 ∨ op % 3 = 2) with e | e | e <;> rw [e]
    · exact vstep_mem (pw := 0) (by decide +kernel) m hm _ _ (by omega) s
    · exact vstep_mem (pw := 1) (by decide +kernel) m hm _ _ (by omega) s
    · exact vstep_mem (pw := 2) (by decide +kernel) m hm _ _ (by omega) s
  refine iteS (fun hc => ?_) (fun hc => ?_)
  · refine sim_open h _ _ ⟨by omega, ?_⟩
    split
    · exact Or.inl rfl
    split
    · exact Or.inr (Or.inr rfl)
    · exact Or.inr (Or.inl rfl)
  refine iteS (fun hc => ?_) (fun hc => ?_)
  · obtain ⟨h1, ho, st, hT, _⟩ := sim_want h 127 (Or.inr rfl)
    exact sim_if h1 hT
  refine iteS (fun hc => ?_) (fun hc => ?_)
  · cases hl : t.opens.getLast? with
    | none => exact h
    | some o =>
      obtain ⟨l, ho⟩ := List.getLast?_eq_some_iff.1 hl
      simp only
      refine iteS (fun hc => ?_) (fun hc => ?_)
      · exact sim_else h o l ho hc.1
      · exact sim_shut h
  refine iteS (fun hc => ?_) (fun hc => ?_)
  · exact sim_jump h _
  refine iteS (fun hc => ?_) (fun hc => ?_)
  · exact sim_put h _ _ _ 127 (Or.inr rfl) (fun s => vstep_mem (pw := 0) (by decide +kernel) m hm _ _ (by omega) s)
  refine iteS (fun hc => ?_) (fun hc => ?_)
  · have h1 := h.more ⟨1, 0, 0⟩ [] (fun s => vstep_plain (by decide +kernel) _ _ _ s) isNone
    rw [List.append_nil] at h1
    exact h1
  · have h1 := sim_put h 63 0 0 127 (Or.inr rfl) (fun s => vstep_mem (pw := 0) (by decide +kernel) m hm _ _ (by omega) s)
    exact h1.on (k := 127) (st := t.stack) ⟨rfl, h.ok.top⟩ ⟨64, 0, 0⟩ [127] (fun s => vstep_mem (pw := 0) (by decide +kernel) m hm _ _ (by omega) s) is127
theorem sim_shuts : ∀ (n : Nat) (t : PS), Sim m t → Sim m (shuts n t)
  | 0, t, h => h
  | n + 1, t, h => sim_shuts n (shutF t) (sim_shut h)
theorem shuts_opens : ∀ (n : Nat) (t : PS), n = t.opens.length → (shuts n t).opens = []
  | 0, t, h => List.eq_nil_of_length_eq_zero h.symm
  | n + 1, t, h => by
    refine shuts_opens n (shutF t) ?_
    unfold shutF
    cases hl : t.opens.getLast? with
    | none =>
      have : t.opens = [] := List.getLast?_eq_none_iff.1 hl
      rw [this] at h
      cases h
    | some o => show n = t.opens.dropLast.length; rw [List.length_dropLast]; omega
theorem sim_run (hm : Home m) : ∀ (l : List StepV) (s : PS), Sim m s → Sim m (l.foldl (fun s x => x.does s) s)
  | [], s, h => h
  | x :: l, s, h => sim_run hm l _ (sim_does hm h x.kind x.op x.a x.b)
/-- What is left once a program's code has been gone through. -/
theorem code_goes (hm : Home m) (l : List StepV) : vrun (ctx7 m) ((codeF l).map insOf) startP = ⟨[126], [], false⟩ := by
  have h1 := sim_shuts (runF (l.take 60)).opens.length _ (sim_run hm (l.take 60) _ (Sim.begin m))
  have h2 : (shuts (runF (l.take 60)).opens.length (runF (l.take 60))).opens = [] := shuts_opens _ _ rfl
  change Sim m (shuts (runF (l.take 60)).opens.length (runF (l.take 60))) at h1
  generalize hT : shuts (runF (l.take 60)).opens.length (runF (l.take 60)) = T at h1 h2
  have hth : topHeight T = 0 := by unfold topHeight; rw [h2]; rfl
  have h3 := sim_level h1 126 (Or.inr (Or.inl rfl))
  have hc : codeF l = (levS T 126).code ++ [⟨11, 0, 0⟩] := by
    unfold codeF levS
    rw [hT, hth]
  have hs : vsOf (levS T 126) = ⟨[126], [⟨2, [126], 0, false⟩], false⟩ := by
    unfold vsOf
    have e1 : (levS T 126).stack = [126] := by
      show T.stack.take (topHeight T) ++ _ = _
      rw [hth, List.take_zero]
      rfl
    have e2 : (levS T 126).opens = [] := h2
    rw [e1, e2]
    rfl
  rw [hc, List.map_append, h3.go, hs]
  rfl
theorem made_valid {H : Nat} {pc : Option Addr} {cc : Nat} {mx i0 i1 ix st : Int} (l : List StepV) : validFn (madeV H pc cc (codeF l) mx i0 i1 ix st) (madeF pc cc (codeF l)) = true := by
  have hm : Home (madeV H pc cc (codeF l) mx i0 i1 ix st) := ⟨Nat.zero_lt_one, i0, i1, rfl⟩
  have hg := code_goes hm l
  unfold validFn
  rw [if_pos ⟨by show (0 : Int) ≤ 0; omega, by show (0 : Int) < 1; omega⟩]
  show (!(vrun _ _ _).wrong) = true
  have : vrun (ctx7 (madeV H pc cc (codeF l) mx i0 i1 ix st)) ((codeF l).map insOf) startP = ⟨[126], [], false⟩ := hg
  have h2 : (vrun (ctx7 (madeV H pc cc (codeF l) mx i0 i1 ix st)) ((codeF l).map insOf) startP).wrong = false := by rw [this]
  show (!(vrun (ctx7 (madeV H pc cc (codeF l) mx i0 i1 ix st)) ((codeF l).map insOf) startP).wrong) = true
  rw [h2]
  rfl
end Go.Proofs.YtomffpibdinkaaaGreatDoor


namespace Go.Proofs.YtomffpibdinkaaaGreatDoor
open Go.RowKit
set_option linter.unusedVariables false
set_option linter.unusedSimpArgs false
variable {m : MoV} {t : PS}

/-! ### How many blocks a program opens -/
def isOp (x : PI) : Bool := decide (x.op = 2 ∨ x.op = 3 ∨ x.op = 4)
def nOpen (c : List PI) : Nat := c.countP isOp
theorem nOpen_append (a b : List PI) : nOpen (a ++ b) = nOpen a + nOpen b := List.countP_append
theorem nOpen_other {op a b : Int} (h : ¬ (op = 2 ∨ op = 3 ∨ op = 4)) : nOpen [(⟨op, a, b⟩ : PI)] = 0 := by
  unfold nOpen isOp
  simp [h]
theorem nOpen_one (x : PI) : nOpen [x] ≤ 1 := by
  unfold nOpen
  exact List.countP_le_length
theorem nOpen_reps (n : Nat) (c : List PI) (h : nOpen c = 0) : nOpen (reps n c) = 0 := by
  induction n with
  | zero => rfl
  | succ n ih => rw [reps_snoc, nOpen_append, ih, h]
theorem open_put {op a b : Int} (h : ¬ (op = 2 ∨ op = 3 ∨ op = 4)) : nOpen (putF t op a b).code = nOpen t.code := by
  unfold putF
  simp only
  rw [nOpen_append, nOpen_other h]
  rfl
theorem open_push (k : Int) : nOpen (pushF t k).code = nOpen t.code := rfl
theorem opens_take : nOpen (takeF t).code = nOpen t.code := rfl
theorem open_want (k : Int) (hk : k = 126 ∨ k = 127) : nOpen (wantF t k).code = nOpen t.code := by
  unfold wantF
  split
  · simp only
    rw [nOpen_append, nOpen_other (by omega)]
    rfl
  · split
    · rfl
    · simp only
      rw [nOpen_append, nOpen_other (by split <;> omega)]
      rfl
theorem open_level (r : Int) (n : Nat) (hr : r = 64 ∨ r = 126 ∨ r = 127) : nOpen (levelF t r n).code = nOpen t.code := by
  unfold levelF
  split
  · simp only
    rw [nOpen_append, nOpen_reps _ _ (nOpen_other (by omega))]
    rfl
  · simp only
    rw [nOpen_append, nOpen_reps _ _ (by rfl), open_want r (by omega)]
    rfl
theorem open_shut (h : OkS t) : nOpen (shutF t).code = nOpen t.code := by
  unfold shutF
  cases hl : t.opens.getLast? with
  | none => rfl
  | some o =>
    simp only
    rw [nOpen_append, nOpen_other (by omega), open_level _ _ (h.op o (List.mem_of_getLast? hl)).2]
    rfl
theorem open_opens (op r : Int) : nOpen (opensF t op r).code ≤ nOpen t.code + 1 := by
  unfold opensF
  simp only
  rw [nOpen_append]
  exact Nat.add_le_add_left (nOpen_one _) _
theorem iteN {P : Prop} [Decidable P] {x y : PS} {n : Nat} (h1 : P → nOpen x.code ≤ n) (h2 : ¬ P → nOpen y.code ≤ n) : nOpen (if P then x else y).code ≤ n := by
  by_cases h : P
  · rw [if_pos h]; exact h1 h
  · rw [if_neg h]; exact h2 h
theorem putN {n : Nat} {op a b : Int} (h : ¬ (op = 2 ∨ op = 3 ∨ op = 4)) (h2 : nOpen t.code ≤ n) : nOpen (putF t op a b).code ≤ n := by rw [open_put h]; exact h2
theorem wantN {n : Nat} {k : Int} (hk : k = 126 ∨ k = 127) (h2 : nOpen t.code ≤ n) : nOpen (wantF t k).code ≤ n := by rw [open_want k hk]; exact h2
theorem pushN {n : Nat} {k : Int} (h2 : nOpen t.code ≤ n) : nOpen (pushF t k).code ≤ n := h2
theorem takeN {n : Nat} (h2 : nOpen t.code ≤ n) : nOpen (takeF t).code ≤ n := h2
theorem open_does (h : OkS t) (kind op a b : Int) : nOpen (doesF t kind op a b).code ≤ nOpen t.code + 1 := by
  unfold doesF
  repeat' (first
    | (with_reducible exact Nat.le_succ _)
    | (with_reducible refine iteN (fun hc => ?_) (fun hc => ?_))
    | (with_reducible refine putN (by omega) ?_)
    | (with_reducible refine wantN (by omega) ?_)
    | (with_reducible refine pushN ?_)
    | (with_reducible refine takeN ?_))
  · exact open_opens _ _
  · refine Nat.le_trans (open_opens _ _) (Nat.succ_le_succ ?_)
    exact takeN (wantN (by omega) (Nat.le_refl _))
  · cases hl : t.opens.getLast? with
    | none => exact Nat.le_succ _
    | some o =>
      simp only
      refine iteN (fun hc => ?_) (fun hc => ?_)
      · unfold elseF
        simp only
        rw [nOpen_append, nOpen_other (by omega), open_level _ _ (h.op o (List.mem_of_getLast? hl)).2]
        exact Nat.le_succ _
      · rw [open_shut h]
        exact Nat.le_succ _
  · unfold jumpsF
    split
    · exact Nat.le_succ _
    · refine iteN (fun hc => Nat.le_succ _) (fun hc => ?_)
      exact takeN (putN (by omega) (wantN (by omega) (Nat.le_succ _)))
theorem open_shuts (hm : Home m) : ∀ (n : Nat) (t : PS), Sim m t → nOpen (shuts n t).code = nOpen t.code
  | 0, t, h => rfl
  | n + 1, t, h => by
    show nOpen (shuts n (shutF t)).code = _
    rw [open_shuts hm n (shutF t) (sim_shut h), open_shut h.ok]
theorem open_run (hm : Home m) : ∀ (l : List StepV) (s : PS), Sim m s → nOpen (l.foldl (fun s x => x.does s) s).code ≤ nOpen s.code + l.length
  | [], s, h => Nat.le_refl _
  | x :: l, s, h => by
    have h1 := open_run hm l _ (sim_does hm h x.kind x.op x.a x.b)
    have h2 := open_does h.ok x.kind x.op x.a x.b
    rw [List.length_cons]
    show nOpen (l.foldl _ (doesF s x.kind x.op x.a x.b)).code ≤ _
    exact Nat.le_trans h1 (by omega)
/-- A program's code but for its last end. -/
def bodyF (l : List StepV) : List PI := (levelF (shuts (runF (l.take 60)).opens.length (runF (l.take 60))) 126 0).code
theorem codeF_body (l : List StepV) : codeF l = bodyF l ++ [⟨11, 0, 0⟩] := rfl
theorem open_body (hm : Home m) (l : List StepV) : nOpen (bodyF l) ≤ 60 := by
  have hs := sim_run hm (l.take 60) _ (Sim.begin m)
  unfold bodyF
  rw [open_level _ _ (Or.inr (Or.inl rfl))]
  have h1 := open_shuts hm (runF (l.take 60)).opens.length (runF (l.take 60)) hs
  have h2 := open_run hm (l.take 60) _ (Sim.begin m)
  have h3 : (l.take 60).length ≤ 60 := by rw [List.length_take]; omega
  rw [h1]
  refine Nat.le_trans h2 ?_
  show 0 + _ ≤ 60
  omega
theorem nest_le : ∀ (c : List PI) (d g : Int), d ≤ g → nest7 (c.map PI.op) d g ≤ g + nOpen c
  | [], d, g, h => by show g ≤ g + 0; omega
  | x :: c, d, g, h => by
    have hn : (nOpen (x :: c) : Int) = nOpen c + (if isOp x then 1 else 0) := by
      unfold nOpen
      rw [List.countP_cons]
      split <;> simp
    rw [List.map_cons, nest7, hn]
    by_cases h1 : x.op = 2 ∨ x.op = 3 ∨ x.op = 4
    · rw [if_pos h1]
      have h2 := nest_le c (d + 1) (max g (d + 1)) (by omega)
      have : isOp x = true := decide_eq_true h1
      rw [this, if_pos rfl]
      omega
    · rw [if_neg h1]
      have : isOp x = false := decide_eq_false h1
      rw [this]
      split
      · have h2 := nest_le c (d - 1) g (by omega)
        simp only [Bool.false_eq_true, if_false]
        omega
      · have h2 := nest_le c d g h
        simp only [Bool.false_eq_true, if_false]
        omega
theorem deep_not {ty : Int} {lo : ByteArray} {pc : Option Addr} {cc : Nat} (c : List PI) (h : nOpen c ≤ 256) : deep7 ⟨ty, lo, pc, cc, c.map insOf⟩ = false := by
  unfold deep7
  have h1 := nest_le c 0 0 (Int.le_refl _)
  have h2 : opsOf (c.map insOf) = c.map PI.op := by simp [opsOf, insOf]
  refine decide_eq_false ?_
  show ¬ (256 : Int) < nest7 (opsOf (c.map insOf)) 0 0
  rw [h2]
  omega
/-- What package valid answers of a function over made's module, of a program's body and another end. -/
theorem ends_deep (l : List StepV) (e : List PI) (he : e.length ≤ 6) (pc : Option Addr) (cc : Nat) : deep7 (madeF pc cc (bodyF l ++ e)) = false := by
  have hm : Home (madeV 0 pc cc [] 2 5 (-5) 0 (-1)) := ⟨Nat.zero_lt_one, 5, -5, rfl⟩
  refine deep_not _ ?_
  rw [nOpen_append]
  have h1 := open_body hm l
  have h2 : nOpen e ≤ e.length := List.countP_le_length
  omega
theorem ends_valid {H : Nat} {pc p2 : Option Addr} {cc c2 : Nat} {mx i0 i1 ix st : Int} (l : List StepV) (c : List PI) (e : List PI) : validFn (madeV H pc cc c mx i0 i1 ix st) (madeF p2 c2 (bodyF l ++ e)) = !(vrun (ctx7 (madeV H pc cc c mx i0 i1 ix st)) (e.map insOf) ⟨[126], [⟨2, [126], 0, false⟩], false⟩).wrong := by
  have hm : Home (madeV H pc cc c mx i0 i1 ix st) := ⟨Nat.zero_lt_one, i0, i1, rfl⟩
  have h1 := sim_shuts (runF (l.take 60)).opens.length _ (sim_run hm (l.take 60) _ (Sim.begin _))
  have h2 : (shuts (runF (l.take 60)).opens.length (runF (l.take 60))).opens = [] := shuts_opens _ _ rfl
  change Sim _ (shuts (runF (l.take 60)).opens.length (runF (l.take 60))) at h1
  have hb : bodyF l = (levelF (shuts (runF (l.take 60)).opens.length (runF (l.take 60))) 126 0).code := rfl
  generalize hT : shuts (runF (l.take 60)).opens.length (runF (l.take 60)) = T at h1 h2 hb
  have hth : topHeight T = 0 := by unfold topHeight; rw [h2]; rfl
  have h3 := sim_level h1 126 (Or.inr (Or.inl rfl))
  have hs : vsOf (levS T 126) = ⟨[126], [⟨2, [126], 0, false⟩], false⟩ := by
    unfold vsOf
    have e1 : (levS T 126).stack = [126] := by
      show T.stack.take (topHeight T) ++ _ = _
      rw [hth, List.take_zero]
      rfl
    have e2 : (levS T 126).opens = [] := h2
    rw [e1, e2]
    rfl
  have hc : bodyF l = (levS T 126).code := by
    unfold levS
    rw [hb, hth]
  have hg := h3.go (e.map insOf)
  rw [← hc, hs, ← List.map_append] at hg
  unfold validFn
  rw [if_pos ⟨by show (0 : Int) ≤ 0; omega, by show (0 : Int) < 1; omega⟩]
  show (!(vrun (ctx7 (madeV H pc cc c mx i0 i1 ix st)) ((bodyF l ++ e).map insOf) startP).wrong) = _
  rw [hg]
theorem more_valid {H : Nat} {pc p2 : Option Addr} {cc c2 : Nat} {mx i0 i1 ix st : Int} (l : List StepV) (c : List PI) : validFn (madeV H pc cc c mx i0 i1 ix st) (madeF p2 c2 (bodyF l ++ [⟨65, 0, 0⟩, ⟨11, 0, 0⟩])) = false := by rw [ends_valid]; rfl
theorem less_valid {H : Nat} {pc p2 : Option Addr} {cc c2 : Nat} {mx i0 i1 ix st : Int} (l : List StepV) (c : List PI) : validFn (madeV H pc cc c mx i0 i1 ix st) (madeF p2 c2 (bodyF l ++ [⟨26, 0, 0⟩, ⟨11, 0, 0⟩])) = false := by rw [ends_valid]; rfl
theorem dead_valid {H : Nat} {pc p2 : Option Addr} {cc c2 : Nat} {mx i0 i1 ix st : Int} (l : List StepV) (c : List PI) : validFn (madeV H pc cc c mx i0 i1 ix st) (madeF p2 c2 (bodyF l ++ [⟨15, 0, 0⟩, ⟨26, 0, 0⟩, ⟨106, 0, 0⟩, ⟨26, 0, 0⟩, ⟨11, 0, 0⟩])) = true := by rw [ends_valid]; rfl
end Go.Proofs.YtomffpibdinkaaaGreatDoor


namespace Go.Proofs.YtomffpibdinkaaaGreatDoor
open Go.RowKit
set_option linter.unusedVariables false
set_option linter.unusedSimpArgs false

theorem runs_tails {B B' : List Int} (h : ∀ st, runs B st = runs B' st) (he : B.isEmpty = B'.isEmpty) : ∀ (A : List Int) (st : List Int), runs (A ++ B) st = runs (A ++ B') st
  | [], st => h st
  | op :: A, st => by
    have ih := runs_tails h he A
    have hE : (A ++ B).isEmpty = (A ++ B').isEmpty := by
      cases A with
      | nil => exact he
      | cons x A => rfl
    rw [List.cons_append, List.cons_append]
    by_cases h1 : op = 2 ∨ op = 3 ∨ op = 4
    · rw [runs_open h1, runs_open h1, ih]
    by_cases h5 : op = 5
    · subst h5
      cases st with
      | nil => rw [runs_else_none, runs_else_none]
      | cons t st => rw [runs_else, runs_else, ih]
    by_cases h11 : op = 11
    · subst h11
      cases st with
      | nil => rw [runs_end_none, runs_end_none, hE]
      | cons t st => rw [runs_end, runs_end, ih]
    · rw [runs_other (by omega), runs_other (by omega), ih]
theorem fn_right7 {pc : Option Addr} {cc : Nat} {code : List PI} (hr : ∀ x ∈ code, rightPI x = true) (hu : runs (code.map PI.op) [] = true) : rightFn (madeF pc cc code) = true := by
  unfold rightFn
  have h1 : (madeF pc cc code).code.all rightIns = true := by
    refine List.all_eq_true.2 fun x hx => ?_
    obtain ⟨y, hy, rfl⟩ := List.mem_map.1 hx
    have := hr y hy
    unfold rightPI at this
    simp only [Bool.and_eq_true] at this
    exact this.1
  have h2 : opsOf (madeF pc cc code).code = code.map PI.op := by simp [opsOf, madeF, insOf]
  rw [h1, h2, hu]
  show (true && (word4 0 && vtypes [127, 126] 4096 && true)) = true
  decide
theorem alone_made (H : Nat) (pc : Option Addr) (cc : Nat) (c : List PI) (f : FnV) : rightMod (alone7 (madeV H pc cc c 2 5 (-5) 0 (-1)) f 0) = (true && (true && ((rightFn f && true) && (true && (true && (true && true)))))) := by kernel_rfl
theorem made_made (H : Nat) (pc : Option Addr) (cc : Nat) (c : List PI) : rightMod (madeV H pc cc c 2 5 (-5) 0 (-1)) = (true && (true && ((rightFn (madeF pc cc c) && true) && (true && (true && (true && true)))))) := by kernel_rfl
theorem made_rest (H : Nat) (pc : Option Addr) (cc : Nat) (c : List PI) : (memory7 (madeV H pc cc c 2 5 (-5) 0 (-1)) && (exports7 (madeV H pc cc c 2 5 (-5) 0 (-1)) && start7 (madeV H pc cc c 2 5 (-5) 0 (-1)))) = true := by kernel_rfl
/-- Another end is right where the own one is. -/
theorem ends_right {l : List StepV} (hr : ∀ x ∈ codeF l, rightPI x = true) (hu : runs ((codeF l).map PI.op) [] = true) (e : List PI) (he : ∀ x ∈ e, rightPI x = true) (hne : (e.map PI.op).isEmpty = false) (hru : ∀ st, runs (e.map PI.op) st = runs [11] st) (p : Option Addr) (c : Nat) : rightFn (madeF p c (bodyF l ++ e)) = true := by
  refine fn_right7 (fun x hx => ?_) ?_
  · rcases List.mem_append.1 hx with h | h
    · exact hr x (by rw [codeF_body]; exact List.mem_append_left _ h)
    · exact he x h
  · rw [List.map_append, runs_tails hru hne]
    rw [codeF_body, List.map_append] at hu
    exact hu
theorem ends_ans {H : Nat} {pc : Option Addr} {cc : Nat} (l : List StepV) (c : List PI) (e : List PI) (p : Option Addr) (q : Nat) {v : Bool} (hright : rightFn (madeF p q (bodyF l ++ e)) = true) (he : e.length ≤ 6) (hv : validFn (madeV H pc cc c 2 5 (-5) 0 (-1)) (madeF p q (bodyF l ++ e)) = v) : funcAns (madeV H pc cc c 2 5 (-5) 0 (-1)) (madeF p q (bodyF l ++ e)) = if v then 0 else 4 := by
  unfold funcAns
  rw [alone_made, hright, ends_deep l e he, hv]
  cases v <;> rfl
def moreE : List PI := [⟨65, 0, 0⟩, ⟨11, 0, 0⟩]
def lessE : List PI := [⟨26, 0, 0⟩, ⟨11, 0, 0⟩]
def deadE : List PI := [⟨15, 0, 0⟩, ⟨26, 0, 0⟩, ⟨106, 0, 0⟩, ⟨26, 0, 0⟩, ⟨11, 0, 0⟩]
theorem runs_more (st : List Int) : runs (moreE.map PI.op) st = runs [11] st := runs_other (by decide)
theorem runs_less (st : List Int) : runs (lessE.map PI.op) st = runs [11] st := runs_other (by decide)
theorem runs_dead (st : List Int) : runs (deadE.map PI.op) st = runs [11] st := by
  show runs [15, 26, 106, 26, 11] st = _
  rw [runs_other (by decide), runs_other (by decide), runs_other (by decide), runs_other (by decide)]
theorem right_more : ∀ x ∈ moreE, rightPI x = true := by decide +kernel
theorem right_less : ∀ x ∈ lessE, rightPI x = true := by decide +kernel
theorem right_dead : ∀ x ∈ deadE, rightPI x = true := by decide +kernel
/-- What package valid answers of made's module, its function, and those with other ends. -/
theorem prog_ans {l : List StepV} (hr : ∀ x ∈ codeF l, rightPI x = true) (hu : runs ((codeF l).map PI.op) [] = true) (H : Nat) (pc : Option Addr) (cc : Nat) :
    modAns7 (madeV H pc cc (codeF l) 2 5 (-5) 0 (-1)) = 0 ∧ funcAns (madeV H pc cc (codeF l) 2 5 (-5) 0 (-1)) (madeF pc cc (codeF l)) = 0
    ∧ (∀ p q, funcAns (madeV H pc cc (codeF l) 2 5 (-5) 0 (-1)) (madeF p q (bodyF l ++ moreE)) = 4)
    ∧ (∀ p q, funcAns (madeV H pc cc (codeF l) 2 5 (-5) 0 (-1)) (madeF p q (bodyF l ++ lessE)) = 4)
    ∧ (∀ p q, funcAns (madeV H pc cc (codeF l) 2 5 (-5) 0 (-1)) (madeF p q (bodyF l ++ deadE)) = 0) := by
  have hrf : rightFn (madeF pc cc (codeF l)) = true := fn_right7 hr hu
  have hdf : deep7 (madeF pc cc (codeF l)) = false := ends_deep l [⟨11, 0, 0⟩] (by decide) pc cc
  have hvf : validFn (madeV H pc cc (codeF l) 2 5 (-5) 0 (-1)) (madeF pc cc (codeF l)) = true := made_valid l
  refine ⟨?_, ?_, fun p q => ?_, fun p q => ?_, fun p q => ?_⟩
  · unfold modAns7
    have h1 : (madeV H pc cc (codeF l) 2 5 (-5) 0 (-1)).funcs = [madeF pc cc (codeF l)] := rfl
    rw [made_made, hrf, h1, made_rest, List.any_cons, hdf, List.all_cons, hvf]
    rfl
  · unfold funcAns
    rw [alone_made, hrf, hdf, hvf]
    rfl
  · exact ends_ans l _ moreE p q (ends_right hr hu _ right_more rfl runs_more p q) (by decide) (more_valid l _)
  · exact ends_ans l _ lessE p q (ends_right hr hu _ right_less rfl runs_less p q) (by decide) (less_valid l _)
  · exact ends_ans l _ deadE p q (ends_right hr hu _ right_dead rfl runs_dead p q) (by decide) (dead_valid l _)
end Go.Proofs.YtomffpibdinkaaaGreatDoor


namespace Go.Proofs.YtomffpibdinkaaaGreatDoor
open Go.RowKit
set_option linter.unusedVariables false
set_option linter.unusedSimpArgs false

def mdF (ty : Int) (pc : Option Addr) (cc : Nat) (code : List PI) : FnV := ⟨ty, ⟨#[127, 126]⟩, pc, cc, code.map insOf⟩
/-- A program's module, with another type's number, another memory, other exports, another start. -/
def mdV (H : Nat) (pc : Option Addr) (cc : Nat) (code : List PI) (ty : Int) (mp : Option Addr) (mc : Nat) (M : List MemV) (ep : Option Addr) (ec : Nat) (E : List ExpV) (st : Int) : MoV :=
  ⟨some ⟨H, 0, none⟩, 1, [⟨⟨#[126, 127]⟩, ⟨#[126]⟩⟩], some ⟨H + 1, 0, none⟩, 1, [mdF ty pc cc code], mp, mc, M, some ⟨H + 3, 0, none⟩, 2, [⟨127, true, 5⟩, ⟨126, true, -5⟩], ep, ec, E, st, some ⟨H + 5, 0, none⟩, 1, [⟨100, someBytes⟩]⟩
def fE : ExpV := ⟨⟨#[102]⟩, 0, 0⟩
theorem md_fn {ty : Int} (hty : word4 ty = true) {pc : Option Addr} {cc : Nat} {code : List PI} (hr : ∀ x ∈ code, rightPI x = true) (hu : runs (code.map PI.op) [] = true) : rightFn (mdF ty pc cc code) = true := by
  unfold rightFn
  have h1 : (mdF ty pc cc code).code.all rightIns = true := by
    refine List.all_eq_true.2 fun x hx => ?_
    obtain ⟨y, hy, rfl⟩ := List.mem_map.1 hx
    have := hr y hy
    unfold rightPI at this
    simp only [Bool.and_eq_true] at this
    exact this.1
  have h2 : opsOf (mdF ty pc cc code).code = code.map PI.op := by simp [opsOf, mdF, insOf]
  rw [h1, h2, hu]
  show (true && (word4 ty && vtypes [127, 126] 4096 && true)) = true
  rw [hty]
  decide
theorem md_right {H : Nat} {pc : Option Addr} {cc : Nat} {code : List PI} {ty : Int} {mp : Option Addr} {mc : Nat} {M : List MemV} {ep : Option Addr} {ec : Nat} {E : List ExpV} {st : Int}
    (hf : rightFn (mdF ty pc cc code) = true) (hM : M.length ≤ 4096) (hm : M.all rightMem = true) (hE : E.length ≤ 4096) (he : E.all rightExp = true) (hs : st = -1 ∨ word4 st = true) : rightMod (mdV H pc cc code ty mp mc M ep ec E st) = true := by
  unfold rightMod
  have h0 : decide (fewMod (mdV H pc cc code ty mp mc M ep ec E st)) = true := decide_eq_true ⟨(by show 1 ≤ 4096; decide), (by show 1 ≤ 4096; decide), hM, (by show 2 ≤ 4096; decide), hE, (by show 1 ≤ 4096; decide), hs⟩
  have h1 : (mdV H pc cc code ty mp mc M ep ec E st).types.all rightTy = true := by show List.all [_] _ = _; decide
  have h2 : (mdV H pc cc code ty mp mc M ep ec E st).funcs.all rightFn = true := by show List.all [mdF ty pc cc code] _ = _; simp [hf]
  have h3 : (mdV H pc cc code ty mp mc M ep ec E st).globals.all rightGlob = true := by show List.all [(⟨127, true, 5⟩ : GlobV), ⟨126, true, -5⟩] _ = _; decide
  have h4 : (mdV H pc cc code ty mp mc M ep ec E st).data.all rightDat = true := by show List.all [(⟨100, someBytes⟩ : DatV)] _ = _; decide
  rw [h0, h1, h2, h3, h4, show (mdV H pc cc code ty mp mc M ep ec E st).memory.all rightMem = true from hm, show (mdV H pc cc code ty mp mc M ep ec E st).exports.all rightExp = true from he]
  rfl
theorem md_deep (l : List StepV) (H : Nat) (pc : Option Addr) (cc : Nat) (ty : Int) (mp : Option Addr) (mc : Nat) (M : List MemV) (ep : Option Addr) (ec : Nat) (E : List ExpV) (st : Int) : (mdV H pc cc (codeF l) ty mp mc M ep ec E st).funcs.any deep7 = false := by
  have hd : deep7 (mdF ty pc cc (codeF l)) = false := ends_deep l [⟨11, 0, 0⟩] (by decide) pc cc
  show List.any [mdF ty pc cc (codeF l)] deep7 = false
  simp [hd]
theorem ans_bad {m : MoV} (hr : rightMod m = true) (hd : m.funcs.any deep7 = false) (hb : (m.funcs.all (validFn m) && (memory7 m && (exports7 m && start7 m))) = false) : modAns7 m = 4 := by
  unfold modAns7
  rw [hr, hd, hb]
  rfl
theorem ans_good {m : MoV} (hr : rightMod m = true) (hd : m.funcs.any deep7 = false) (hb : (m.funcs.all (validFn m) && (memory7 m && (exports7 m && start7 m))) = true) : modAns7 m = 0 := by
  unfold modAns7
  rw [hr, hd, hb]
  rfl
theorem bad_mem {a b c d : Bool} (h : b = false) : (a && (b && (c && d))) = false := by subst h; cases a <;> rfl
theorem bad_exp {a b c d : Bool} (h : c = false) : (a && (b && (c && d))) = false := by subst h; cases a <;> cases b <;> rfl
theorem bad_start {a b c d : Bool} (h : d = false) : (a && (b && (c && d))) = false := by subst h; cases a <;> cases b <;> cases c <;> rfl
theorem bad_fn {a b c d : Bool} (h : a = false) : (a && (b && (c && d))) = false := by subst h; rfl
section
variable {l : List StepV} (hr : ∀ x ∈ codeF l, rightPI x = true) (hu : runs ((codeF l).map PI.op) [] = true) (H : Nat) (pc : Option Addr) (cc : Nat) (mp : Option Addr) (mc : Nat) (ep : Option Addr) (ec : Nat)
theorem md_ok0 (hr : ∀ x ∈ codeF l, rightPI x = true) (hu : runs ((codeF l).map PI.op) [] = true) : modAns7 (mdV H pc cc (codeF l) 0 mp mc [⟨1, 2⟩] ep ec [fE, ⟨⟨#[102]⟩, 2, 0⟩] (-1)) = 4 :=
  ans_bad (md_right (md_fn (by decide) hr hu) (by decide) (by decide) (by decide) (by decide) (Or.inl rfl)) (md_deep ..) (bad_exp (by kernel_rfl))
theorem md_ok1 (hr : ∀ x ∈ codeF l, rightPI x = true) (hu : runs ((codeF l).map PI.op) [] = true) (k : Int) (hk : 0 ≤ k ∧ k < 1000) : modAns7 (mdV H pc cc (codeF l) 0 mp mc [⟨1, 2⟩] ep ec [fE, ⟨⟨#[103]⟩, 0, 1 + k⟩] (-1)) = 4 := by
  have hw : word4 (1 + k) = true := by unfold word4; simp; omega
  refine ans_bad (md_right (md_fn (by decide) hr hu) (by decide) (by decide) (by show 2 ≤ 4096; decide) ?_ (Or.inl rfl)) (md_deep ..) (bad_exp ?_)
  · have h0 : rightExp fE = true := by decide
    have h1 : rightExp ⟨⟨#[103]⟩, 0, 1 + k⟩ = true := by
      unfold rightExp
      show (isName [103] && (decide ((0 : Int) = 0 ∨ (0 : Int) = 2 ∨ (0 : Int) = 3) && word4 (1 + k))) = true
      rw [hw]
      decide
    simp [h0, h1]
  · unfold exports7
    have h2 : exp1 (mdV H pc cc (codeF l) 0 mp mc [⟨1, 2⟩] ep ec [fE, ⟨⟨#[103]⟩, 0, 1 + k⟩] (-1)) ⟨⟨#[103]⟩, 0, 1 + k⟩ = false := by
      refine decide_eq_false ?_
      show ¬ (0 ≤ 1 + k ∧ 1 + k < ((1 : Nat) : Int))
      omega
    have h3 : (mdV H pc cc (codeF l) 0 mp mc [⟨1, 2⟩] ep ec [fE, ⟨⟨#[103]⟩, 0, 1 + k⟩] (-1)).exports = [fE, ⟨⟨#[103]⟩, 0, 1 + k⟩] := rfl
    rw [h3, List.all_cons, List.all_cons, h2]
    simp
theorem md_ok2 (hr : ∀ x ∈ codeF l, rightPI x = true) (hu : runs ((codeF l).map PI.op) [] = true) : modAns7 (mdV H pc cc (codeF l) 0 mp mc [⟨1, 2⟩] ep ec [fE] 0) = 4 :=
  ans_bad (md_right (md_fn (by decide) hr hu) (by decide) (by decide) (by decide) (by decide) (Or.inr (by decide))) (md_deep ..) (bad_start (by kernel_rfl))
theorem md_ok3 (hr : ∀ x ∈ codeF l, rightPI x = true) (hu : runs ((codeF l).map PI.op) [] = true) : modAns7 (mdV H pc cc (codeF l) 0 mp mc [⟨1, 2⟩, ⟨1, 2⟩] ep ec [fE] (-1)) = 4 :=
  ans_bad (md_right (md_fn (by decide) hr hu) (by decide) (by decide) (by decide) (by decide) (Or.inl rfl)) (md_deep ..) (bad_mem (by kernel_rfl))
theorem md_mem (hr : ∀ x ∈ codeF l, rightPI x = true) (hu : runs ((codeF l).map PI.op) [] = true) (a b : Int) (ha : word4 a = true) (hb : b = -1 ∨ word4 b = true) (hm : mem1 ⟨a, b⟩ = false) : modAns7 (mdV H pc cc (codeF l) 0 mp mc [⟨a, b⟩] ep ec [fE] (-1)) = 4 := by
  refine ans_bad (md_right (md_fn (by decide) hr hu) (by show 1 ≤ 4096; decide) ?_ (by decide) (by decide) (Or.inl rfl)) (md_deep ..) (bad_mem ?_)
  · have h1 : rightMem ⟨a, b⟩ = true := by
      unfold rightMem
      rw [ha]
      rcases hb with rfl | hb
      · rfl
      · show (true && (_ || word4 b)) = true
        rw [hb, Bool.or_true]
        rfl
    simp [h1]
  · unfold memory7
    have h3 : (mdV H pc cc (codeF l) 0 mp mc [⟨a, b⟩] ep ec [fE] (-1)).memory = [⟨a, b⟩] := rfl
    rw [h3, List.all_cons, hm]
    rfl
theorem md_ok4 (hr : ∀ x ∈ codeF l, rightPI x = true) (hu : runs ((codeF l).map PI.op) [] = true) (k : Int) (hk : 0 ≤ k ∧ k < 1000) : modAns7 (mdV H pc cc (codeF l) 0 mp mc [⟨65537 + k, -1⟩] ep ec [fE] (-1)) = 4 :=
  md_mem H pc cc mp mc ep ec hr hu _ _ (by unfold word4; simp; omega) (Or.inl rfl) (by unfold mem1; simp; omega)
theorem md_ok5 (hr : ∀ x ∈ codeF l, rightPI x = true) (hu : runs ((codeF l).map PI.op) [] = true) (k : Int) (hk : 0 ≤ k ∧ k < 1000) : modAns7 (mdV H pc cc (codeF l) 0 mp mc [⟨1 + k, k⟩] ep ec [fE] (-1)) = 4 :=
  md_mem H pc cc mp mc ep ec hr hu _ _ (by unfold word4; simp; omega) (Or.inr (by unfold word4; simp; omega)) (by unfold mem1; simp; omega)
theorem md_valid {ty st : Int} (hty : ty = 0) (M : List MemV) (hM : 0 < M.length) (E : List ExpV) : validFn (mdV H pc cc (codeF l) ty mp mc M ep ec E st) (mdF ty pc cc (codeF l)) = true := by
  subst hty
  have hm : Home (mdV H pc cc (codeF l) 0 mp mc M ep ec E st) := ⟨hM, 5, -5, rfl⟩
  have hg := code_goes hm l
  unfold validFn
  rw [if_pos ⟨by show (0 : Int) ≤ 0; omega, by show (0 : Int) < 1; omega⟩]
  have h2 : (vrun (ctx7 (mdV H pc cc (codeF l) 0 mp mc M ep ec E st)) ((codeF l).map insOf) startP).wrong = false := by rw [hg]
  show (!(vrun (ctx7 (mdV H pc cc (codeF l) 0 mp mc M ep ec E st)) ((codeF l).map insOf) startP).wrong) = true
  rw [h2]
  rfl
theorem md_ok6 (hr : ∀ x ∈ codeF l, rightPI x = true) (hu : runs ((codeF l).map PI.op) [] = true) : modAns7 (mdV H pc cc (codeF l) 0 mp mc [⟨1, 2⟩] ep ec [fE, ⟨⟨#[109, 101, 109]⟩, 2, 0⟩, ⟨⟨#[103, 108, 111, 98]⟩, 3, 1⟩] (-1)) = 0 := by
  refine ans_good (md_right (md_fn (by decide) hr hu) (by decide) (by decide) (by decide) (by decide) (Or.inl rfl)) (md_deep ..) ?_
  have h1 : (mdV H pc cc (codeF l) 0 mp mc [⟨1, 2⟩] ep ec [fE, ⟨⟨#[109, 101, 109]⟩, 2, 0⟩, ⟨⟨#[103, 108, 111, 98]⟩, 3, 1⟩] (-1)).funcs = [mdF 0 pc cc (codeF l)] := rfl
  have h2 : ∀ c, (memory7 (mdV H pc cc c 0 mp mc [⟨1, 2⟩] ep ec [fE, ⟨⟨#[109, 101, 109]⟩, 2, 0⟩, ⟨⟨#[103, 108, 111, 98]⟩, 3, 1⟩] (-1)) && (exports7 (mdV H pc cc c 0 mp mc [⟨1, 2⟩] ep ec [fE, ⟨⟨#[109, 101, 109]⟩, 2, 0⟩, ⟨⟨#[103, 108, 111, 98]⟩, 3, 1⟩] (-1)) && start7 (mdV H pc cc c 0 mp mc [⟨1, 2⟩] ep ec [fE, ⟨⟨#[109, 101, 109]⟩, 2, 0⟩, ⟨⟨#[103, 108, 111, 98]⟩, 3, 1⟩] (-1)))) = true := fun c => by kernel_rfl
  rw [h1, List.all_cons, md_valid H pc cc mp mc ep ec rfl _ (by decide) _, h2]
  rfl
theorem md_ok7 (hr : ∀ x ∈ codeF l, rightPI x = true) (hu : runs ((codeF l).map PI.op) [] = true) : modAns7 (mdV H pc cc (codeF l) 1 mp mc [⟨1, 2⟩] ep ec [fE] (-1)) = 4 := by
  refine ans_bad (md_right (md_fn (by decide) hr hu) (by decide) (by decide) (by decide) (by decide) (Or.inl rfl)) (md_deep ..) (bad_fn ?_)
  have h1 : (mdV H pc cc (codeF l) 1 mp mc [⟨1, 2⟩] ep ec [fE] (-1)).funcs = [mdF 1 pc cc (codeF l)] := rfl
  have h2 : validFn (mdV H pc cc (codeF l) 1 mp mc [⟨1, 2⟩] ep ec [fE] (-1)) (mdF 1 pc cc (codeF l)) = false := by
    unfold validFn
    exact if_neg (fun h => by have h2 : (1 : Int) < ((1 : Nat) : Int) := h.2; omega)
  rw [h1, List.all_cons, h2]
  rfl
end
/-- Where it lies. -/
theorem md_at {W : World} {H : Nat} {pc : Option Addr} {cc : Nat} {code : List PI} {ty : Int} {mp : Option Addr} {mc : Nat} {M : List MemV} {ep : Option Addr} {ec : Nat} {E : List ExpV} {st : Int}
    (ht : W.heap[H]? = some (.cells #[.string ⟨#[126, 127]⟩, .string ⟨#[126]⟩] 51)) (hf : W.heap[H + 1]? = some (.cells #[.int .i64 ty, .string ⟨#[127, 126]⟩, .slice pc code.length cc] 35))
    (hg : W.heap[H + 3]? = some (.cells #[.int .i64 127, .bool true, .int .i64 5, .int .i64 126, .bool true, .int .i64 (-5)] 71)) (hd : W.heap[H + 5]? = some (.cells #[.int .i64 100, .string someBytes] 73))
    (hc : CodeAt W pc (code.map insOf)) (hty : inI64 ty) (hM : RowsAt W mp 2 MemV.row M) (hMi : ∀ t ∈ M, inI64 t.min ∧ inI64 t.max) (hMl : M.length ≤ mostThings) (hE : RowsAt W ep 3 ExpV.row E) (hEi : ∀ t ∈ E, t.name.size ≤ maxLen ∧ inI64 t.kind ∧ inI64 t.index) (hEl : E.length ≤ mostThings) (hs : inI64 st) : ModAt W (mdV H pc cc code ty mp mc M ep ec E st) where
  types := rows_block ht rfl (fun x _ => rfl)
  typesIn := by intro t ht; rw [List.mem_singleton.1 ht]; exact ⟨by decide, by decide⟩
  typesMost := by show 1 ≤ mostThings; decide
  funcs := rows_block hf (by simp [mdV, mdF, FnV.row]) (fun x _ => rfl)
  funcsIn := by intro f hf; rw [List.mem_singleton.1 hf]; exact ⟨hc, (by show 2 ≤ maxLen; decide), hty⟩
  funcsMost := by show 1 ≤ mostThings; decide
  memory := hM
  memoryIn := hMi
  memoryMost := hMl
  globals := rows_block hg rfl (fun x _ => rfl)
  globalsIn := by
    intro t ht
    rcases List.mem_cons.1 ht with rfl | ht
    · exact ⟨(by show inI64 127; decide), (by show inI64 5; decide)⟩
    · rw [List.mem_singleton.1 ht]; exact ⟨(by show inI64 126; decide), (by show inI64 (-5); decide)⟩
  globalsMost := by show 2 ≤ mostThings; decide
  exports := hE
  exportsIn := hEi
  exportsMost := hEl
  startIn := hs
  data := rows_block hd rfl (fun x _ => rfl)
  dataIn := by intro t ht; rw [List.mem_singleton.1 ht]; exact ⟨(by show inI64 100; decide), (by show 10 ≤ maxLen; decide)⟩
  dataMost := by show 1 ≤ mostThings; decide
end Go.Proofs.YtomffpibdinkaaaGreatDoor
