/-
  Programs gone through, boxes, what package valid answers of a call, appends behind an offset. Plain; no program is looked at.
-/
import Derived.Test.YtomffpibdinkaaaGreatDoorValFunc
import Derived.Test.YtomffpibdinkaaaGreatDoorValMod
import Derived.Test.YtomffpibdinkaaaGreatDoorValThru
import Derived.Maps.AppendAt

namespace Go.Proofs.YtomffpibdinkaaaGreatDoor
open Go.RowKit
set_option linter.unusedVariables false
set_option linter.unusedSimpArgs false

def u8T (k : Int) : UInt8 := if k = 126 then 126 else 127
def frOf (o : PO) : FrV := ⟨o.op, answer7 o.result, o.height, false⟩
def frs (l : List PO) : List FrV := l.reverse.map frOf ++ [⟨2, [126], 0, false⟩]
/-- What the walk holds where the program holds this. -/
def vsOf (t : PS) : VS := ⟨(t.stack.map u8T).reverse, frs t.opens, false⟩
def ctx7 (m : MoV) : VC := ⟨m, [126, 127, 127, 126], [126]⟩
/-- The module that such programs are put into. -/
structure Home (m : MoV) : Prop where
  mem : 0 < m.memory.length
  glob : ∃ i0 i1, m.globals = [⟨127, true, i0⟩, ⟨126, true, i1⟩]
structure OkS (t : PS) : Prop where
  st : ∀ k ∈ t.stack, k = 126 ∨ k = 127
  op : ∀ o ∈ t.opens, (o.op = 2 ∨ o.op = 3 ∨ (o.op = 4 ∨ o.op = 5) ∧ o.result = 64) ∧ (o.result = 64 ∨ o.result = 126 ∨ o.result = 127)
  sorted : t.opens.Pairwise fun a b => a.height ≤ b.height
  under : ∀ o ∈ t.opens, o.height ≤ t.stack.length
def startP : VS := ⟨[], [⟨2, [126], 0, false⟩], false⟩
/-- The program's code, gone through, leaves what it says. -/
structure Sim (m : MoV) (t : PS) : Prop where
  ok : OkS t
  go : ∀ rest, vrun (ctx7 m) (t.code.map insOf ++ rest) startP = vrun (ctx7 m) rest (vsOf t)
variable {m : MoV} {t : PS}

theorem Sim.begin (m : MoV) : Sim m ⟨[], [], []⟩ := ⟨⟨(fun k h => by cases h), (fun o h => by cases h), List.Pairwise.nil, (fun o h => by cases h)⟩, fun rest => rfl⟩
theorem Sim.ins (h : Sim m t) (x : PI) {t' : PS} (hc : t'.code = t.code ++ [x]) (hok : OkS t') (hv : vstep (ctx7 m) (insOf x) (vsOf t) = vsOf t') : Sim m t' := by
  refine ⟨hok, fun rest => ?_⟩
  rw [hc, List.map_append, List.append_assoc, h.go]
  show vrun (ctx7 m) (insOf x :: rest) (vsOf t) = _
  rw [vrun, hv]
  exact if_neg (fun h => by cases h)
theorem inner_of (t : PS) : (vsOf t).inner = match t.opens.getLast? with | none => ⟨2, [126], 0, false⟩ | some o => frOf o := by
  unfold VS.inner vsOf frs
  simp only
  cases hl : t.opens.getLast? with
  | none =>
    have : t.opens = [] := List.getLast?_eq_none_iff.1 hl
    rw [this]
    rfl
  | some o =>
    obtain ⟨l, hl2⟩ := List.getLast?_eq_some_iff.1 hl
    rw [hl2, List.reverse_append]
    rfl
theorem inner_dead (t : PS) : (vsOf t).inner.dead = false := by
  rw [inner_of]
  cases t.opens.getLast? <;> rfl
theorem inner_height (t : PS) : (vsOf t).inner.height = topHeight t := by
  rw [inner_of]
  unfold topHeight
  cases t.opens.getLast? <;> rfl
theorem len_of (t : PS) : (vsOf t).stack.length = t.stack.length := by simp [vsOf]
theorem takeAny_of (st : List Int) (k : Int) (hst : t.stack = st ++ [k]) (hh : topHeight t ≤ st.length) : (vsOf t).takeAny = (u8T k, vsOf { t with stack := st }) := by
  unfold VS.takeAny
  rw [inner_height, len_of, hst, List.length_append, List.length_singleton, if_neg (by omega)]
  simp [vsOf, hst]
theorem take_of7 : ∀ (r : List Int) (t : PS) (st : List Int), t.stack = st ++ r.reverse → topHeight t ≤ st.length → takeL (r.map u8T) (vsOf t) = vsOf { t with stack := st }
  | [], t, st, h, hh => by
    have : t.stack = st := by simpa using h
    rw [List.map_nil, takeL, ← this]
  | k :: r, t, st, h, hh => by
    have h2 : t.stack = (st ++ r.reverse) ++ [k] := by rw [h, List.reverse_cons, List.append_assoc]
    have ht := takeAny_of (t := t) (st ++ r.reverse) k h2 (by rw [List.length_append]; omega)
    rw [List.map_cons, takeL]
    have he : (vsOf t).endless = false := by
      unfold VS.endless
      rw [inner_dead]
      rfl
    rw [he, if_neg (fun h => by cases h), ht]
    have ha : (vsOf { t with stack := st ++ r.reverse }).ask (u8T k == u8T k || u8T k == 0) = vsOf { t with stack := st ++ r.reverse } := by
      simp [VS.ask, vsOf]
    simp only
    rw [ha]
    exact take_of7 r { t with stack := st ++ r.reverse } st rfl hh
/-- Types are taken that stand on top. -/
theorem takes (st ks : List Int) (hst : t.stack = st ++ ks) (hh : topHeight t ≤ st.length) : (vsOf t).take (ks.map u8T) = vsOf { t with stack := st } := by
  unfold VS.take
  rw [← List.map_reverse]
  exact take_of7 ks.reverse t st (by rw [List.reverse_reverse]; exact hst) hh
theorem puts (t : PS) (rs : List Int) : (vsOf t).put (rs.map u8T) = vsOf { t with stack := t.stack ++ rs } := by
  simp [VS.put, vsOf]
/-! ### Instructions that only take and put -/
def special7 : List Int := [0, 2, 3, 4, 5, 11, 12, 13, 14, 15, 16, 26, 27, 32, 33, 34, 35, 36]
def plainB (op : Int) (ps rs : List UInt8) : Bool := !special7.contains op && match byCode op with
  | some r => decide (r.shape ≠ 5 ∧ r.shape ≠ 6) && decide (r.params.data.toList = ps) && decide (r.results.data.toList = rs)
  | none => false
def plainM (op pw : Int) (ps rs : List UInt8) : Bool := !special7.contains op && decide (power7 op = pw) && match byCode op with
  | some r => decide (r.shape = 5 ∨ r.shape = 6) && decide (r.params.data.toList = ps) && decide (r.results.data.toList = rs)
  | none => false
theorem not_special {op : Int} (h : special7.contains op = false) : ¬ op = 0 ∧ ¬ (op = 2 ∨ op = 3) ∧ ¬ op = 4 ∧ ¬ op = 5 ∧ ¬ op = 11 ∧ ¬ op = 12 ∧ ¬ op = 13 ∧ ¬ op = 14 ∧ ¬ op = 15 ∧ ¬ op = 16 ∧ ¬ op = 26 ∧ ¬ op = 27 ∧ ¬ op = 32 ∧ ¬ op = 33 ∧ ¬ op = 34 ∧ ¬ op = 35 ∧ ¬ op = 36 := by
  have hn : ¬ op ∈ special7 := by simpa using h
  simp only [special7, List.mem_cons, List.not_mem_nil, or_false, not_or] at hn
  omega
theorem vstep_plain {op : Int} {ps rs : List UInt8} (h : plainB op ps rs = true) (c : VC) (a b : Int) (s : VS) : vstep c (insOf ⟨op, a, b⟩) s = (s.take ps).put rs := by
  unfold plainB at h
  simp only [Bool.and_eq_true, Bool.not_eq_true'] at h
  obtain ⟨h1, h2⟩ := h
  obtain ⟨n0, n1, n2, n3, n4, n5, n6, n7, n8, n9, n10, n11, n12, n13, n14, n15, n16⟩ := not_special h1
  cases hb : byCode op with
  | none => rw [hb] at h2; cases h2
  | some r =>
    rw [hb] at h2
    simp only [Bool.and_eq_true, decide_eq_true_eq] at h2
    obtain ⟨⟨⟨s5, s6⟩, hp⟩, hr⟩ := h2
    unfold vstep insOf
    simp only [n0, n1, n2, n3, n4, n5, n6, n7, n8, n9, n10, n11, n12, n13, n14, n15, n16, if_false, hb, s5, s6, or_self, hp, hr]
theorem vstep_mem {op pw : Int} {ps rs : List UInt8} (h : plainM op pw ps rs = true) (m : MoV) (hm : Home m) (a b : Int) (ha : a ≤ pw) (s : VS) : vstep (ctx7 m) (insOf ⟨op, a, b⟩) s = (s.take ps).put rs := by
  unfold plainM at h
  simp only [Bool.and_eq_true, Bool.not_eq_true', decide_eq_true_eq] at h
  obtain ⟨⟨h1, hpw⟩, h2⟩ := h
  obtain ⟨n0, n1, n2, n3, n4, n5, n6, n7, n8, n9, n10, n11, n12, n13, n14, n15, n16⟩ := not_special h1
  cases hb : byCode op with
  | none => rw [hb] at h2; cases h2
  | some r =>
    rw [hb] at h2
    simp only [Bool.and_eq_true, decide_eq_true_eq] at h2
    obtain ⟨⟨s5, hp⟩, hr⟩ := h2
    have hask : s.ask (decide (0 < m.memory.length) && decide (a ≤ power7 op)) = s := by
      rw [hpw, decide_eq_true hm.mem, decide_eq_true ha]
      unfold VS.ask
      simp
    unfold vstep insOf
    simp only [n0, n1, n2, n3, n4, n5, n6, n7, n8, n9, n10, n11, n12, n13, n14, n15, n16, if_false, hb, s5, if_true, hp, hr]
    show ((s.ask (decide (0 < m.memory.length) && decide (a ≤ power7 op))).take ps).put rs = _
    rw [hask]
theorem OkS.restack (h : OkS t) (st : List Int) (hst : ∀ k ∈ st, k = 126 ∨ k = 127) (hh : topHeight t ≤ st.length) (code : List PI) : OkS { t with code := code, stack := st } := by
  refine ⟨hst, h.op, h.sorted, fun o ho => Nat.le_trans ?_ hh⟩
  unfold topHeight
  cases hl : t.opens.getLast? with
  | none =>
    have : t.opens = [] := List.getLast?_eq_none_iff.1 hl
    rw [this] at ho
    cases ho
  | some p =>
    obtain ⟨l, hl2⟩ := List.getLast?_eq_some_iff.1 hl
    have hs := h.sorted
    rw [hl2] at hs ho
    rcases List.mem_append.1 ho with e | e
    · exact (List.pairwise_append.1 hs).2.2 o e p (List.mem_singleton.2 rfl)
    · rw [List.mem_singleton.1 e]
      exact Nat.le_refl _
theorem OkS.top (h : OkS t) : topHeight t ≤ t.stack.length := by
  unfold topHeight
  cases hl : t.opens.getLast? with
  | none => exact Nat.zero_le _
  | some p => exact h.under p (List.mem_of_getLast? hl)
/-- An instruction that takes and puts. -/
theorem Sim.does (h : Sim m t) (x : PI) {ps rs : List UInt8} (hv : ∀ s, vstep (ctx7 m) (insOf x) s = (s.take ps).put rs) (st ks qs : List Int) (hst : t.stack = st ++ ks) (hh : topHeight t ≤ st.length) (hp : ks.map u8T = ps) (hr : qs.map u8T = rs) (hq : ∀ k ∈ qs, k = 126 ∨ k = 127) : Sim m { t with code := t.code ++ [x], stack := st ++ qs } := by
  refine h.ins x rfl (h.ok.restack _ (fun k hk => ?_) (by rw [List.length_append]; omega) _) ?_
  · rcases List.mem_append.1 hk with e | e
    · exact h.ok.st k (by rw [hst]; exact List.mem_append_left _ e)
    · exact hq k e
  · rw [hv, ← hp, takes st ks hst hh, ← hr, puts]
    rfl
end Go.Proofs.YtomffpibdinkaaaGreatDoor


namespace Go.Proofs.YtomffpibdinkaaaGreatDoor
open Go.RowKit
set_option linter.unusedVariables false
set_option linter.unusedSimpArgs false
variable {m : MoV} {t : PS}

/-! ### The instructions by themselves -/
theorem take_nil (s : VS) : s.take [] = s := rfl
theorem put_nil (s : VS) : s.put [] = s := rfl
theorem v_drop (c : VC) (a b : Int) (s : VS) : vstep c (insOf ⟨26, a, b⟩) s = s.takeAny.2 := by simp [vstep, insOf]
theorem v_get (m : MoV) (a b : Int) (k : UInt8) (h : (a = 0 ∧ k = 126) ∨ (a = 1 ∧ k = 127) ∨ (a = 2 ∧ k = 127) ∨ (a = 3 ∧ k = 126)) (s : VS) : vstep (ctx7 m) (insOf ⟨32, a, b⟩) s = (s.take []).put [k] := by
  rcases h with ⟨rfl, rfl⟩ | ⟨rfl, rfl⟩ | ⟨rfl, rfl⟩ | ⟨rfl, rfl⟩ <;> simp [vstep, insOf, local7, ctx7, take_nil]
theorem v_set (m : MoV) (a b : Int) (k : UInt8) (h : (a = 0 ∧ k = 126) ∨ (a = 1 ∧ k = 127) ∨ (a = 2 ∧ k = 127) ∨ (a = 3 ∧ k = 126)) (s : VS) : vstep (ctx7 m) (insOf ⟨33, a, b⟩) s = (s.take [k]).put [] := by
  rcases h with ⟨rfl, rfl⟩ | ⟨rfl, rfl⟩ | ⟨rfl, rfl⟩ | ⟨rfl, rfl⟩ <;> simp [vstep, insOf, local7, ctx7, put_nil]
theorem v_tee (m : MoV) (a b : Int) (k : UInt8) (h : (a = 0 ∧ k = 126) ∨ (a = 1 ∧ k = 127) ∨ (a = 2 ∧ k = 127) ∨ (a = 3 ∧ k = 126)) (s : VS) : vstep (ctx7 m) (insOf ⟨34, a, b⟩) s = (s.take [k]).put [k] := by
  rcases h with ⟨rfl, rfl⟩ | ⟨rfl, rfl⟩ | ⟨rfl, rfl⟩ | ⟨rfl, rfl⟩ <;> simp [vstep, insOf, local7, ctx7]
theorem v_gget (hm : Home m) (a b : Int) (k : UInt8) (h : (a = 0 ∧ k = 127) ∨ (a = 1 ∧ k = 126)) (s : VS) : vstep (ctx7 m) (insOf ⟨35, a, b⟩) s = (s.take []).put [k] := by
  obtain ⟨i0, i1, hg⟩ := hm.glob
  rcases h with ⟨rfl, rfl⟩ | ⟨rfl, rfl⟩ <;> simp [vstep, insOf, global7, ctx7, hg, take_nil, answer7]
theorem v_gset (hm : Home m) (b : Int) (s : VS) : vstep (ctx7 m) (insOf ⟨36, 1, b⟩) s = (s.take [126]).put [] := by
  obtain ⟨i0, i1, hg⟩ := hm.glob
  simp [vstep, insOf, global7, ctx7, hg, put_nil, answer7, VS.ask]
theorem u8T_126 : u8T 126 = 126 := rfl
theorem u8T_127 : u8T 127 = 127 := rfl
theorem b_const (k : Int) (hk : k = 126 ∨ k = 127) : plainB (192 - k) [] [u8T k] = true := by
  rcases hk with rfl | rfl <;> decide +kernel
theorem b_turn (k : Int) (hk : k = 126 ∨ k = 127) : plainB (if k = 127 then 167 else 173) [u8T (253 - k)] [u8T k] = true := by
  rcases hk with rfl | rfl <;> decide +kernel

/-- What stands on top, over what is under the block's own. -/
structure Tops (t : PS) (k : Int) (st : List Int) : Prop where
  stack : t.stack = st ++ [k]
  height : topHeight t ≤ st.length
theorem sim_want (h : Sim m t) (k : Int) (hk : k = 126 ∨ k = 127) : Sim m (wantF t k) ∧ (wantF t k).opens = t.opens ∧ ∃ st, Tops (wantF t k) k st ∧ st.take (topHeight t) = t.stack.take (topHeight t) := by
  unfold wantF
  split
  · next hh =>
    have h1 := h.does ⟨192 - k, 7, 0⟩ (fun s => vstep_plain (b_const k hk) _ _ _ s) t.stack [] [k] (by simp) (by omega) rfl rfl (fun x hx => by rw [List.mem_singleton.1 hx]; exact hk)
    exact ⟨h1, rfl, t.stack, ⟨rfl, Nat.le_of_eq hh⟩, rfl⟩
  · next hh =>
    have ht := h.ok.top
    cases hl : t.stack.getLast? with
    | none =>
      have : t.stack = [] := List.getLast?_eq_none_iff.1 hl
      rw [this] at hh ht
      exact absurd (Nat.le_zero.1 ht) hh
    | some x =>
      obtain ⟨st, hst⟩ := List.getLast?_eq_some_iff.1 hl
      have hlen : t.stack.length = st.length + 1 := by rw [hst, List.length_append]; rfl
      have htop : topHeight t ≤ st.length := by omega
      have htk : st.take (topHeight t) = t.stack.take (topHeight t) := by rw [hst, List.take_append_of_le_length htop]
      split
      · next hx =>
        injection hx with hx
        subst hx
        exact ⟨h, rfl, st, ⟨hst, htop⟩, htk⟩
      · next hx =>
        have hxm := h.ok.st x (by rw [hst]; simp)
        have hne : x = 253 - k := by
          have : ¬ x = k := fun e => hx (by rw [e])
          omega
        have h1 := h.does ⟨if k = 127 then 167 else 173, 0, 0⟩ (fun s => vstep_plain (b_turn k hk) _ _ _ s) st [253 - k] [k] (by rw [hst, hne]) htop rfl rfl (fun x hx => by rw [List.mem_singleton.1 hx]; exact hk)
        have hd : t.stack.dropLast = st := by rw [hst]; simp
        rw [hd]
        exact ⟨h1, rfl, st, ⟨rfl, htop⟩, htk⟩
/-- What is wanted, then one instruction more that takes it. -/
theorem Sim.on (h : Sim m t) {k : Int} {st : List Int} (hT : Tops t k st) (x : PI) (qs : List Int) (hv : ∀ s, vstep (ctx7 m) (insOf x) s = (s.take [u8T k]).put (qs.map u8T)) (hq : ∀ k ∈ qs, k = 126 ∨ k = 127) : Sim m { t with code := t.code ++ [x], stack := st ++ qs } :=
  h.does x hv st [k] qs hT.stack hT.height rfl rfl hq
theorem Sim.more (h : Sim m t) (x : PI) (qs : List Int) (hv : ∀ s, vstep (ctx7 m) (insOf x) s = (s.take []).put (qs.map u8T)) (hq : ∀ k ∈ qs, k = 126 ∨ k = 127) : Sim m { t with code := t.code ++ [x], stack := t.stack ++ qs } :=
  h.does x hv t.stack [] qs (by simp) h.ok.top rfl rfl hq
theorem Sim.drop (h : Sim m t) {k : Int} {st : List Int} (hT : Tops t k st) : Sim m { t with code := t.code ++ [⟨26, 0, 0⟩], stack := st } := by
  refine h.ins ⟨26, 0, 0⟩ rfl (h.ok.restack _ (fun k hk => h.ok.st k (by rw [hT.stack]; exact List.mem_append_left _ hk)) hT.height _) ?_
  rw [v_drop, takeAny_of st k hT.stack hT.height]
  rfl
/-! ### A level is put right -/
theorem sim_drops (h : Sim m t) : ∀ n, n + topHeight t ≤ t.stack.length → Sim m { t with code := t.code ++ reps n [⟨26, 0, 0⟩], stack := t.stack.take (t.stack.length - n) }
  | 0, _ => by
    have : ({ t with code := t.code ++ reps 0 [⟨26, 0, 0⟩], stack := t.stack.take (t.stack.length - 0) } : PS) = t := by
      rw [reps_zero, List.append_nil, Nat.sub_zero, List.take_length]
    rw [this]
    exact h
  | n + 1, hn => by
    have h1 := sim_drops h n (by omega)
    have hlt : t.stack.length - (n + 1) < t.stack.length := by omega
    have he : t.stack.take (t.stack.length - n) = t.stack.take (t.stack.length - (n + 1)) ++ [t.stack[t.stack.length - (n + 1)]] := by
      rw [show t.stack.length - n = t.stack.length - (n + 1) + 1 by omega, ← List.take_append_getElem hlt]
    have h2 := h1.drop (k := t.stack[t.stack.length - (n + 1)]) (st := t.stack.take (t.stack.length - (n + 1))) ⟨he, by rw [List.length_take]; show topHeight t ≤ _; omega⟩
    rw [reps_snoc, ← List.append_assoc]
    exact h2
theorem sim_unders (h : Sim m t) (k : Int) (hk : k = 126 ∨ k = 127) (st : List Int) (hT : Tops t k st) : ∀ n, n + topHeight t ≤ st.length → Sim m { t with code := t.code ++ reps n [⟨33, 129 - k, 0⟩, ⟨26, 0, 0⟩, ⟨32, 129 - k, 0⟩], stack := st.take (st.length - n) ++ [k] }
  | 0, _ => by
    have : ({ t with code := t.code ++ reps 0 [⟨33, 129 - k, 0⟩, ⟨26, 0, 0⟩, ⟨32, 129 - k, 0⟩], stack := st.take (st.length - 0) ++ [k] } : PS) = t := by
      rw [reps_zero, List.append_nil, Nat.sub_zero, List.take_length, ← hT.stack]
    rw [this]
    exact h
  | n + 1, hn => by
    have h1 := sim_unders h k hk st hT n (by omega)
    have hlt : st.length - (n + 1) < st.length := by omega
    have he : st.take (st.length - n) = st.take (st.length - (n + 1)) ++ [st[st.length - (n + 1)]] := by
      rw [show st.length - n = st.length - (n + 1) + 1 by omega, ← List.take_append_getElem hlt]
    have hloc : (129 - k = 0 ∧ u8T k = 126) ∨ (129 - k = 1 ∧ u8T k = 127) ∨ (129 - k = 2 ∧ u8T k = 127) ∨ (129 - k = 3 ∧ u8T k = 126) := by
      rcases hk with rfl | rfl
      · exact Or.inr (Or.inr (Or.inr ⟨rfl, rfl⟩))
      · exact Or.inr (Or.inr (Or.inl ⟨rfl, rfl⟩))
    have h2 := h1.on (k := k) (st := st.take (st.length - n)) ⟨rfl, by rw [List.length_take]; show topHeight t ≤ _; omega⟩ ⟨33, 129 - k, 0⟩ [] (fun s => v_set m _ _ _ hloc s) (fun x hx => by cases hx)
    have h3 := h2.drop (k := st[st.length - (n + 1)]) (st := st.take (st.length - (n + 1))) ⟨by rw [List.append_nil]; exact he, by rw [List.length_take]; show topHeight t ≤ _; omega⟩
    have h4 := h3.more ⟨32, 129 - k, 0⟩ [k] (fun s => v_get m _ _ _ hloc s) (fun x hx => by rw [List.mem_singleton.1 hx]; exact hk)
    have hc : t.code ++ reps (n + 1) [⟨33, 129 - k, 0⟩, ⟨26, 0, 0⟩, ⟨32, 129 - k, 0⟩] = ((t.code ++ reps n [⟨33, 129 - k, 0⟩, ⟨26, 0, 0⟩, ⟨32, 129 - k, 0⟩]) ++ [⟨33, 129 - k, 0⟩] ++ [⟨26, 0, 0⟩]) ++ [⟨32, 129 - k, 0⟩] := by
      rw [reps_snoc]
      simp
    rw [hc]
    exact h4
/-- What the walk holds once a level has been put right. -/
def levS (t : PS) (r : Int) : PS := { t with code := (levelF t r (topHeight t)).code, stack := t.stack.take (topHeight t) ++ (if r = 64 then [] else [r]) }
theorem sim_level (h : Sim m t) (r : Int) (hr : r = 64 ∨ r = 126 ∨ r = 127) : Sim m (levS t r) := by
  have ht := h.ok.top
  unfold levS levelF
  by_cases h64 : r = 64
  · simp only [if_pos h64, List.append_nil]
    have h1 := sim_drops h (t.stack.length - topHeight t) (by omega)
    rw [show t.stack.length - (t.stack.length - topHeight t) = topHeight t by omega] at h1
    exact h1
  · simp only [if_neg h64]
    have hk : r = 126 ∨ r = 127 := by omega
    obtain ⟨h1, ho, st, hT, htk⟩ := sim_want h r hk
    have hth : topHeight (wantF t r) = topHeight t := by unfold topHeight; rw [ho]
    have hle := hT.height
    rw [hth] at hle
    have h2 := sim_unders h1 r hk st hT (st.length - topHeight t) (by rw [hth]; omega)
    have hn : (wantF t r).stack.length - (topHeight t + 1) = st.length - topHeight t := by
      rw [hT.stack, List.length_append, List.length_singleton]
      omega
    rw [show st.length - (st.length - topHeight t) = topHeight t by omega, htk] at h2
    rw [hn]
    have : ({ t with code := (wantF t r).code ++ reps (st.length - topHeight t) [⟨33, 129 - r, 0⟩, ⟨26, 0, 0⟩, ⟨32, 129 - r, 0⟩], stack := t.stack.take (topHeight t) ++ [r] } : PS) = { wantF t r with code := (wantF t r).code ++ reps (st.length - topHeight t) [⟨33, 129 - r, 0⟩, ⟨26, 0, 0⟩, ⟨32, 129 - r, 0⟩], stack := t.stack.take (topHeight t) ++ [r] } := by
      show PS.mk _ _ t.opens = PS.mk _ _ (wantF t r).opens
      rw [ho]
    rw [this]
    exact h2
end Go.Proofs.YtomffpibdinkaaaGreatDoor


namespace Go.Proofs.YtomffpibdinkaaaGreatDoor
open Go.RowKit
set_option linter.unusedVariables false
set_option linter.unusedSimpArgs false
variable {m : MoV} {t : PS}

theorem answer_of (r : Int) (hr : r = 64 ∨ r = 126 ∨ r = 127) : answer7 r = (if r = 64 then ([] : List Int) else [r]).map u8T := by
  rcases hr with rfl | rfl | rfl <;> rfl
theorem top_of {l : List PO} {o : PO} (ho : t.opens = l ++ [o]) : topHeight t = o.height := by
  unfold topHeight
  rw [ho, List.getLast?_append]
  rfl
theorem inner_is {l : List PO} {o : PO} (ho : t.opens = l ++ [o]) : (vsOf t).inner = frOf o := by
  rw [inner_of, ho, List.getLast?_append]
  rfl
theorem frs_snoc (l : List PO) (o : PO) : frs (l ++ [o]) = frOf o :: frs l := by
  unfold frs
  rw [List.reverse_append]
  rfl
/-- A block's end: its result is taken, and the block. -/
theorem leave_of (l : List PO) (o : PO) (ho : t.opens = l ++ [o]) (hr : o.result = 64 ∨ o.result = 126 ∨ o.result = 127) (st : List Int) (hst : t.stack = st ++ (if o.result = 64 then [] else [o.result])) (hh : st.length = o.height) : (vsOf t).leave = vsOf { t with stack := st, opens := l } := by
  have h1 : (vsOf t).take (frOf o).result = vsOf { t with stack := st } := by
    show (vsOf t).take (answer7 o.result) = _
    rw [answer_of _ hr]
    exact takes st _ hst (by rw [top_of ho, hh]; exact Nat.le_refl _)
  unfold VS.leave
  rw [inner_is ho, h1]
  have h2 : (vsOf { t with stack := st }).stack.length = (frOf o).height := by
    rw [len_of]
    exact hh
  rw [decide_eq_true h2]
  unfold VS.ask vsOf
  simp only [Bool.not_true, Bool.or_false]
  rw [ho, frs_snoc]
  rfl
theorem ok_opens (h : OkS t) (st : List Int) (hst : ∀ k ∈ st, k = 126 ∨ k = 127) (l : List PO) (o : PO) (ho : t.opens = l ++ [o]) (hh : o.height ≤ st.length) (code : List PI) : OkS ⟨code, st, l⟩ := by
  have hs := h.sorted
  rw [ho] at hs
  refine ⟨hst, fun p hp => h.op p (by rw [ho]; exact List.mem_append_left _ hp), (List.pairwise_append.1 hs).1, fun p hp => ?_⟩
  exact Nat.le_trans ((List.pairwise_append.1 hs).2.2 p hp o (List.mem_singleton.2 rfl)) hh
theorem ok_snoc (h : OkS t) (o : PO) (h1 : (o.op = 2 ∨ o.op = 3 ∨ (o.op = 4 ∨ o.op = 5) ∧ o.result = 64) ∧ (o.result = 64 ∨ o.result = 126 ∨ o.result = 127)) (h2 : o.height = t.stack.length) (code : List PI) : OkS ⟨code, t.stack, t.opens ++ [o]⟩ := by
  refine ⟨h.st, fun p hp => ?_, List.pairwise_append.2 ⟨h.sorted, List.pairwise_singleton _ _, fun a ha b hb => ?_⟩, fun p hp => ?_⟩
  · rcases List.mem_append.1 hp with e | e
    · exact h.op p e
    · rw [List.mem_singleton.1 e]; exact h1
  · rw [List.mem_singleton.1 hb, h2]
    exact h.under a ha
  · rcases List.mem_append.1 hp with e | e
    · exact h.under p e
    · rw [List.mem_singleton.1 e, h2]; exact Nat.le_refl _
theorem sim_shut (h : Sim m t) : Sim m (shutF t) := by
  unfold shutF
  cases hl : t.opens.getLast? with
  | none => exact h
  | some o =>
    obtain ⟨l, ho⟩ := List.getLast?_eq_some_iff.1 hl
    have hop := h.ok.op o (by rw [ho]; simp)
    have hth := top_of ho
    have hu := h.ok.under o (by rw [ho]; simp)
    have hlev := sim_level h o.result hop.2
    have hlen : (t.stack.take (topHeight t)).length = o.height := by rw [List.length_take, hth]; omega
    have hld : t.opens.dropLast = l := by rw [ho]; simp
    simp only
    rw [hld, ← hth]
    have hlv := leave_of (t := levS t o.result) l o ho hop.2 (t.stack.take (topHeight t)) rfl hlen
    have hin := inner_is (t := levS t o.result) ho
    have hst : ∀ k ∈ t.stack.take (topHeight t) ++ (if o.result = 64 then [] else [o.result]), k = 126 ∨ k = 127 := hlev.ok.st
    refine hlev.ins ⟨11, 0, 0⟩ rfl ?_ ?_
    · exact ok_opens h.ok _ hst l o ho (by rw [List.length_append, hlen]; omega) _
    · have hv : vstep (ctx7 m) (insOf ⟨11, 0, 0⟩) (vsOf (levS t o.result)) = ((vsOf (levS t o.result)).leave.ask ((vsOf (levS t o.result)).inner.code != 4 || (vsOf (levS t o.result)).inner.result.isEmpty)).put (vsOf (levS t o.result)).inner.result := by simp [vstep, insOf]
      have hc : ((frOf o).code != 4 || (frOf o).result.isEmpty) = true := by
        show (o.op != 4 || (answer7 o.result).isEmpty) = true
        rcases hop.1 with e | e | e
        · rw [e]; rfl
        · rw [e]; rfl
        · rw [e.2]; simp [answer7]
      rw [hv, hin, hc, hlv]
      have ha : ∀ s : VS, s.ask true = s := fun s => by simp [VS.ask]
      rw [ha]
      show VS.put _ (answer7 o.result) = _
      rw [answer_of _ hop.2, puts]
      rfl
theorem sim_else (h : Sim m t) (o : PO) (l : List PO) (ho : t.opens = l ++ [o]) (h4 : o.op = 4) : Sim m (elseF t o) := by
  have hop := h.ok.op o (by rw [ho]; simp)
  have h64 : o.result = 64 := by
    rcases hop.1 with e | e | e
    · omega
    · omega
    · exact e.2
  have hth := top_of ho
  have hu := h.ok.under o (by rw [ho]; simp)
  have hlev := sim_level h o.result hop.2
  have hlen : (t.stack.take (topHeight t)).length = o.height := by rw [List.length_take, hth]; omega
  have hld : t.opens.dropLast = l := by rw [ho]; simp
  unfold elseF
  rw [hld, ← hth]
  have hs : (levS t o.result).stack = t.stack.take (topHeight t) := by
    show _ ++ _ = _
    rw [if_pos h64, List.append_nil]
  have hlv := leave_of (t := levS t o.result) l o ho hop.2 (t.stack.take (topHeight t)) rfl hlen
  have hin := inner_is (t := levS t o.result) ho
  have hst : ∀ k ∈ t.stack.take (topHeight t), k = 126 ∨ k = 127 := fun k hk => h.ok.st k (List.mem_of_mem_take hk)
  refine hlev.ins ⟨5, 0, 0⟩ rfl ?_ ?_
  · have h1 := ok_opens h.ok _ hst l o ho (by rw [hlen]; exact Nat.le_refl _) []
    exact ok_snoc h1 ⟨5, o.result, topHeight t⟩ ⟨Or.inr (Or.inr ⟨Or.inr rfl, h64⟩), hop.2⟩ (hth.trans hlen.symm) _
  · have hv : vstep (ctx7 m) (insOf ⟨5, 0, 0⟩) (vsOf (levS t o.result)) = { (vsOf (levS t o.result)).leave with opens := ⟨5, (vsOf (levS t o.result)).inner.result, (vsOf (levS t o.result)).inner.height, false⟩ :: (vsOf (levS t o.result)).leave.opens } := by simp [vstep, insOf]
    rw [hv, hin, hlv]
    unfold vsOf
    simp only
    rw [frs_snoc, hth]
    rfl
theorem sim_open (h : Sim m t) (op r : Int) (h1 : (op = 2 ∨ op = 3) ∧ (r = 64 ∨ r = 126 ∨ r = 127)) : Sim m (opensF t op r) := by
  unfold opensF
  refine h.ins ⟨op, r, 0⟩ rfl (ok_snoc h.ok ⟨op, r, t.stack.length⟩ ⟨by rcases h1.1 with e | e <;> simp [e], h1.2⟩ rfl _) ?_
  have hv : vstep (ctx7 m) (insOf ⟨op, r, 0⟩) (vsOf t) = (vsOf t).enter op r := by rcases h1.1 with rfl | rfl <;> simp [vstep, insOf]
  rw [hv]
  unfold VS.enter
  rw [len_of]
  unfold vsOf
  simp only
  rw [frs_snoc]
  rfl
theorem takeF_of {k : Int} {st : List Int} (hT : Tops t k st) : takeF t = { t with stack := st } := by
  unfold takeF
  rw [hT.stack]
  simp
theorem tops_same {k : Int} {st : List Int} (hT : Tops t k st) : ({ t with stack := st ++ [k] } : PS) = t := by
  rw [← hT.stack]
theorem take_127 {st : List Int} (hT : Tops t 127 st) : (vsOf t).take [127] = vsOf { t with stack := st } :=
  takes st [127] hT.stack hT.height
theorem sim_if (h : Sim m t) {st : List Int} (hT : Tops t 127 st) : Sim m (opensF (takeF t) 4 64) := by
  rw [takeF_of hT]
  have hok : OkS { t with stack := st } := h.ok.restack st (fun k hk => h.ok.st k (by rw [hT.stack]; exact List.mem_append_left _ hk)) hT.height _
  unfold opensF
  refine h.ins ⟨4, 64, 0⟩ rfl (ok_snoc hok ⟨4, 64, st.length⟩ ⟨Or.inr (Or.inr ⟨Or.inl rfl, rfl⟩), Or.inl rfl⟩ rfl _) ?_
  have hv : vstep (ctx7 m) (insOf ⟨4, 64, 0⟩) (vsOf t) = ((vsOf t).take [127]).enter 4 64 := by simp [vstep, insOf]
  rw [hv, take_127 hT]
  unfold VS.enter
  rw [len_of]
  unfold vsOf
  simp only
  rw [frs_snoc]
  rfl
end Go.Proofs.YtomffpibdinkaaaGreatDoor


namespace Go.Proofs.YtomffpibdinkaaaGreatDoor
open Go.RowKit
set_option linter.unusedVariables false
set_option linter.unusedSimpArgs false
variable {m : MoV} {t : PS}

theorem label_of {n : Nat} (hj : n < t.opens.length) (o : PO) (ho : t.opens[t.opens.length - 1 - n]? = some o) (hr : o.result = 64 ∨ o.op = 3) : (vsOf t).label (n : Int) = ([], vsOf t) := by
  have hlen : (vsOf t).opens.length = t.opens.length + 1 := by simp [vsOf, frs]
  have hget : (vsOf t).opens[n]? = some (frOf o) := by
    show (frs t.opens)[n]? = _
    unfold frs
    rw [List.getElem?_append_left (by simpa using hj), List.getElem?_map, List.getElem?_reverse hj, ho]
    rfl
  unfold VS.label
  rw [if_pos ⟨by omega, by rw [hlen]; omega⟩, Int.toNat_natCast, hget]
  simp only
  by_cases h3 : (frOf o).code = 3
  · rw [if_pos h3]
  · rw [if_neg h3]
    have : o.result = 64 := hr.resolve_right h3
    show (answer7 o.result, _) = _
    rw [this]
    rfl
theorem sim_jump (h : Sim m t) (n : Nat) : Sim m (jumpsF t n) := by
  unfold jumpsF
  cases ho : t.opens[t.opens.length - 1 - n % t.opens.length]? with
  | none => exact h
  | some o =>
    simp only
    split
    · exact h
    · next hr =>
      have hpos : 0 < t.opens.length := by
        have := (List.getElem?_eq_some_iff.1 ho).1
        omega
      have hj : n % t.opens.length < t.opens.length := Nat.mod_lt _ hpos
      obtain ⟨h1, hop, st, hT, _⟩ := sim_want h 127 (Or.inr rfl)
      have ht : takeF (putF (wantF t 127) 13 (n % t.opens.length : Nat) 0) = { wantF t 127 with code := (wantF t 127).code ++ [⟨13, (n % t.opens.length : Nat), 0⟩], stack := st } := by
        unfold takeF putF
        simp only
        rw [hT.stack]
        simp
      rw [ht]
      refine h1.ins ⟨13, (n % t.opens.length : Nat), 0⟩ rfl (h1.ok.restack _ (fun k hk => h1.ok.st k (by rw [hT.stack]; exact List.mem_append_left _ hk)) hT.height _) ?_
      have hv : vstep (ctx7 m) (insOf ⟨13, (n % t.opens.length : Nat), 0⟩) (vsOf (wantF t 127)) = ((((vsOf (wantF t 127)).take [127]).label (n % t.opens.length : Nat)).2.take (((vsOf (wantF t 127)).take [127]).label (n % t.opens.length : Nat)).1).put (((vsOf (wantF t 127)).take [127]).label (n % t.opens.length : Nat)).1 := by simp [vstep, insOf]
      have hlab : (vsOf { wantF t 127 with stack := st }).label (n % t.opens.length : Nat) = ([], vsOf { wantF t 127 with stack := st }) := label_of (t := { wantF t 127 with stack := st }) (by show _ < (wantF t 127).opens.length; rw [hop]; exact hj) o (by show (wantF t 127).opens[(wantF t 127).opens.length - 1 - _]? = _; rw [hop]; exact ho) (by
        by_cases h64 : o.result = 64
        · exact Or.inl h64
        · by_cases h3 : o.op = 3
          · exact Or.inr h3
          · exact absurd ⟨h64, h3⟩ hr)
      rw [hv, take_127 hT, hlab]
      rfl
theorem drop_of {k : Int} {st : List Int} (hT : Tops t k st) : t.stack.dropLast = st := by rw [hT.stack]; simp
theorem is126 : ∀ k ∈ ([126] : List Int), k = 126 ∨ k = 127 := fun k hk => Or.inl (List.mem_singleton.1 hk)
theorem is127 : ∀ k ∈ ([127] : List Int), k = 126 ∨ k = 127 := fun k hk => Or.inr (List.mem_singleton.1 hk)
theorem isNone : ∀ k ∈ ([] : List Int), k = 126 ∨ k = 127 := fun k hk => by cases hk
theorem bin64 (op : Int) : plainB (124 + op / 2 % 15) [126, 126] [126] = true := by
  have : ∀ j : Fin 15, plainB (124 + (j.val : Int)) [126, 126] [126] = true := by decide +kernel
  have h0 : 0 ≤ op / 2 % 15 := by omega
  have h1 : op / 2 % 15 < 15 := by omega
  have h2 := this ⟨(op / 2 % 15).toNat, by omega⟩
  rw [show ((⟨(op / 2 % 15).toNat, by omega⟩ : Fin 15).val : Int) = op / 2 % 15 from Int.toNat_of_nonneg h0] at h2
  exact h2
theorem bin32 (op : Int) : plainB (106 + op / 2 % 15) [127, 127] [127] = true := by
  have : ∀ j : Fin 15, plainB (106 + (j.val : Int)) [127, 127] [127] = true := by decide +kernel
  have h0 : 0 ≤ op / 2 % 15 := by omega
  have h1 : op / 2 % 15 < 15 := by omega
  have h2 := this ⟨(op / 2 % 15).toNat, by omega⟩
  rw [show ((⟨(op / 2 % 15).toNat, by omega⟩ : Fin 15).val : Int) = op / 2 % 15 from Int.toNat_of_nonneg h0] at h2
  exact h2
theorem sim_put (h : Sim m t) (op a b : Int) (k : Int) (hk : k = 126 ∨ k = 127) (hv : ∀ s, vstep (ctx7 m) (insOf ⟨op, a, b⟩) s = (s.take []).put [u8T k]) : Sim m (pushF (putF t op a b) k) :=
  h.more ⟨op, a, b⟩ [k] hv (fun x hx => by rw [List.mem_singleton.1 hx]; exact hk)
/-- Wanted, and taken. -/
theorem sim_set (h : Sim m t) (op a b : Int) (k : Int) (hk : k = 126 ∨ k = 127) (hv : ∀ s, vstep (ctx7 m) (insOf ⟨op, a, b⟩) s = (s.take [u8T k]).put []) : Sim m (takeF (putF (wantF t k) op a b)) := by
  obtain ⟨h1, ho, st, hT, _⟩ := sim_want h k hk
  have h2 := h1.on hT ⟨op, a, b⟩ [] hv isNone
  rw [List.append_nil, ← drop_of hT] at h2
  exact h2
/-- Wanted, and turned into its own kind. -/
theorem sim_own (h : Sim m t) (op a b : Int) (k : Int) (hk : k = 126 ∨ k = 127) (hv : ∀ s, vstep (ctx7 m) (insOf ⟨op, a, b⟩) s = (s.take [u8T k]).put [u8T k]) : Sim m (putF (wantF t k) op a b) := by
  obtain ⟨h1, ho, st, hT, _⟩ := sim_want h k hk
  have h2 := h1.on hT ⟨op, a, b⟩ [k] hv (fun x hx => by rw [List.mem_singleton.1 hx]; exact hk)
  rw [← hT.stack] at h2
  exact h2
/-- Wanted, and turned into an i32. -/
theorem sim_test (h : Sim m t) (op a b : Int) (k : Int) (hk : k = 126 ∨ k = 127) (hv : ∀ s, vstep (ctx7 m) (insOf ⟨op, a, b⟩) s = (s.take [u8T k]).put [127]) : Sim m (pushF (takeF (putF (wantF t k) op a b)) 127) := by
  obtain ⟨h1, ho, st, hT, _⟩ := sim_want h k hk
  have h2 := h1.on hT ⟨op, a, b⟩ [127] hv is127
  rw [← drop_of hT] at h2
  exact h2
theorem sim_bin (h : Sim m t) (op j : Int) (k : Int) (hk : k = 126 ∨ k = 127) (hg : ∀ s, vstep (ctx7 m) (insOf ⟨32, j, 0⟩) s = (s.take []).put [u8T k]) (hv : ∀ s, vstep (ctx7 m) (insOf ⟨op, 0, 0⟩) s = (s.take [u8T k, u8T k]).put [u8T k]) : Sim m (putF (putF (wantF t k) 32 j 0) op 0 0) := by
  obtain ⟨h1, ho, st, hT, _⟩ := sim_want h k hk
  have hq : ∀ x ∈ [k], x = 126 ∨ x = 127 := fun x hx => by rw [List.mem_singleton.1 hx]; exact hk
  have h2 := h1.more ⟨32, j, 0⟩ [k] hg hq
  have h3 := h2.does ⟨op, 0, 0⟩ hv st [k, k] [k] (by show (wantF t k).stack ++ [k] = _; rw [hT.stack]; simp) hT.height rfl rfl hq
  rw [← hT.stack] at h3
  exact h3
theorem sim_store (h : Sim m t) (op b : Int) (hv : ∀ s, vstep (ctx7 m) (insOf ⟨op, 0, b⟩) s = (s.take [127, 126]).put []) : Sim m (takeF (putF (putF (wantF t 127) 32 0 0) op 0 b)) := by
  obtain ⟨h1, ho, st, hT, _⟩ := sim_want h 127 (Or.inr rfl)
  have h2 := h1.more ⟨32, 0, 0⟩ [126] (fun s => v_get m _ _ _ (Or.inl ⟨rfl, rfl⟩) s) is126
  have h3 := h2.does ⟨op, 0, b⟩ hv st [127, 126] [] (by show (wantF t 127).stack ++ [126] = _; rw [hT.stack]; simp) hT.height rfl rfl isNone
  rw [List.append_nil, ← drop_of hT] at h3
  exact h3
theorem iteS {P : Prop} [Decidable P] {x y : PS} (h1 : P → Sim m x) (h2 : ¬ P → Sim m y) : Sim m (if P then x else y) := by
  by_cases h : P
  · rw [if_pos h]; exact h1 h
  · rw [if_neg h]; exact h2 h
theorem sim_does (hm : Home m) (h : Sim m t) (kind op a b : Int) : Sim m (doesF t kind op a b) := by
  unfold doesF
  refine iteS (fun hc => ?_) (fun hc => ?_)
  · refine iteS (fun hc => ?_) (fun hc => ?_)
    · exact sim_put h _ _ _ 126 (Or.inl rfl) (fun s => vstep_plain (by decide +kernel) _ _ _ s)
    · exact sim_put h _ _ _ 127 (Or.inr rfl) (fun s => vstep_plain (by decide +kernel) _ _ _ s)
  refine iteS (fun hc => ?_) (fun hc => ?_)
  · refine iteS (fun hc => ?_) (fun hc => ?_)
    · exact sim_bin h _ _ 126 (Or.inl rfl) (fun s => v_get m _ _ _ (Or.inl ⟨rfl, rfl⟩) s) (fun s => vstep_plain (bin64 op) _ _ _ s)
    · exact sim_bin h _ _ 127 (Or.inr rfl) (fun s => v_get m _ _ _ (Or.inr (Or.inl ⟨rfl, rfl⟩)) s) (fun s => vstep_plain (bin32 op) _ _ _ s)
  refine iteS (fun hc => ?_) (fun hc => ?_)
  · refine iteS (fun hc => ?_) (fun hc => ?_)
    · exact sim_test h _ _ _ 126 (Or.inl rfl) (fun s => vstep_plain (by decide +kernel) _ _ _ s)
    · exact sim_test h _ _ _ 127 (Or.inr rfl) (fun s => vstep_plain (by decide +kernel) _ _ _ s)
  refine iteS (fun hc => ?_) (fun hc => ?_)
  · refine iteS (fun hc => ?_) (fun hc => ?_)
    · exact sim_put h _ _ _ 126 (Or.inl rfl) (fun s => v_get m _ _ _ (Or.inl ⟨rfl, rfl⟩) s)
    refine iteS (fun hc => ?_) (fun hc => ?_)
    · exact sim_put h _ _ _ 127 (Or.inr rfl) (fun s => v_get m _ _ _ (Or.inr (Or.inl ⟨rfl, rfl⟩)) s)
    refine iteS (fun hc => ?_) (fun hc => ?_)
    · exact sim_put h _ _ _ 127 (Or.inr rfl) (fun s => v_get m _ _ _ (Or.inr (Or.inr (Or.inl ⟨rfl, rfl⟩))) s)
    · exact sim_put h _ _ _ 126 (Or.inl rfl) (fun s => v_get m _ _ _ (Or.inr (Or.inr (Or.inr ⟨rfl, rfl⟩))) s)
  refine iteS (fun hc => ?_) (fun hc => ?_)
  · refine iteS (fun hc => ?_) (fun hc => ?_)
    · exact sim_set h _ _ _ 126 (Or.inl rfl) (fun s => v_set m _ _ _ (Or.inl ⟨rfl, rfl⟩) s)
    refine iteS (fun hc => ?_) (fun hc => ?_)
    · exact sim_set h _ _ _ 127 (Or.inr rfl) (fun s => v_set m _ _ _ (Or.inr (Or.inl ⟨rfl, rfl⟩)) s)
    refine iteS (fun hc => ?_) (fun hc => ?_)
    · exact sim_set h _ _ _ 127 (Or.inr rfl) (fun s => v_set m _ _ _ (Or.inr (Or.inr (Or.inl ⟨rfl, rfl⟩))) s)
    · exact sim_set h _ _ _ 126 (Or.inl rfl) (fun s => v_set m _ _ _ (Or.inr (Or.inr (Or.inr ⟨rfl, rfl⟩))) s)
  refine iteS (fun hc => ?_) (fun hc => ?_)
  · refine iteS (fun hc => ?_) (fun hc => ?_)
    · exact sim_own h _ _ _ 126 (Or.inl rfl) (fun s => v_tee m _ _ _ (Or.inl ⟨rfl, rfl⟩) s)
    refine iteS (fun hc => ?_) (fun hc => ?_)
    · exact sim_own h _ _ _ 127 (Or.inr rfl) (fun s => v_tee m _ _ _ (Or.inr (Or.inl ⟨rfl, rfl⟩)) s)
    refine iteS (fun hc => ?_) (fun hc => ?_)
    · exact sim_own h _ _ _ 127 (Or.inr rfl) (fun s => v_tee m _ _ _ (Or.inr (Or.inr (Or.inl ⟨rfl, rfl⟩))) s)
    · exact sim_own h _ _ _ 126 (Or.inl rfl) (fun s => v_tee m _ _ _ (Or.inr (Or.inr (Or.inr ⟨rfl, rfl⟩))) s)
  refine iteS (fun hc => ?_) (fun hc => ?_)
  · refine iteS (fun hc => ?_) (fun hc => ?_)
    · exact sim_set (sim_put h 35 0 0 127 (Or.inr rfl) (fun s => v_gget hm _ _ _ (Or.inl ⟨rfl, rfl⟩) s)) _ _ _ 126 (Or.inl rfl) (fun s => v_gset hm _ s)
    · exact sim_set (sim_put h 35 1 0 126 (Or.inl rfl) (fun s => v_gget hm _ _ _ (Or.inr ⟨rfl, rfl⟩) s)) _ _ _ 126 (Or.inl rfl) (fun s => v_gset hm _ s)
  refine iteS (fun hc => ?_) (fun hc => ?_)
  · exact sim_own h _ _ _ 127 (Or.inr rfl) (fun s => vstep_mem (pw := 2) (by decide +kernel) m hm _ _ (by omega) s)
  refine iteS (fun hc => ?_) (fun hc => ?_)
  · refine sim_store h _ _ (fun s => ?_)
    rcases (by omega : op % 3 = 0 ∨ op % 3 = 1 ∨ op % 3 = 2) with e | e | e <;> rw [e]
    · exact vstep_mem (pw := 0) (by decide +kernel) m hm _ _ (by omega) s
    · exact vstep_mem (pw := 1) (by decide +kernel) m hm _ _ (by omega) s
    · exact vstep_mem (pw := 2) (by decide +kernel) m hm _ _ (by omega) s
  refine iteS (fun hc => ?_) (fun hc => ?_)
  · refine sim_open h _ _ ⟨by omega, ?_⟩
    split
    · exact Or.inl rfl
    split
    · exact Or.inr (Or.inr rfl)
    · exact Or.inr (Or.inl rfl)
  refine iteS (fun hc => ?_) (fun hc => ?_)
  · obtain ⟨h1, ho, st, hT, _⟩ := sim_want h 127 (Or.inr rfl)
    exact sim_if h1 hT
  refine iteS (fun hc => ?_) (fun hc => ?_)
  · cases hl : t.opens.getLast? with
    | none => exact h
    | some o =>
      obtain ⟨l, ho⟩ := List.getLast?_eq_some_iff.1 hl
      simp only
      refine iteS (fun hc => ?_) (fun hc => ?_)
      · exact sim_else h o l ho hc.1
      · exact sim_shut h
  refine iteS (fun hc => ?_) (fun hc => ?_)
  · exact sim_jump h _
  refine iteS (fun hc => ?_) (fun hc => ?_)
  · exact sim_put h _ _ _ 127 (Or.inr rfl) (fun s => vstep_mem (pw := 0) (by decide +kernel) m hm _ _ (by omega) s)
  refine iteS (fun hc => ?_) (fun hc => ?_)
  · have h1 := h.more ⟨1, 0, 0⟩ [] (fun s => vstep_plain (by decide +kernel) _ _ _ s) isNone
    rw [List.append_nil] at h1
    exact h1
  · have h1 := sim_put h 63 0 0 127 (Or.inr rfl) (fun s => vstep_mem (pw := 0) (by decide +kernel) m hm _ _ (by omega) s)
    exact h1.on (k := 127) (st := t.stack) ⟨rfl, h.ok.top⟩ ⟨64, 0, 0⟩ [127] (fun s => vstep_mem (pw := 0) (by decide +kernel) m hm _ _ (by omega) s) is127
theorem sim_shuts : ∀ (n : Nat) (t : PS), Sim m t → Sim m (shuts n t)
  | 0, t, h => h
  | n + 1, t, h => sim_shuts n (shutF t) (sim_shut h)
theorem shuts_opens : ∀ (n : Nat) (t : PS), n = t.opens.length → (shuts n t).opens = []
  | 0, t, h => List.eq_nil_of_length_eq_zero h.symm
  | n + 1, t, h => by
    refine shuts_opens n (shutF t) ?_
    unfold shutF
    cases hl : t.opens.getLast? with
    | none =>
      have : t.opens = [] := List.getLast?_eq_none_iff.1 hl
      rw [this] at h
      cases h
    | some o => show n = t.opens.dropLast.length; rw [List.length_dropLast]; omega
theorem sim_run (hm : Home m) : ∀ (l : List StepV) (s : PS), Sim m s → Sim m (l.foldl (fun s x => x.does s) s)
  | [], s, h => h
  | x :: l, s, h => sim_run hm l _ (sim_does hm h x.kind x.op x.a x.b)
/-- What is left once a program's code has been gone through. -/
theorem code_goes (hm : Home m) (l : List StepV) : vrun (ctx7 m) ((codeF l).map insOf) startP = ⟨[126], [], false⟩ := by
  have h1 := sim_shuts (runF (l.take 60)).opens.length _ (sim_run hm (l.take 60) _ (Sim.begin m))
  have h2 : (shuts (runF (l.take 60)).opens.length (runF (l.take 60))).opens = [] := shuts_opens _ _ rfl
  change Sim m (shuts (runF (l.take 60)).opens.length (runF (l.take 60))) at h1
  generalize hT : shuts (runF (l.take 60)).opens.length (runF (l.take 60)) = T at h1 h2
  have hth : topHeight T = 0 := by unfold topHeight; rw [h2]; rfl
  have h3 := sim_level h1 126 (Or.inr (Or.inl rfl))
  have hc : codeF l = (levS T 126).code ++ [⟨11, 0, 0⟩] := by
    unfold codeF levS
    rw [hT, hth]
  have hs : vsOf (levS T 126) = ⟨[126], [⟨2, [126], 0, false⟩], false⟩ := by
    unfold vsOf
    have e1 : (levS T 126).stack = [126] := by
      show T.stack.take (topHeight T) ++ _ = _
      rw [hth, List.take_zero]
      rfl
    have e2 : (levS T 126).opens = [] := h2
    rw [e1, e2]
    rfl
  rw [hc, List.map_append, h3.go, hs]
  rfl
theorem made_valid {H : Nat} {pc : Option Addr} {cc : Nat} {mx i0 i1 ix st : Int} (l : List StepV) : validFn (madeV H pc cc (codeF l) mx i0 i1 ix st) (madeF pc cc (codeF l)) = true := by
  have hm : Home (madeV H pc cc (codeF l) mx i0 i1 ix st) := ⟨Nat.zero_lt_one, i0, i1, rfl⟩
  have hg := code_goes hm l
  unfold validFn
  rw [if_pos ⟨by show (0 : Int) ≤ 0; omega, by show (0 : Int) < 1; omega⟩]
  show (!(vrun _ _ _).wrong) = true
  have : vrun (ctx7 (madeV H pc cc (codeF l) mx i0 i1 ix st)) ((codeF l).map insOf) startP = ⟨[126], [], false⟩ := hg
  have h2 : (vrun (ctx7 (madeV H pc cc (codeF l) mx i0 i1 ix st)) ((codeF l).map insOf) startP).wrong = false := by rw [this]
  show (!(vrun (ctx7 (madeV H pc cc (codeF l) mx i0 i1 ix st)) ((codeF l).map insOf) startP).wrong) = true
  rw [h2]
  rfl
end Go.Proofs.YtomffpibdinkaaaGreatDoor


namespace Go.Proofs.YtomffpibdinkaaaGreatDoor
open Go.RowKit
set_option linter.unusedVariables false
set_option linter.unusedSimpArgs false
variable {m : MoV} {t : PS}

/-! ### How many blocks a program opens -/
def isOp (x : PI) : Bool := decide (x.op = 2 ∨ x.op = 3 ∨ x.op = 4)
def nOpen (c : List PI) : Nat := c.countP isOp
theorem nOpen_append (a b : List PI) : nOpen (a ++ b) = nOpen a + nOpen b := List.countP_append
theorem nOpen_other {op a b : Int} (h : ¬ (op = 2 ∨ op = 3 ∨ op = 4)) : nOpen [(⟨op, a, b⟩ : PI)] = 0 := by
  unfold nOpen isOp
  simp [h]
theorem nOpen_one (x : PI) : nOpen [x] ≤ 1 := by
  unfold nOpen
  exact List.countP_le_length
theorem nOpen_reps (n : Nat) (c : List PI) (h : nOpen c = 0) : nOpen (reps n c) = 0 := by
  induction n with
  | zero => rfl
  | succ n ih => rw [reps_snoc, nOpen_append, ih, h]
theorem open_put {op a b : Int} (h : ¬ (op = 2 ∨ op = 3 ∨ op = 4)) : nOpen (putF t op a b).code = nOpen t.code := by
  unfold putF
  simp only
  rw [nOpen_append, nOpen_other h]
  rfl
theorem open_push (k : Int) : nOpen (pushF t k).code = nOpen t.code := rfl
theorem opens_take : nOpen (takeF t).code = nOpen t.code := rfl
theorem open_want (k : Int) (hk : k = 126 ∨ k = 127) : nOpen (wantF t k).code = nOpen t.code := by
  unfold wantF
  split
  · simp only
    rw [nOpen_append, nOpen_other (by omega)]
    rfl
  · split
    · rfl
    · simp only
      rw [nOpen_append, nOpen_other (by split <;> omega)]
      rfl
theorem open_level (r : Int) (n : Nat) (hr : r = 64 ∨ r = 126 ∨ r = 127) : nOpen (levelF t r n).code = nOpen t.code := by
  unfold levelF
  split
  · simp only
    rw [nOpen_append, nOpen_reps _ _ (nOpen_other (by omega))]
    rfl
  · simp only
    rw [nOpen_append, nOpen_reps _ _ (by rfl), open_want r (by omega)]
    rfl
theorem open_shut (h : OkS t) : nOpen (shutF t).code = nOpen t.code := by
  unfold shutF
  cases hl : t.opens.getLast? with
  | none => rfl
  | some o =>
    simp only
    rw [nOpen_append, nOpen_other (by omega), open_level _ _ (h.op o (List.mem_of_getLast? hl)).2]
    rfl
theorem open_opens (op r : Int) : nOpen (opensF t op r).code ≤ nOpen t.code + 1 := by
  unfold opensF
  simp only
  rw [nOpen_append]
  exact Nat.add_le_add_left (nOpen_one _) _
theorem iteN {P : Prop} [Decidable P] {x y : PS} {n : Nat} (h1 : P → nOpen x.code ≤ n) (h2 : ¬ P → nOpen y.code ≤ n) : nOpen (if P then x else y).code ≤ n := by
  by_cases h : P
  · rw [if_pos h]; exact h1 h
  · rw [if_neg h]; exact h2 h
theorem putN {n : Nat} {op a b : Int} (h : ¬ (op = 2 ∨ op = 3 ∨ op = 4)) (h2 : nOpen t.code ≤ n) : nOpen (putF t op a b).code ≤ n := by rw [open_put h]; exact h2
theorem wantN {n : Nat} {k : Int} (hk : k = 126 ∨ k = 127) (h2 : nOpen t.code ≤ n) : nOpen (wantF t k).code ≤ n := by rw [open_want k hk]; exact h2
theorem pushN {n : Nat} {k : Int} (h2 : nOpen t.code ≤ n) : nOpen (pushF t k).code ≤ n := h2
theorem takeN {n : Nat} (h2 : nOpen t.code ≤ n) : nOpen (takeF t).code ≤ n := h2
theorem open_does (h : OkS t) (kind op a b : Int) : nOpen (doesF t kind op a b).code ≤ nOpen t.code + 1 := by
  unfold doesF
  repeat' (first
    | (with_reducible exact Nat.le_succ _)
    | (with_reducible refine iteN (fun hc => ?_) (fun hc => ?_))
    | (with_reducible refine putN (by omega) ?_)
    | (with_reducible refine wantN (by omega) ?_)
    | (with_reducible refine pushN ?_)
    | (with_reducible refine takeN ?_))
  · exact open_opens _ _
  · refine Nat.le_trans (open_opens _ _) (Nat.succ_le_succ ?_)
    exact takeN (wantN (by omega) (Nat.le_refl _))
  · cases hl : t.opens.getLast? with
    | none => exact Nat.le_succ _
    | some o =>
      simp only
      refine iteN (fun hc => ?_) (fun hc => ?_)
      · unfold elseF
        simp only
        rw [nOpen_append, nOpen_other (by omega), open_level _ _ (h.op o (List.mem_of_getLast? hl)).2]
        exact Nat.le_succ _
      · rw [open_shut h]
        exact Nat.le_succ _
  · unfold jumpsF
    split
    · exact Nat.le_succ _
    · refine iteN (fun hc => Nat.le_succ _) (fun hc => ?_)
      exact takeN (putN (by omega) (wantN (by omega) (Nat.le_succ _)))
theorem open_shuts (hm : Home m) : ∀ (n : Nat) (t : PS), Sim m t → nOpen (shuts n t).code = nOpen t.code
  | 0, t, h => rfl
  | n + 1, t, h => by
    show nOpen (shuts n (shutF t)).code = _
    rw [open_shuts hm n (shutF t) (sim_shut h), open_shut h.ok]
theorem open_run (hm : Home m) : ∀ (l : List StepV) (s : PS), Sim m s → nOpen (l.foldl (fun s x => x.does s) s).code ≤ nOpen s.code + l.length
  | [], s, h => Nat.le_refl _
  | x :: l, s, h => by
    have h1 := open_run hm l _ (sim_does hm h x.kind x.op x.a x.b)
    have h2 := open_does h.ok x.kind x.op x.a x.b
    rw [List.length_cons]
    show nOpen (l.foldl _ (doesF s x.kind x.op x.a x.b)).code ≤ _
    exact Nat.le_trans h1 (by omega)
/-- A program's code but for its last end. -/
def bodyF (l : List StepV) : List PI := (levelF (shuts (runF (l.take 60)).opens.length (runF (l.take 60))) 126 0).code
theorem codeF_body (l : List StepV) : codeF l = bodyF l ++ [⟨11, 0, 0⟩] := rfl
theorem open_body (hm : Home m) (l : List StepV) : nOpen (bodyF l) ≤ 60 := by
  have hs := sim_run hm (l.take 60) _ (Sim.begin m)
  unfold bodyF
  rw [open_level _ _ (Or.inr (Or.inl rfl))]
  have h1 := open_shuts hm (runF (l.take 60)).opens.length (runF (l.take 60)) hs
  have h2 := open_run hm (l.take 60) _ (Sim.begin m)
  have h3 : (l.take 60).length ≤ 60 := by rw [List.length_take]; omega
  rw [h1]
  refine Nat.le_trans h2 ?_
  show 0 + _ ≤ 60
  omega
theorem nest_le : ∀ (c : List PI) (d g : Int), d ≤ g → nest7 (c.map PI.op) d g ≤ g + nOpen c
  | [], d, g, h => by show g ≤ g + 0; omega
  | x :: c, d, g, h => by
    have hn : (nOpen (x :: c) : Int) = nOpen c + (if isOp x then 1 else 0) := by
      unfold nOpen
      rw [List.countP_cons]
      split <;> simp
    rw [List.map_cons, nest7, hn]
    by_cases h1 : x.op = 2 ∨ x.op = 3 ∨ x.op = 4
    · rw [if_pos h1]
      have h2 := nest_le c (d + 1) (max g (d + 1)) (by omega)
      have : isOp x = true := decide_eq_true h1
      rw [this, if_pos rfl]
      omega
    · rw [if_neg h1]
      have : isOp x = false := decide_eq_false h1
      rw [this]
      split
      · have h2 := nest_le c (d - 1) g (by omega)
        simp only [Bool.false_eq_true, if_false]
        omega
      · have h2 := nest_le c d g h
        simp only [Bool.false_eq_true, if_false]
        omega
theorem deep_not {ty : Int} {lo : ByteArray} {pc : Option Addr} {cc : Nat} (c : List PI) (h : nOpen c ≤ 256) : deep7 ⟨ty, lo, pc, cc, c.map insOf⟩ = false := by
  unfold deep7
  have h1 := nest_le c 0 0 (Int.le_refl _)
  have h2 : opsOf (c.map insOf) = c.map PI.op := by simp [opsOf, insOf]
  refine decide_eq_false ?_
  show ¬ (256 : Int) < nest7 (opsOf (c.map insOf)) 0 0
  rw [h2]
  omega
/-- What package valid answers of a function over made's module, of a program's body and another end. -/
theorem ends_deep (l : List StepV) (e : List PI) (he : e.length ≤ 6) (pc : Option Addr) (cc : Nat) : deep7 (madeF pc cc (bodyF l ++ e)) = false := by
  have hm : Home (madeV 0 pc cc [] 2 5 (-5) 0 (-1)) := ⟨Nat.zero_lt_one, 5, -5, rfl⟩
  refine deep_not _ ?_
  rw [nOpen_append]
  have h1 := open_body hm l
  have h2 : nOpen e ≤ e.length := List.countP_le_length
  omega
theorem ends_valid {H : Nat} {pc p2 : Option Addr} {cc c2 : Nat} {mx i0 i1 ix st : Int} (l : List StepV) (c : List PI) (e : List PI) : validFn (madeV H pc cc c mx i0 i1 ix st) (madeF p2 c2 (bodyF l ++ e)) = !(vrun (ctx7 (madeV H pc cc c mx i0 i1 ix st)) (e.map insOf) ⟨[126], [⟨2, [126], 0, false⟩], false⟩).wrong := by
  have hm : Home (madeV H pc cc c mx i0 i1 ix st) := ⟨Nat.zero_lt_one, i0, i1, rfl⟩
  have h1 := sim_shuts (runF (l.take 60)).opens.length _ (sim_run hm (l.take 60) _ (Sim.begin _))
  have h2 : (shuts (runF (l.take 60)).opens.length (runF (l.take 60))).opens = [] := shuts_opens _ _ rfl
  change Sim _ (shuts (runF (l.take 60)).opens.length (runF (l.take 60))) at h1
  have hb : bodyF l = (levelF (shuts (runF (l.take 60)).opens.length (runF (l.take 60))) 126 0).code := rfl
  generalize hT : shuts (runF (l.take 60)).opens.length (runF (l.take 60)) = T at h1 h2 hb
  have hth : topHeight T = 0 := by unfold topHeight; rw [h2]; rfl
  have h3 := sim_level h1 126 (Or.inr (Or.inl rfl))
  have hs : vsOf (levS T 126) = ⟨[126], [⟨2, [126], 0, false⟩], false⟩ := by
    unfold vsOf
    have e1 : (levS T 126).stack = [126] := by
      show T.stack.take (topHeight T) ++ _ = _
      rw [hth, List.take_zero]
      rfl
    have e2 : (levS T 126).opens = [] := h2
    rw [e1, e2]
    rfl
  have hc : bodyF l = (levS T 126).code := by
    unfold levS
    rw [hb, hth]
  have hg := h3.go (e.map insOf)
  rw [← hc, hs, ← List.map_append] at hg
  unfold validFn
  rw [if_pos ⟨by show (0 : Int) ≤ 0; omega, by show (0 : Int) < 1; omega⟩]
  show (!(vrun (ctx7 (madeV H pc cc c mx i0 i1 ix st)) ((bodyF l ++ e).map insOf) startP).wrong) = _
  rw [hg]
theorem more_valid {H : Nat} {pc p2 : Option Addr} {cc c2 : Nat} {mx i0 i1 ix st : Int} (l : List StepV) (c : List PI) : validFn (madeV H pc cc c mx i0 i1 ix st) (madeF p2 c2 (bodyF l ++ [⟨65, 0, 0⟩, ⟨11, 0, 0⟩])) = false := by rw [ends_valid]; rfl
theorem less_valid {H : Nat} {pc p2 : Option Addr} {cc c2 : Nat} {mx i0 i1 ix st : Int} (l : List StepV) (c : List PI) : validFn (madeV H pc cc c mx i0 i1 ix st) (madeF p2 c2 (bodyF l ++ [⟨26, 0, 0⟩, ⟨11, 0, 0⟩])) = false := by rw [ends_valid]; rfl
theorem dead_valid {H : Nat} {pc p2 : Option Addr} {cc c2 : Nat} {mx i0 i1 ix st : Int} (l : List StepV) (c : List PI) : validFn (madeV H pc cc c mx i0 i1 ix st) (madeF p2 c2 (bodyF l ++ [⟨15, 0, 0⟩, ⟨26, 0, 0⟩, ⟨106, 0, 0⟩, ⟨26, 0, 0⟩, ⟨11, 0, 0⟩])) = true := by rw [ends_valid]; rfl
end Go.Proofs.YtomffpibdinkaaaGreatDoor


namespace Go.Proofs.YtomffpibdinkaaaGreatDoor
open Go.RowKit
set_option linter.unusedVariables false
set_option linter.unusedSimpArgs false

theorem runs_tails {B B' : List Int} (h : ∀ st, runs B st = runs B' st) (he : B.isEmpty = B'.isEmpty) : ∀ (A : List Int) (st : List Int), runs (A ++ B) st = runs (A ++ B') st
  | [], st => h st
  | op :: A, st => by
    have ih := runs_tails h he A
    have hE : (A ++ B).isEmpty = (A ++ B').isEmpty := by
      cases A with
      | nil => exact he
      | cons x A => rfl
    rw [List.cons_append, List.cons_append]
    by_cases h1 : op = 2 ∨ op = 3 ∨ op = 4
    · rw [runs_open h1, runs_open h1, ih]
    by_cases h5 : op = 5
    · subst h5
      cases st with
      | nil => rw [runs_else_none, runs_else_none]
      | cons t st => rw [runs_else, runs_else, ih]
    by_cases h11 : op = 11
    · subst h11
      cases st with
      | nil => rw [runs_end_none, runs_end_none, hE]
      | cons t st => rw [runs_end, runs_end, ih]
    · rw [runs_other (by omega), runs_other (by omega), ih]
theorem fn_right7 {pc : Option Addr} {cc : Nat} {code : List PI} (hr : ∀ x ∈ code, rightPI x = true) (hu : runs (code.map PI.op) [] = true) : rightFn (madeF pc cc code) = true := by
  unfold rightFn
  have h1 : (madeF pc cc code).code.all rightIns = true := by
    refine List.all_eq_true.2 fun x hx => ?_
    obtain ⟨y, hy, rfl⟩ := List.mem_map.1 hx
    have := hr y hy
    unfold rightPI at this
    simp only [Bool.and_eq_true] at this
    exact this.1
  have h2 : opsOf (madeF pc cc code).code = code.map PI.op := by simp [opsOf, madeF, insOf]
  rw [h1, h2, hu]
  show (true && (word4 0 && vtypes [127, 126] 4096 && true)) = true
  decide
theorem alone_made (H : Nat) (pc : Option Addr) (cc : Nat) (c : List PI) (f : FnV) : rightMod (alone7 (madeV H pc cc c 2 5 (-5) 0 (-1)) f 0) = (true && (true && ((rightFn f && true) && (true && (true && (true && true)))))) := by kernel_rfl
theorem made_made (H : Nat) (pc : Option Addr) (cc : Nat) (c : List PI) : rightMod (madeV H pc cc c 2 5 (-5) 0 (-1)) = (true && (true && ((rightFn (madeF pc cc c) && true) && (true && (true && (true && true)))))) := by kernel_rfl
theorem made_rest (H : Nat) (pc : Option Addr) (cc : Nat) (c : List PI) : (memory7 (madeV H pc cc c 2 5 (-5) 0 (-1)) && (exports7 (madeV H pc cc c 2 5 (-5) 0 (-1)) && start7 (madeV H pc cc c 2 5 (-5) 0 (-1)))) = true := by kernel_rfl
/-- Another end is right where the own one is. -/
theorem ends_right {l : List StepV} (hr : ∀ x ∈ codeF l, rightPI x = true) (hu : runs ((codeF l).map PI.op) [] = true) (e : List PI) (he : ∀ x ∈ e, rightPI x = true) (hne : (e.map PI.op).isEmpty = false) (hru : ∀ st, runs (e.map PI.op) st = runs [11] st) (p : Option Addr) (c : Nat) : rightFn (madeF p c (bodyF l ++ e)) = true := by
  refine fn_right7 (fun x hx => ?_) ?_
  · rcases List.mem_append.1 hx with h | h
    · exact hr x (by rw [codeF_body]; exact List.mem_append_left _ h)
    · exact he x h
  · rw [List.map_append, runs_tails hru hne]
    rw [codeF_body, List.map_append] at hu
    exact hu
theorem ends_ans {H : Nat} {pc : Option Addr} {cc : Nat} (l : List StepV) (c : List PI) (e : List PI) (p : Option Addr) (q : Nat) {v : Bool} (hright : rightFn (madeF p q (bodyF l ++ e)) = true) (he : e.length ≤ 6) (hv : validFn (madeV H pc cc c 2 5 (-5) 0 (-1)) (madeF p q (bodyF l ++ e)) = v) : funcAns (madeV H pc cc c 2 5 (-5) 0 (-1)) (madeF p q (bodyF l ++ e)) = if v then 0 else 4 := by
  unfold funcAns
  rw [alone_made, hright, ends_deep l e he, hv]
  cases v <;> rfl
def moreE : List PI := [⟨65, 0, 0⟩, ⟨11, 0, 0⟩]
def lessE : List PI := [⟨26, 0, 0⟩, ⟨11, 0, 0⟩]
def deadE : List PI := [⟨15, 0, 0⟩, ⟨26, 0, 0⟩, ⟨106, 0, 0⟩, ⟨26, 0, 0⟩, ⟨11, 0, 0⟩]
theorem runs_more (st : List Int) : runs (moreE.map PI.op) st = runs [11] st := runs_other (by decide)
theorem runs_less (st : List Int) : runs (lessE.map PI.op) st = runs [11] st := runs_other (by decide)
theorem runs_dead (st : List Int) : runs (deadE.map PI.op) st = runs [11] st := by
  show runs [15, 26, 106, 26, 11] st = _
  rw [runs_other (by decide), runs_other (by decide), runs_other (by decide), runs_other (by decide)]
theorem right_more : ∀ x ∈ moreE, rightPI x = true := by decide +kernel
theorem right_less : ∀ x ∈ lessE, rightPI x = true := by decide +kernel
theorem right_dead : ∀ x ∈ deadE, rightPI x = true := by decide +kernel
/-- What package valid answers of made's module, its function, and those with other ends. -/
theorem prog_ans {l : List StepV} (hr : ∀ x ∈ codeF l, rightPI x = true) (hu : runs ((codeF l).map PI.op) [] = true) (H : Nat) (pc : Option Addr) (cc : Nat) :
    modAns7 (madeV H pc cc (codeF l) 2 5 (-5) 0 (-1)) = 0 ∧ funcAns (madeV H pc cc (codeF l) 2 5 (-5) 0 (-1)) (madeF pc cc (codeF l)) = 0
    ∧ (∀ p q, funcAns (madeV H pc cc (codeF l) 2 5 (-5) 0 (-1)) (madeF p q (bodyF l ++ moreE)) = 4)
    ∧ (∀ p q, funcAns (madeV H pc cc (codeF l) 2 5 (-5) 0 (-1)) (madeF p q (bodyF l ++ lessE)) = 4)
    ∧ (∀ p q, funcAns (madeV H pc cc (codeF l) 2 5 (-5) 0 (-1)) (madeF p q (bodyF l ++ deadE)) = 0) := by
  have hrf : rightFn (madeF pc cc (codeF l)) = true := fn_right7 hr hu
  have hdf : deep7 (madeF pc cc (codeF l)) = false := ends_deep l [⟨11, 0, 0⟩] (by decide) pc cc
  have hvf : validFn (madeV H pc cc (codeF l) 2 5 (-5) 0 (-1)) (madeF pc cc (codeF l)) = true := made_valid l
  refine ⟨?_, ?_, fun p q => ?_, fun p q => ?_, fun p q => ?_⟩
  · unfold modAns7
    have h1 : (madeV H pc cc (codeF l) 2 5 (-5) 0 (-1)).funcs = [madeF pc cc (codeF l)] := rfl
    rw [made_made, hrf, h1, made_rest, List.any_cons, hdf, List.all_cons, hvf]
    rfl
  · unfold funcAns
    rw [alone_made, hrf, hdf, hvf]
    rfl
  · exact ends_ans l _ moreE p q (ends_right hr hu _ right_more rfl runs_more p q) (by decide) (more_valid l _)
  · exact ends_ans l _ lessE p q (ends_right hr hu _ right_less rfl runs_less p q) (by decide) (less_valid l _)
  · exact ends_ans l _ deadE p q (ends_right hr hu _ right_dead rfl runs_dead p q) (by decide) (dead_valid l _)
end Go.Proofs.YtomffpibdinkaaaGreatDoor


namespace Go.Proofs.YtomffpibdinkaaaGreatDoor
open Go.RowKit
set_option linter.unusedVariables false
set_option linter.unusedSimpArgs false

/-- A function in a block of its own, and its code. -/
structure Row7 where
  blk : Nat
  p : Option Addr
  n : Nat
  cap : Nat
  base : Nat
  code : List PI
def Row7.v (r : Row7) : Value := .slice r.p r.n r.cap
def fnBox (v : Value) : Obj := .cells #[.int .i64 0, .string ⟨#[127, 126]⟩, v] 35
/-- The boxes above B: the module's, the function's, those of the others. -/
structure Boxes (w1 : World) (om of : Obj) (X : World) (rows : List Row7) : Prop where
  below : Below w1.heap.size w1 X
  size : w1.heap.size + 2 ≤ X.heap.size
  m : X.heap[w1.heap.size]? = some om
  f : X.heap[w1.heap.size + 1]? = some of
  at0 : ∀ r ∈ rows, X.heap[r.blk]? = some (fnBox r.v)
  own : ∀ r ∈ rows, X.ownsRow r.base 38 4 r.v r.n (codeCells r.code)
  over : ∀ r ∈ rows, w1.heap.size + 2 ≤ r.base ∧ w1.heap.size + 2 ≤ r.blk
variable {w1 X X' : World} {om of : Obj} {rows : List Row7}
/-- A block that is neither a box nor a code's. -/
structure Free7 (w1 X : World) (rows : List Row7) (q : Option Nat) : Prop where
  high : ∀ k, q = some k → w1.heap.size + 2 ≤ k
  not0 : ∀ k, q = some k → ∀ r ∈ rows, r.blk ≠ k ∧ r.v.ownBlock ≠ some k
theorem Free7.none : Free7 w1 X rows none := ⟨(fun k h => by cases h), (fun k h => by cases h)⟩
theorem lt7 {o : Obj} {b : Nat} (h : X.heap[b]? = some o) : b < X.heap.size := by
  by_cases hq : b < X.heap.size
  · exact hq
  · rw [Array.getElem?_eq_none (by omega)] at h; cases h
theorem Boxes.grown (h : Boxes w1 om of X rows) {q : Option Nat} (hg : X.grownBy X' q) (hf : Free7 w1 X rows q) : Boxes w1 om of X' rows := by
  have hs := h.size
  refine ⟨h.below.grown hg (by omega) (fun k hk => by have := hf.high k hk; omega), Nat.le_trans hs hg.size, ?_, ?_, fun r hr => ?_, fun r hr => ?_, h.over⟩
  · rw [hg.block _ (by omega) (fun e => by have := hf.high _ e.symm; omega)]; exact h.m
  · rw [hg.block _ (by omega) (fun e => by have := hf.high _ e.symm; omega)]; exact h.f
  · have h1 := h.at0 r hr
    rw [hg.block _ (lt7 h1) (fun e => (hf.not0 _ e.symm r hr).1 rfl)]
    exact h1
  · refine (h.own r hr).kept hg ?_
    cases hv : r.v.ownBlock with
    | none => exact Or.inl rfl
    | some k => exact Or.inr (fun e => (hf.not0 k e.symm r hr).2 hv)
theorem Boxes.alloc (h : Boxes w1 om of X rows) (o : Obj) : Boxes w1 om of (X.alloc o) rows := h.grown (World.grownBy_alloc X o none) Free7.none
/-- What an append to a row that lies above all of them touches. -/
theorem free_own (h : Boxes w1 om of X rows) {Y : World} (B : Nat) (hB : X.heap.size ≤ B) {v : Value} {n : Nat} {xs : List Value} (hv : Y.ownsRow B 38 4 v n xs) : Free7 w1 X rows v.ownBlock := by
  have hs := h.size
  refine ⟨fun k hk => by have := (hv.lt k hk).1; omega, fun k hk r hr => ?_⟩
  have h1 := (hv.lt k hk).1
  refine ⟨fun e => ?_, fun e => ?_⟩
  · have := lt7 (h.at0 r hr); omega
  · have := ((h.own r hr).lt k e).2; omega
theorem store_fn {w : World} {B : Nat} {u v : Value} (h : w.heap[B]? = some (fnBox u)) : (w.setCell ⟨B, 2, none⟩ v).heap[B]? = some (fnBox v) := by
  unfold fnBox at h ⊢
  simp [World.setCell, Array.getElem?_modify, h]
/-- A function's box is given its code. -/
theorem Boxes.store (h : Boxes w1 om of X rows) {C : Nat} {u : Value} (r : Row7) (hr : r.blk = C) (hC : X.heap[C]? = some (fnBox u)) (hC2 : w1.heap.size + 2 ≤ C) (hfree : ∀ x ∈ rows, x.blk ≠ C ∧ x.v.ownBlock ≠ some C) (hown : X.ownsRow r.base 38 4 r.v r.n (codeCells r.code)) (hb : C < r.base) : Boxes w1 om of (X.setCell ⟨C, 2, none⟩ r.v) (rows ++ [r]) := by
  have hg := cell_grown X C 2 r.v
  have h1 := h.grown hg ⟨fun k hk => by injection hk with hk; omega, fun k hk x hx => by injection hk with hk; rw [← hk]; exact hfree x hx⟩
  refine ⟨h1.below, h1.size, h1.m, h1.f, fun x hx => ?_, fun x hx => ?_, fun x hx => ?_⟩
  · rcases List.mem_append.1 hx with e | e
    · exact h1.at0 x e
    · rw [List.mem_singleton.1 e, hr]; exact store_fn hC
  · rcases List.mem_append.1 hx with e | e
    · exact h1.own x e
    · rw [List.mem_singleton.1 e]
      refine hown.kept hg ?_
      cases hv : r.v.ownBlock with
      | none => exact Or.inl rfl
      | some k =>
        have := (hown.lt k hv).1
        exact Or.inr (fun e => by injection e with e; omega)
  · rcases List.mem_append.1 hx with e | e
    · exact h1.over x e
    · rw [List.mem_singleton.1 e, hr]
      exact ⟨by omega, hC2⟩
theorem codeCells_app (a b : List PI) : codeCells (a ++ b) = codeCells a ++ codeCells b := by simp [codeCells]
/-- A new block is none of them. -/
theorem new_free (h : Boxes w1 om of X rows) : ∀ x ∈ rows, x.blk ≠ X.heap.size ∧ x.v.ownBlock ≠ some X.heap.size := fun x hx => by
  refine ⟨fun e => ?_, fun e => ?_⟩
  · have := lt7 (h.at0 x hx); omega
  · have := ((h.own x hx).lt _ e).2; omega
theorem code_row {w : World} {lo cap n : Nat} {p : Option Addr} {code : List PI} (h : w.ownsRow lo 38 4 (.slice p n cap) n (codeCells code)) (hn : code.length = n) (hr : ∀ x ∈ code, rightPI x = true) (hl : n ≤ 4398046511104) : FnAt w (madeF p cap code) := by
  refine ⟨⟨rows_own (n := n) (cap := cap) (lo := lo) (t := 38) ?_ (by show (code.map insOf).length = n; rw [List.length_map, hn]) (fun x _ => rfl), fun x hx => ?_, by show (code.map insOf).length ≤ _; rw [List.length_map, hn]; exact hl⟩, (by show 2 ≤ maxLen; decide), (by show inI64 0; decide)⟩
  · show w.ownsRow lo _ 4 _ n ((code.map insOf).flatMap InsV.row)
    rw [code_cells]
    exact h
  · obtain ⟨y, hy, rfl⟩ := List.mem_map.1 hx
    exact MadeAt.insAt (hr y hy)
theorem made_fval (p : Option Addr) (cap n : Nat) (code : List PI) (hn : code.length = n) : (madeF p cap code).val = .agg #[.int .i64 0, .string ⟨#[127, 126]⟩, .slice p n cap] := by
  subst hn
  unfold FnV.val madeF
  simp only [List.length_map]
end Go.Proofs.YtomffpibdinkaaaGreatDoor


namespace Go.Proofs.YtomffpibdinkaaaGreatDoor
open Go.RowKit
set_option linter.unusedVariables false
set_option linter.unusedSimpArgs false

def bk (b : Bool) : PI := ⟨if b then 66 else 65, 0, 0⟩
def bt (b : Bool) : UInt8 := if b then 126 else 127
def fnO : List FrV := [⟨2, [126], 0, false⟩]
theorem vs_const (c : VC) (b : Bool) (st : List UInt8) : vstep c (insOf (bk b)) ⟨st, fnO, false⟩ = ⟨bt b :: st, fnO, false⟩ := by
  cases b with
  | false => exact (vstep_plain (op := 65) (ps := []) (rs := [127]) (by kernel_rfl) c 0 0 _).trans rfl
  | true => exact (vstep_plain (op := 66) (ps := []) (rs := [126]) (by kernel_rfl) c 0 0 _).trans rfl
theorem run_consts (c : VC) : ∀ (bs : List Bool) (rest : List InsV) (st : List UInt8), vrun c ((bs.map bk).map insOf ++ rest) ⟨st, fnO, false⟩ = vrun c rest ⟨(bs.map bt).reverse ++ st, fnO, false⟩
  | [], rest, st => rfl
  | b :: bs, rest, st => by
    show vrun c (insOf (bk b) :: ((bs.map bk).map insOf ++ rest)) _ = _
    rw [vrun, vs_const, if_neg (fun h => by cases h), run_consts c bs]
    simp
theorem takeAny_cons (k : UInt8) (st : List UInt8) : VS.takeAny ⟨k :: st, fnO, false⟩ = (k, ⟨st, fnO, false⟩) := by
  unfold VS.takeAny
  exact if_neg (fun h => by have h2 : st.length + 1 ≤ 0 := h; omega)
theorem takeL_one (k q : UInt8) (a st : List UInt8) : takeL (k :: a) ⟨q :: st, fnO, false⟩ = takeL a (VS.ask ⟨st, fnO, false⟩ (q == k || q == 0)) := by
  rw [takeL, if_neg (fun h => by cases h), takeAny_cons]
theorem take_match : ∀ (a b st : List UInt8), takeL (a ++ b) ⟨a ++ st, fnO, false⟩ = takeL b ⟨st, fnO, false⟩
  | [], b, st => rfl
  | k :: a, b, st => by
    show takeL (k :: (a ++ b)) ⟨k :: (a ++ st), fnO, false⟩ = _
    rw [takeL_one, beq_self_eq_true, Bool.true_or]
    exact take_match a b st
theorem vs_call (c : VC) (n : Int) (s : VS) : vstep c (insOf ⟨16, n, 0⟩) s = match typeOf7 c.m n with
    | some t => (s.take t.params.data.toList).put t.results.data.toList
    | none => s.ask false := by
  unfold vstep insOf
  simp only [show ¬ (16 : Int) = 0 by decide, show ¬ ((16 : Int) = 2 ∨ (16 : Int) = 3) by decide, show ¬ (16 : Int) = 4 by decide, show ¬ (16 : Int) = 5 by decide, show ¬ (16 : Int) = 11 by decide, show ¬ (16 : Int) = 12 by decide, show ¬ (16 : Int) = 13 by decide, show ¬ (16 : Int) = 14 by decide, show ¬ (16 : Int) = 15 by decide, if_false, if_true]
  cases typeOf7 c.m n <;> rfl
def callE (n : Int) : List PI := [⟨16, n, 0⟩, ⟨11, 0, 0⟩]
variable {m : MoV} {P : ByteArray} {bs : List Bool}
def clC (m : MoV) : VC := ⟨m, [], [126]⟩
def clS : VS := ⟨[], fnO, false⟩
theorem cl_good (h1 : typeOf7 m 1 = some ⟨P, ⟨#[126]⟩⟩) (hP : P.data.toList = bs.map bt) : (vrun (clC m) ((bs.map bk ++ callE 1).map insOf) clS).wrong = false := by
  rw [List.map_append]
  unfold clS
  rw [run_consts]
  show (vrun (clC m) (insOf ⟨16, 1, 0⟩ :: [insOf ⟨11, 0, 0⟩]) _).wrong = _
  rw [vrun, vs_call, show typeOf7 (clC m).m 1 = _ from h1]
  simp only
  rw [hP]
  unfold VS.take
  have h2 := take_match (bs.map bt).reverse [] []
  rw [List.append_nil] at h2
  rw [List.append_nil, h2]
  rfl
theorem cl_none (h1 : typeOf7 m 2 = none) : (vrun (clC m) ((bs.map bk ++ callE 2).map insOf) clS).wrong = true := by
  rw [List.map_append]
  unfold clS
  rw [run_consts]
  show (vrun (clC m) (insOf ⟨16, 2, 0⟩ :: [insOf ⟨11, 0, 0⟩]) _).wrong = _
  rw [vrun, vs_call, show typeOf7 (clC m).m 2 = _ from h1]
  rfl
theorem cl_bad (b0 : Bool) (st : List UInt8) (hst : st = [] ∨ st = [bt (!b0)]) (cs : List Bool) (hcs : (cs.map bt).reverse = (bs.map bt).reverse ++ st) (h1 : typeOf7 m 1 = some ⟨P, ⟨#[126]⟩⟩) (hP : P.data.toList = (b0 :: bs).map bt) : (vrun (clC m) ((cs.map bk ++ callE 1).map insOf) clS).wrong = true := by
  rw [List.map_append]
  unfold clS
  rw [run_consts]
  show (vrun (clC m) (insOf ⟨16, 1, 0⟩ :: [insOf ⟨11, 0, 0⟩]) _).wrong = _
  rw [vrun, vs_call, show typeOf7 (clC m).m 1 = _ from h1]
  simp only
  rw [hP]
  unfold VS.take
  have h3 : ((b0 :: bs).map bt).reverse = (bs.map bt).reverse ++ [bt b0] := by simp
  rw [List.append_nil, hcs, h3, take_match]
  rcases hst with rfl | rfl
  · cases b0 <;> rfl
  · cases b0 <;> rfl
theorem cl_less {b0 : Bool} (h1 : typeOf7 m 1 = some ⟨P, ⟨#[126]⟩⟩) (hP : P.data.toList = (b0 :: bs).map bt) : (vrun (clC m) ((bs.map bk ++ callE 1).map insOf) clS).wrong = true :=
  cl_bad b0 [] (Or.inl rfl) bs (by simp) h1 hP
theorem cl_turn {b0 : Bool} (h1 : typeOf7 m 1 = some ⟨P, ⟨#[126]⟩⟩) (hP : P.data.toList = (b0 :: bs).map bt) : (vrun (clC m) ((((!b0) :: bs).map bk ++ callE 1).map insOf) clS).wrong = true :=
  cl_bad b0 [bt (!b0)] (Or.inr rfl) ((!b0) :: bs) (by simp) h1 hP

/-! ### The module -/
def c2E : List PI := [⟨66, 0, 0⟩, ⟨11, 0, 0⟩]
def clF (pc : Option Addr) (cc : Nat) (code : List PI) : FnV := ⟨0, ⟨#[]⟩, pc, cc, code.map insOf⟩
def clG (C : Nat) : FnV := ⟨1, ⟨#[]⟩, some ⟨C, 0, none⟩, 2, c2E.map insOf⟩
def clV (A B C : Nat) (P : ByteArray) (pc : Option Addr) (cc : Nat) (code : List PI) : MoV :=
  ⟨some ⟨A, 0, none⟩, 2, [⟨⟨#[]⟩, ⟨#[126]⟩⟩, ⟨P, ⟨#[126]⟩⟩], some ⟨B, 0, none⟩, 2, [clF pc cc code, clG C], none, 0, [], none, 0, [], none, 0, [], -1, none, 0, []⟩
theorem cl_type1 (A B C : Nat) (P : ByteArray) (pc : Option Addr) (cc : Nat) (code : List PI) : typeOf7 (clV A B C P pc cc code) 1 = some ⟨P, ⟨#[126]⟩⟩ := rfl
theorem cl_type2 (A B C : Nat) (P : ByteArray) (pc : Option Addr) (cc : Nat) (code : List PI) : typeOf7 (clV A B C P pc cc code) 2 = none := rfl
theorem cl_runs : ∀ (cs : List Bool) (n : Int) (st : List Int), runs ((cs.map bk ++ callE n).map PI.op) st = runs [11] st
  | [], n, st => runs_other (op := 16) (by decide)
  | b :: cs, n, st => by
    show runs ((bk b).op :: ((cs.map bk ++ callE n).map PI.op)) st = _
    rw [runs_other (by cases b <;> decide)]
    exact cl_runs cs n st
theorem cl_rightPI (cs : List Bool) (n : Int) (hn : n = 1 ∨ n = 2) : ∀ x ∈ cs.map bk ++ callE n, rightPI x = true := by
  intro x hx
  rcases List.mem_append.1 hx with h | h
  · obtain ⟨b, _, rfl⟩ := List.mem_map.1 h
    cases b <;> decide +kernel
  · have key : ∀ y ∈ callE n, rightPI y = true := by
      rcases hn with rfl | rfl <;> decide +kernel
    exact key x h
theorem cl_rightF (pc : Option Addr) (cc : Nat) (cs : List Bool) (n : Int) (hn : n = 1 ∨ n = 2) : rightFn (clF pc cc (cs.map bk ++ callE n)) = true := by
  unfold rightFn
  have h1 : (clF pc cc (cs.map bk ++ callE n)).code.all rightIns = true := by
    refine List.all_eq_true.2 fun x hx => ?_
    obtain ⟨y, hy, rfl⟩ := List.mem_map.1 hx
    have := cl_rightPI cs n hn y hy
    unfold rightPI at this
    simp only [Bool.and_eq_true] at this
    exact this.1
  have h2 : opsOf (clF pc cc (cs.map bk ++ callE n)).code = (cs.map bk ++ callE n).map PI.op := by
    show ((cs.map bk ++ callE n).map insOf).map InsV.op = _
    rw [List.map_map]
    rfl
  rw [h1, h2, cl_runs]
  show (true && (word4 0 && vtypes [] 4096 && runs [11] [])) = true
  decide
theorem cl_rightG (C : Nat) : rightFn (clG C) = true := by kernel_rfl
theorem nOpen_bk : ∀ cs : List Bool, nOpen (cs.map bk) = 0
  | [] => rfl
  | b :: cs => by
    show nOpen ([bk b] ++ cs.map bk) = 0
    rw [nOpen_append, nOpen_bk cs]
    cases b <;> rfl
theorem cl_deep (A B C : Nat) (P : ByteArray) (pc : Option Addr) (cc : Nat) (cs : List Bool) (n : Int) : (clV A B C P pc cc (cs.map bk ++ callE n)).funcs.any deep7 = false := by
  have h1 : deep7 (clF pc cc (cs.map bk ++ callE n)) = false := deep_not _ (by rw [nOpen_append, nOpen_bk]; show 0 + nOpen [⟨16, n, 0⟩, ⟨11, 0, 0⟩] ≤ 256; exact Nat.le_trans (Nat.add_le_add_left (List.countP_le_length) 0) (by show 0 + 2 ≤ 256; decide))
  have h2 : deep7 (clG C) = false := by kernel_rfl
  show List.any [clF pc cc (cs.map bk ++ callE n), clG C] deep7 = false
  simp [h1, h2]
theorem cl_right (A B C : Nat) (pc : Option Addr) (cc : Nat) (cs : List Bool) (n : Int) (hn : n = 1 ∨ n = 2) (hP : vtypes P.data.toList 4096 = true) : rightMod (clV A B C P pc cc (cs.map bk ++ callE n)) = true := by
  unfold rightMod
  have h0 : decide (fewMod (clV A B C P pc cc (cs.map bk ++ callE n))) = true := decide_eq_true ⟨(by show 2 ≤ 4096; decide), (by show 2 ≤ 4096; decide), Nat.zero_le _, Nat.zero_le _, Nat.zero_le _, Nat.zero_le _, Or.inl rfl⟩
  have h1 : (clV A B C P pc cc (cs.map bk ++ callE n)).types.all rightTy = true := by
    show List.all [(⟨⟨#[]⟩, ⟨#[126]⟩⟩ : TyV), ⟨P, ⟨#[126]⟩⟩] rightTy = true
    have e1 : rightTy ⟨⟨#[]⟩, ⟨#[126]⟩⟩ = true := by decide
    have e2 : rightTy ⟨P, ⟨#[126]⟩⟩ = true := by
      unfold rightTy
      show (vtypes P.data.toList 4096 && vtypes [126] 1) = true
      rw [hP]
      decide
    simp [e1, e2]
  have h2 : (clV A B C P pc cc (cs.map bk ++ callE n)).funcs.all rightFn = true := by
    show List.all [clF pc cc (cs.map bk ++ callE n), clG C] rightFn = true
    simp [cl_rightF pc cc cs n hn, cl_rightG]
  rw [h0, h1, h2]
  rfl
theorem cl_ans (A B C : Nat) (pc : Option Addr) (cc : Nat) (cs : List Bool) (n : Int) (hn : n = 1 ∨ n = 2) (hP : vtypes P.data.toList 4096 = true) {v : Bool} (hv : (vrun (clC (clV A B C P pc cc (cs.map bk ++ callE n))) ((cs.map bk ++ callE n).map insOf) clS).wrong = v) : modAns7 (clV A B C P pc cc (cs.map bk ++ callE n)) = if v then 4 else 0 := by
  have h1 := cl_right A B C pc cc cs n hn hP
  have h2 := cl_deep A B C P pc cc cs n
  have h3 : validFn (clV A B C P pc cc (cs.map bk ++ callE n)) (clF pc cc (cs.map bk ++ callE n)) = !v := by
    unfold validFn
    rw [if_pos ⟨by show (0 : Int) ≤ 0; omega, by show (0 : Int) < 2; omega⟩]
    show (!(vrun (clC (clV A B C P pc cc (cs.map bk ++ callE n))) ((cs.map bk ++ callE n).map insOf) clS).wrong) = _
    rw [hv]
  have h4 : validFn (clV A B C P pc cc (cs.map bk ++ callE n)) (clG C) = true := by
    generalize cs.map bk ++ callE n = code
    unfold validFn
    rw [if_pos ⟨by show (0 : Int) ≤ 1; omega, by show (1 : Int) < 2; omega⟩]
    show (!(vrun _ (insOf ⟨66, 0, 0⟩ :: [insOf ⟨11, 0, 0⟩]) clS).wrong) = true
    rw [vrun, show vstep _ (insOf ⟨66, 0, 0⟩) clS = _ from vs_const _ true []]
    rfl
  have h5 : (memory7 (clV A B C P pc cc (cs.map bk ++ callE n)) && (exports7 (clV A B C P pc cc (cs.map bk ++ callE n)) && start7 (clV A B C P pc cc (cs.map bk ++ callE n)))) = true := by
    generalize cs.map bk ++ callE n = code
    kernel_rfl
  unfold modAns7
  have h6 : (clV A B C P pc cc (cs.map bk ++ callE n)).funcs = [clF pc cc (cs.map bk ++ callE n), clG C] := rfl
  rw [h1, h2, h5, h6, List.all_cons, List.all_cons, h3, h4]
  cases v <;> rfl
/-- Where it lies. -/
theorem cl_at {W : World} {A B C : Nat} {pc : Option Addr} {cc : Nat} {code : List PI} (hA : W.heap[A]? = some (.cells #[.string ⟨#[]⟩, .string ⟨#[126]⟩, .string P, .string ⟨#[126]⟩] 51))
    (hB : W.heap[B]? = some (.cells #[.int .i64 0, .string ⟨#[]⟩, .slice pc code.length cc, .int .i64 1, .string ⟨#[]⟩, .slice (some ⟨C, 0, none⟩) 2 2] 35))
    (hC : W.heap[C]? = some (.cells #[.int .i64 66, .int .i64 0, .int .i64 0, .slice none 0 0, .int .i64 11, .int .i64 0, .int .i64 0, .slice none 0 0] 38))
    (hc : CodeAt W pc (code.map insOf)) (hP : P.size ≤ maxLen) : ModAt W (clV A B C P pc cc code) where
  types := rows_block hA rfl (fun x _ => rfl)
  typesIn := by
    intro t ht
    rcases List.mem_cons.1 ht with rfl | ht
    · exact ⟨by decide, by decide⟩
    · rw [List.mem_singleton.1 ht]; exact ⟨hP, by show 1 ≤ maxLen; decide⟩
  typesMost := by show 2 ≤ mostThings; decide
  funcs := rows_block hB (by simp [clV, clF, clG, FnV.row, c2E]) (fun x _ => rfl)
  funcsIn := by
    intro f hf
    rcases List.mem_cons.1 hf with rfl | hf
    · exact ⟨hc, (by show 0 ≤ maxLen; decide), (by show inI64 0; decide)⟩
    · rw [List.mem_singleton.1 hf]
      refine ⟨⟨rows_block hC rfl (fun x _ => rfl), fun x hx => ?_, by show 2 ≤ _; decide⟩, (by show 0 ≤ maxLen; decide), (by show inI64 1; decide)⟩
      obtain ⟨y, hy, rfl⟩ := List.mem_map.1 hx
      have key : ∀ y ∈ c2E, rightPI y = true := by decide +kernel
      exact MadeAt.insAt (key y hy)
  funcsMost := by show 2 ≤ mostThings; decide
  memory := RowsAt.nil
  memoryIn := fun t ht => by cases ht
  memoryMost := Nat.zero_le _
  globals := RowsAt.nil
  globalsIn := fun t ht => by cases ht
  globalsMost := Nat.zero_le _
  exports := RowsAt.nil
  exportsIn := fun t ht => by cases ht
  exportsMost := Nat.zero_le _
  startIn := by show inI64 (-1); decide
  data := RowsAt.nil
  dataIn := fun t ht => by cases ht
  dataMost := Nat.zero_le _
end Go.Proofs.YtomffpibdinkaaaGreatDoor


namespace Go.Proofs.YtomffpibdinkaaaGreatDoor
set_option linter.unusedVariables false
section
variable {P : Program} (w : World)
theorem addr_off (g o j : Nat) : (⟨g, o, none⟩ : Addr).add j = ⟨g, o + j, none⟩ := by unfold Addr.add; split <;> simp_all
theorem run_append_off (t ty e : TypeId) (i : TypeInfo) (z : Value) (size bytes : Nat) (ht : P.underlying t = some (.slice e)) (hi : P.info? e = some i) (hz : i.zero = some z)
    (hsize : i.size = size) (hby : i.bytes = bytes) (hzs : z.cells.size = size)
    (g cap o n : Nat) (cur : Array Value) (hg : w.heap[g]? = some (.cells cur e (0, 0))) (hn : o + n ≤ cap) (hcm : cap ≤ maxLen) (hcs : cur.size = cap * size)
    (a : Addr) (m c : Nat) (news : List Value) (hl : news.length = m * size) (hnews : ∀ j u, news[j]? = some u → w.cell? (a.add j) = some u) (h1 : ∀ u ∈ news, u.oneCell' = true)
    (h63 : n + m ≤ maxLen) (hbytes : (n + m) * bytes ≤ 140737488355328) :
    ∃ g' o' c' w', (Builtin.append_ #[t, t] ty #[.slice (some ⟨g, o * size, none⟩) n (cap - o), .slice (some a) m c]).run P w = .ok (.slice (some ⟨g', o', none⟩) (n + m) c') w' ∧ w.grownBy w' (some g) ∧ (g' = g ∨ g' = w.heap.size) ∧ g' < w'.heap.size ∧
      ∀ j u, (((cur.toList.drop (o * size)).take (n * size)) ++ news)[j]? = some u → w'.cell? ⟨g', o' + j, none⟩ = some u := by
  subst hsize
  subst hby
  have hlt : g < w.heap.size := (Array.getElem?_eq_some_iff.1 hg).1
  have holdl : ((cur.toList.drop (o * i.size)).take (n * i.size)).length = n * i.size := by
    rw [List.length_take, List.length_drop, Array.length_toList, hcs]
    have := Nat.mul_le_mul_right i.size hn
    rw [Nat.add_mul] at this
    omega
  have hmul : (o + n) * i.size ≤ cap * i.size := Nat.mul_le_mul_right _ hn
  rw [Nat.add_mul] at hmul
  by_cases hroom : n + m ≤ cap - o
  · have hfit : (o + n) * i.size + news.length ≤ cur.size := by
      rw [hl, hcs, ← Nat.add_mul]
      exact Nat.mul_le_mul_right _ (by omega)
    rw [Nat.add_mul] at hfit
    have hf := run_firstCells_some (P := P) w i.size m a m c news hl hnews
    have hst := run_storeCells_at P g (o * i.size + n * i.size) e news 0 cur w hg (by simpa using hfit) h1
    simp only [Nat.add_zero] at hst
    refine ⟨g, o * i.size, cap - o, w.setRow g (cur.toList.take (o * i.size + n * i.size) ++ news ++ cur.toList.drop (o * i.size + n * i.size + news.length)).toArray, ?_, ⟨rfl, rfl, rfl, by simp, fun k _ hk => setRow_other w g k _ (fun e => hk (by rw [e]))⟩, Or.inl rfl, by simpa using hlt, ?_⟩
    · simp [Builtin.append_, run_underlying ht, sizeOf, typeInfo, hi, Builtin.lenOf, hroom, hf, addr_off, hst]
    · intro j u hu
      simp only [World.cell?, setRow_heap w g cur _ e _ hg, List.getElem?_toArray, Option.isSome_none, Bool.false_eq_true, if_false]
      rw [List.append_assoc, List.getElem?_append, List.length_take, Array.length_toList]
      have hmin : min (o * i.size + n * i.size) cur.size = o * i.size + n * i.size := by omega
      rw [hmin]
      rw [List.getElem?_append, holdl] at hu
      split at hu
      · rename_i hj
        rw [if_pos (by omega), List.getElem?_take, if_pos (by omega)]
        rw [List.getElem?_take, if_pos hj, List.getElem?_drop] at hu
        exact hu
      · rename_i hj
        rw [if_neg (by omega), show o * i.size + j - (o * i.size + n * i.size) = j - n * i.size by omega]
        rw [List.getElem?_append_left]
        · exact hu
        · by_cases hq : j - n * i.size < news.length
          · exact hq
          · rw [List.getElem?_eq_none (by omega)] at hu; cases hu
  · have holds : ∀ j u, ((cur.toList.drop (o * i.size)).take (n * i.size))[j]? = some u → w.cell? ((⟨g, o * i.size, none⟩ : Addr).add j) = some u := by
      intro j u hu
      rw [addr_off, World.cell?, hg]
      rw [List.getElem?_take] at hu
      split at hu
      · rw [List.getElem?_drop] at hu
        simpa using hu
      · cases hu
    have hr := run_append_grow (P := P) w t ty e i z ht hi hz ⟨g, o * i.size, none⟩ n (cap - o) _ holdl holds a m c news hl hnews (by omega) (by simp only [maxLen] at h63; omega) (growslice_fits (by omega) hbytes)
    refine ⟨w.heap.size, 0, _, _, hr, ⟨rfl, rfl, rfl, by simp, fun k hk _ => Go.RowKit.Below.heap_alloc w.drew _ k hk⟩, Or.inr rfl, by simp, ?_⟩
    intro j u hu
    have hnew := heap_alloc_new w.drew (.cells (((cur.toList.drop (o * i.size)).take (n * i.size)).toArray ++ news.toArray ++ Builtin.zeroCells z.cells (grownCap w (n + m) (cap - o) e - (n + m))) e)
    rw [show w.drew.heap.size = w.heap.size from rfl] at hnew
    simp only [World.cell?, hnew, Nat.zero_add, Option.isSome_none, Bool.false_eq_true, if_false]
    simp only [Array.getElem?_append, Array.size_append, List.size_toArray, List.getElem?_toArray]
    have hj : j < ((cur.toList.drop (o * i.size)).take (n * i.size)).length + news.length := by
      rw [← List.length_append]
      by_cases hq : j < (((cur.toList.drop (o * i.size)).take (n * i.size)) ++ news).length
      · exact hq
      · rw [List.getElem?_eq_none (by omega)] at hu; cases hu
    rw [if_pos hj]
    rw [List.getElem?_append] at hu
    exact hu
theorem wpList_append_off {ops : Array Oper} {rest : List Oper} {oo : Oper} {a : Act} {Q : Exit → Act → World → Prop} (hgd : oo.guard = none) (s x : Operand) (t : TypeId)
    (ho : oo.op = .call { callee := .builtin .append, args := #[s, x], argTypes := #[t, t] })
    (e : TypeId) (i : TypeInfo) (z : Value) (size bytes : Nat) (ht : P.underlying t = some (.slice e)) (hi : P.info? e = some i) (hz : i.zero = some z)
    (hsize : i.size = size) (hby : i.bytes = bytes) (hzs : z.cells.size = size)
    (g cap o n : Nat) (cur : Array Value) (hg : w.heap[g]? = some (.cells cur e (0, 0))) (hn : o + n ≤ cap) (hcm : cap ≤ maxLen) (hcs : cur.size = cap * size) (hs : a.eval s = .slice (some ⟨g, o * size, none⟩) n (cap - o))
    (ad : Addr) (m c : Nat) (news : List Value) (hx : a.eval x = .slice (some ad) m c) (hl : news.length = m * size) (hnews : ∀ j u, news[j]? = some u → w.cell? (ad.add j) = some u) (h1 : ∀ u ∈ news, u.oneCell' = true)
    (h63 : n + m ≤ maxLen) (hbytes : (n + m) * bytes ≤ 140737488355328)
    (h : ∀ g' o' c' w', w.grownBy w' (some g) → (g' = g ∨ g' = w.heap.size) → g' < w'.heap.size → (∀ j u, (((cur.toList.drop (o * size)).take (n * size)) ++ news)[j]? = some u → w'.cell? ⟨g', o' + j, none⟩ = some u) → wpList P ops Q rest (a.put oo.dst (.slice (some ⟨g', o', none⟩) (n + m) c')) w') :
    wpList P ops Q (oo :: rest) a w := by
  refine wpList_plain hgd fun K hK => ?_
  obtain ⟨g', o', c', w', hr, h2, h3, h4, h5⟩ := run_append_off (P := P) w t oo.type e i z size bytes ht hi hz hsize hby hzs g cap o n cur hg hn hcm hcs ad m c news hl hnews h1 h63 hbytes
  unfold Oper.wp execOp
  simp only [ho, resolve, invoke, builtin, Sem.run_bind, Sem.run_pure, Result.andThen_ok, List.map_toArray, List.map_cons, List.map_nil, hs, hx, hr]
  exact hK _ _ (h g' o' c' w' h2 h3 h4 h5)
/-- Nothing is left, and no room: it lies in a new row. -/
theorem wpList_append_empty {ops : Array Oper} {rest : List Oper} {oo : Oper} {a : Act} {Q : Exit → Act → World → Prop} (hgd : oo.guard = none) (s x : Operand) (t : TypeId)
    (ho : oo.op = .call { callee := .builtin .append, args := #[s, x], argTypes := #[t, t] })
    (e : TypeId) (i : TypeInfo) (z : Value) (size bytes : Nat) (ht : P.underlying t = some (.slice e)) (hi : P.info? e = some i) (hz : i.zero = some z)
    (hsize : i.size = size) (hby : i.bytes = bytes) (b : Addr) (hs : a.eval s = .slice (some b) 0 0)
    (ad : Addr) (m c : Nat) (news : List Value) (hx : a.eval x = .slice (some ad) m c) (hl : news.length = m * size) (hnews : ∀ j u, news[j]? = some u → w.cell? (ad.add j) = some u) (hm : 0 < m)
    (h63 : m ≤ maxLen) (hbytes : m * bytes ≤ 140737488355328)
    (h : ∀ c' w', w.grownBy w' none → w.heap.size < w'.heap.size → (∀ j u, news[j]? = some u → w'.cell? ⟨w.heap.size, 0 + j, none⟩ = some u) → wpList P ops Q rest (a.put oo.dst (.slice (some ⟨w.heap.size, 0, none⟩) m c')) w') :
    wpList P ops Q (oo :: rest) a w := by
  refine wpList_plain hgd fun K hK => ?_
  subst hsize
  subst hby
  have hr := run_append_grow (P := P) w t oo.type e i z ht hi hz b 0 0 [] (by simp) (fun j v h => by simp at h) ad m c news hl hnews (by omega) (by simp only [maxLen] at h63; omega) (growslice_fits (by omega) (by simpa using hbytes))
  rw [Nat.zero_add] at hr
  have hnew := heap_alloc_new w.drew (.cells (([] : List Value).toArray ++ news.toArray ++ Builtin.zeroCells z.cells (grownCap w m 0 e - m)) e)
  rw [show w.drew.heap.size = w.heap.size from rfl] at hnew
  unfold Oper.wp execOp
  simp only [ho, resolve, invoke, builtin, Sem.run_bind, Sem.run_pure, Result.andThen_ok, List.map_toArray, List.map_cons, List.map_nil, hs, hx, hr]
  refine hK _ _ (h _ _ ⟨rfl, rfl, rfl, by simp, fun k hk _ => Go.RowKit.Below.heap_alloc w.drew _ k hk⟩ (by simp) ?_)
  intro j u hu
  have hj : j < news.length := by
    by_cases hq : j < news.length
    · exact hq
    · rw [List.getElem?_eq_none (by omega)] at hu; cases hu
  simp only [World.cell?, hnew, Nat.zero_add, Option.isSome_none, Bool.false_eq_true, if_false]
  simp only [Array.getElem?_append, Array.size_append, List.size_toArray, List.getElem?_toArray, List.length_nil, Nat.zero_add, Nat.sub_zero, Nat.not_lt_zero, if_false]
  rw [if_pos hj]
  exact hu
end
end Go.Proofs.YtomffpibdinkaaaGreatDoor
