/-
  Chapter 7: how many blocks are open, and how much stands on the stack, step by step, on Lean's own lists. Plain; no program is looked at.
-/
import Derived.Test.YtomffpibdinkaaaGreatDoorValAct
namespace Go.Proofs.YtomffpibdinkaaaGreatDoor
set_option linter.unusedVariables false
set_option linter.unusedSimpArgs false

/-- As many blocks, with results as short, no more on the stack. -/
structure Keep7 (s t : VS) : Prop where
  len : t.opens.length = s.opens.length
  res : (∀ b ∈ s.opens, b.result.length ≤ 1) → ∀ b ∈ t.opens, b.result.length ≤ 1
  stk : t.stack.length ≤ s.stack.length
theorem Keep7.refl (s : VS) : Keep7 s s := ⟨rfl, fun h => h, Nat.le_refl _⟩
theorem Keep7.trans {a b c : VS} (h : Keep7 a b) (k : Keep7 b c) : Keep7 a c := ⟨k.len.trans h.len, fun x => k.res (h.res x), Nat.le_trans k.stk h.stk⟩
theorem Keep7.of {s t : VS} (ho : t.opens = s.opens) (hs : t.stack.length ≤ s.stack.length) : Keep7 s t := ⟨by rw [ho], fun h => by rw [ho]; exact h, hs⟩
theorem keep_ask (s : VS) (b : Bool) : Keep7 s (s.ask b) := Keep7.of rfl (Nat.le_refl _)
theorem keep_take (s : VS) (l : List UInt8) : Keep7 s (s.take l) := Keep7.of (take_opens _ _) (take_len7 _ _)
theorem keep_takeAny (s : VS) : Keep7 s s.takeAny.2 := Keep7.of (takeAny_opens _) (takeAny_len _)
theorem keep_label (s : VS) (n : Int) : Keep7 s (s.label n).2 := Keep7.of (label_opens _ _) (by rw [label_stack]; exact Nat.le_refl _)
theorem keep_local (c : VC) (s : VS) (n : Int) : Keep7 s (local7 c s n).2 := Keep7.of (local_stack c s n).2 (by rw [(local_stack c s n).1]; exact Nat.le_refl _)
theorem keep_global (c : VC) (s : VS) (n : Int) : Keep7 s (global7 c s n).2.2 := Keep7.of (global_stack c s n).2 (by rw [(global_stack c s n).1]; exact Nat.le_refl _)
theorem keep_kill (s : VS) : Keep7 s s.kill := by
  refine ⟨?_, fun h => ?_, kill_len s⟩
  · unfold VS.kill; split
    · rfl
    · rename_i b o ho; show (_ :: o).length = _; rw [ho]; rfl
  · unfold VS.kill
    split
    · exact h
    · rename_i b o ho
      intro b' hb'
      rcases List.mem_cons.1 hb' with rfl | hb'
      · exact h b (by rw [ho]; exact List.mem_cons_self ..)
      · exact h b' (by rw [ho]; exact List.mem_cons_of_mem _ hb')
theorem keep_tab (k : List UInt8) : ∀ (l : List Int) (s : VS), Keep7 s (l.foldl (tab7 k) s)
  | [], s => Keep7.refl s
  | n :: l, s => ((keep_label s n).trans (keep_ask _ _)).trans (keep_tab k l _)
/-- How many blocks an instruction opens, and closes. -/
def blocks7 (op : Int) (n : Nat) : Nat := if op = 2 ∨ op = 3 ∨ op = 4 then n + 1 else if op = 11 then n - 1 else n
structure Next7 (op : Int) (s t : VS) : Prop where
  len : t.opens.length = blocks7 op s.opens.length
  res : ∀ b ∈ t.opens, b.result.length ≤ 1
  stk : t.stack.length ≤ s.stack.length + 1
theorem Keep7.next {s t : VS} {op : Int} (h : Keep7 s t) (hres : ∀ b ∈ s.opens, b.result.length ≤ 1) (h1 : ¬ (op = 2 ∨ op = 3 ∨ op = 4)) (h2 : op ≠ 11) (l : List UInt8) (hl : l.length ≤ 1) : Next7 op s (t.put l) :=
  ⟨by unfold blocks7; rw [if_neg h1, if_neg h2]; exact h.len, h.res hres, by
    show (l.reverse ++ t.stack).length ≤ _
    rw [List.length_append, List.length_reverse]
    have := h.stk
    omega⟩
theorem put_nil7 (s : VS) : s.put [] = s := rfl
theorem Keep7.next0 {s t : VS} {op : Int} (h : Keep7 s t) (hres : ∀ b ∈ s.opens, b.result.length ≤ 1) (h1 : ¬ (op = 2 ∨ op = 3 ∨ op = 4)) (h2 : op ≠ 11) : Next7 op s t := by
  have := h.next hres h1 h2 [] (Nat.zero_le _)
  rwa [put_nil7] at this
theorem enter_next {s t : VS} {op c a : Int} (h : Keep7 s t) (hres : ∀ b ∈ s.opens, b.result.length ≤ 1) (h1 : op = 2 ∨ op = 3 ∨ op = 4) : Next7 op s (t.enter c a) :=
  ⟨by unfold blocks7; rw [if_pos h1]; show (_ :: t.opens).length = _; rw [List.length_cons, h.len], fun b hb => by
    rcases List.mem_cons.1 hb with rfl | hb
    · exact answer_short a
    · exact h.res hres b hb, by have := h.stk; show t.stack.length ≤ _; omega⟩
theorem leave_res {s : VS} (hres : ∀ b ∈ s.opens, b.result.length ≤ 1) : ∀ b ∈ s.leave.opens, b.result.length ≤ 1 := fun b hb => hres b (List.mem_of_mem_tail (by rw [leave_opens] at hb; exact hb))
theorem inner_res {s : VS} (h0 : s.opens ≠ []) (hres : ∀ b ∈ s.opens, b.result.length ≤ 1) : s.inner.result.length ≤ 1 := by
  obtain ⟨b, o, ho⟩ := List.exists_cons_of_ne_nil h0
  have : s.inner = b := by unfold VS.inner; rw [ho]; rfl
  rw [this]
  exact hres b (by rw [ho]; exact List.mem_cons_self ..)
theorem typeOf_short {m : MoV} (h : ∀ t ∈ m.types, t.params.size ≤ 1000000 ∧ t.results.size ≤ 1) {n : Int} {t : TyV} (e : typeOf7 m n = some t) : t.results.data.toList.length ≤ 1 := by
  have := (tyOr_short h n).2
  rw [e] at this
  rw [Array.length_toList]
  exact this
theorem vstep_next {c : VC} {s : VS} {x : InsV} {r : Rw} (h0 : s.opens ≠ []) (hres : ∀ b ∈ s.opens, b.result.length ≤ 1) (hts : ∀ t ∈ c.m.types, t.params.size ≤ 1000000 ∧ t.results.size ≤ 1) (hc : byCode x.op = some r) : Next7 x.op s (vstep c x s) := by
  unfold vstep
  by_cases i0 : x.op = 0
  · rw [if_pos i0]; exact (keep_kill s).next0 hres (by omega) (by omega)
  by_cases i23 : x.op = 2 ∨ x.op = 3
  · rw [if_neg i0, if_pos i23]; exact enter_next (Keep7.refl s) hres (by omega)
  by_cases i4 : x.op = 4
  · rw [if_neg i0, if_neg i23, if_pos i4]; exact enter_next (keep_take s _) hres (by omega)
  rw [if_neg i0, if_neg i23, if_neg i4]
  have n1 : ¬ (x.op = 2 ∨ x.op = 3 ∨ x.op = 4) := by omega
  by_cases i5 : x.op = 5
  · rw [if_pos i5]
    refine ⟨?_, fun b hb => ?_, ?_⟩
    · unfold blocks7
      rw [if_neg n1, if_neg (by omega)]
      show (_ :: s.leave.opens).length = _
      rw [List.length_cons, leave_opens, List.length_tail]
      have : s.opens.length ≠ 0 := fun e => h0 (List.length_eq_zero_iff.1 e)
      omega
    · rcases List.mem_cons.1 hb with rfl | hb
      · exact inner_res h0 hres
      · exact leave_res hres b hb
    · have := leave_short s; show s.leave.stack.length ≤ _; omega
  by_cases i11 : x.op = 11
  · rw [if_neg i5, if_pos i11]
    refine ⟨?_, fun b hb => leave_res hres b hb, ?_⟩
    · unfold blocks7
      rw [if_neg n1, if_pos i11]
      show s.leave.opens.length = _
      rw [leave_opens, List.length_tail]
    · have := leave_short s
      have := inner_res h0 hres
      show (s.inner.result.reverse ++ s.leave.stack).length ≤ _
      rw [List.length_append, List.length_reverse]
      omega
  rw [if_neg i5, if_neg i11]
  by_cases i12 : x.op = 12
  · rw [if_pos i12]; exact (((keep_label s _).trans (keep_take _ _)).trans (keep_kill _)).next0 hres n1 i11
  by_cases i13 : x.op = 13
  · rw [if_neg i12, if_pos i13]
    exact (((keep_take s [127]).trans (keep_label _ _)).trans (keep_take _ _)).next hres n1 i11 _ (label_short (by rw [take_opens]; exact hres) _)
  by_cases i14 : x.op = 14
  · rw [if_neg i12, if_neg i13, if_pos i14]
    exact (((((keep_take s [127]).trans (keep_label _ _)).trans (keep_tab _ _ _)).trans (keep_take _ _)).trans (keep_kill _)).next0 hres n1 i11
  by_cases i15 : x.op = 15
  · rw [if_neg i12, if_neg i13, if_neg i14, if_pos i15]; exact ((keep_take s _).trans (keep_kill _)).next0 hres n1 i11
  rw [if_neg i12, if_neg i13, if_neg i14, if_neg i15]
  by_cases i16 : x.op = 16
  · rw [if_pos i16]
    cases ht : typeOf7 c.m x.a with
    | none => exact (keep_ask s _).next0 hres n1 i11
    | some t => exact (keep_take s _).next hres n1 i11 _ (typeOf_short hts ht)
  by_cases i26 : x.op = 26
  · rw [if_neg i16, if_pos i26]; exact (keep_takeAny s).next0 hres n1 i11
  by_cases i27 : x.op = 27
  · rw [if_neg i16, if_neg i26, if_pos i27]
    exact ((((keep_take s [127]).trans (keep_takeAny _)).trans (keep_takeAny _)).trans (keep_ask _ _)).next hres n1 i11 _ (by simp)
  rw [if_neg i16, if_neg i26, if_neg i27]
  by_cases i32 : x.op = 32
  · rw [if_pos i32]; exact (keep_local c s _).next hres n1 i11 _ (local_short c s _)
  by_cases i33 : x.op = 33
  · rw [if_neg i32, if_pos i33]; exact ((keep_local c s _).trans (keep_take _ _)).next0 hres n1 i11
  by_cases i34 : x.op = 34
  · rw [if_neg i32, if_neg i33, if_pos i34]; exact (((keep_local c s _).trans (keep_take _ _)).trans (keep_local c _ _)).next hres n1 i11 _ (local_short c _ _)
  by_cases i35 : x.op = 35
  · rw [if_neg i32, if_neg i33, if_neg i34, if_pos i35]; exact (keep_global c s _).next hres n1 i11 _ (global_short c s _)
  by_cases i36 : x.op = 36
  · rw [if_neg i32, if_neg i33, if_neg i34, if_neg i35, if_pos i36]; exact (((keep_global c s _).trans (keep_ask _ _)).trans (keep_take _ _)).next0 hres n1 i11
  rw [if_neg i32, if_neg i33, if_neg i34, if_neg i35, if_neg i36, hc]
  have hq := (row_short hc).2
  have hz : r.results.data.toList.length ≤ 1 := by rw [Array.length_toList]; exact hq
  by_cases hs : r.shape = 5 ∨ r.shape = 6
  · simp only [if_pos hs]
    exact ((keep_ask s _).trans (keep_take _ _)).next hres n1 i11 _ hz
  · simp only [if_neg hs]
    exact (keep_take s _).next hres n1 i11 _ hz
/-- Code that is structured, gone through as far as a place. -/
structure Run7 (ops : List Int) (j : Nat) (s : VS) : Prop where
  stk : s.stack.length ≤ j
  opn : s.opens.length ≤ 1 + j
  res : ∀ b ∈ s.opens, b.result.length ≤ 1
  rest : (ops.drop j = [] ∧ s.opens = []) ∨ ∃ st, runs (ops.drop j) st = true ∧ s.opens.length = st.length + 1
theorem Run7.start {ops : List Int} (h : runs ops [] = true) {l : List UInt8} (hl : l.length ≤ 1) : Run7 ops 0 ⟨[], [⟨2, l, 0, false⟩], false⟩ :=
  ⟨Nat.le_refl _, Nat.le_refl _, fun b hb => by cases List.mem_singleton.1 hb; exact hl, .inr ⟨[], h, rfl⟩⟩
theorem Run7.ended {ops : List Int} {s : VS} (h : Run7 ops ops.length s) : s.opens = [] := by
  rcases h.rest with h | ⟨st, h1, _⟩
  · exact h.2
  · rw [List.drop_length] at h1; cases h1
theorem Run7.open {ops : List Int} {j : Nat} {s : VS} (h : Run7 ops j s) (hj : j < ops.length) : s.opens ≠ [] := by
  rcases h.rest with h | ⟨st, _, h2⟩
  · have := List.drop_eq_nil_iff.1 h.1; omega
  · intro e; rw [e] at h2; cases h2
theorem Run7.room {ops : List Int} {j : Nat} {s : VS} (h : Run7 ops j s) (hj : j < ops.length) (hl : ops.length ≤ 400000) : Room7 s := ⟨h.open hj, by have := h.stk; omega, by have := h.opn; omega, h.res⟩
theorem Run7.next {ops : List Int} {j : Nat} {s t : VS} (h : Run7 ops j s) (hj : j < ops.length) (hn : Next7 ops[j] s t) : Run7 ops (j + 1) t := by
  have hlen := hn.len
  have h1 := h.stk
  have h2 := h.opn
  have h3 := hn.stk
  refine ⟨by omega, ?_, hn.res, ?_⟩
  · rw [hlen]; unfold blocks7; split <;> (try split) <;> omega
  · rcases h.rest with h | ⟨st, hr, hl⟩
    · have := List.drop_eq_nil_iff.1 h.1; omega
    · rw [List.drop_eq_getElem_cons hj] at hr
      generalize ops[j] = op at *
      by_cases o1 : op = 2 ∨ op = 3 ∨ op = 4
      · rw [runs_open o1] at hr
        exact .inr ⟨_, hr, by rw [hlen]; unfold blocks7; rw [if_pos o1, hl]; rfl⟩
      · by_cases o5 : op = 5
        · subst o5
          cases st with
          | nil => rw [runs_else_none] at hr; cases hr
          | cons a st =>
            rw [runs_else] at hr
            split at hr
            · exact .inr ⟨_, hr, by rw [hlen]; unfold blocks7; rw [if_neg o1, if_neg (by decide), hl]; rfl⟩
            · cases hr
        · by_cases o11 : op = 11
          · subst o11
            cases st with
            | nil =>
              rw [runs_end_none] at hr
              refine .inl ⟨List.isEmpty_iff.1 hr, List.length_eq_zero_iff.1 ?_⟩
              rw [hlen]; unfold blocks7; rw [if_neg o1, if_pos rfl, hl]; rfl
            | cons a st =>
              rw [runs_end] at hr
              exact .inr ⟨_, hr, by rw [hlen]; unfold blocks7; rw [if_neg o1, if_pos rfl, hl]; rfl⟩
          · rw [runs_other (by omega)] at hr
            exact .inr ⟨_, hr, by rw [hlen]; unfold blocks7; rw [if_neg o1, if_neg o11, hl]⟩
end Go.Proofs.YtomffpibdinkaaaGreatDoor
