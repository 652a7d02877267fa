/-
  Package valid's steps: what is done at an instruction, by its code: walked. Contracts that the proofs call; no statement is proved here.
-/
import Derived.Test.YtomffpibdinkaaaGreatDoorValBlk
namespace Go.Proofs.YtomffpibdinkaaaGreatDoor
open Go.RowKit
set_option linter.unusedVariables false
variable {w0 : World} {B M : Nat} {m : MoV} {lo wh : ByteArray} {s : VS} {sv ov : Value} {w : World}

/-- What the steps ask of where they stand: something is open, there is room, results are short. -/
structure Room7 (s : VS) : Prop where
  ne : s.opens ≠ []
  stk : s.stack.length < 900000000
  opn : s.opens.length < 900000
  res : ∀ b ∈ s.opens, b.result.length ≤ 1
theorem Room7.inner {s : VS} (h : Room7 s) : s.inner.result.length ≤ 1 := by
  obtain ⟨b, o, ho⟩ := List.exists_cons_of_ne_nil h.ne
  have : s.inner = b := by unfold VS.inner; rw [ho]; rfl
  rw [this]
  exact h.res b (by rw [ho]; exact List.mem_cons_self ..)
theorem label_short {s : VS} (h : ∀ b ∈ s.opens, b.result.length ≤ 1) (n : Int) : (s.label n).1.length ≤ 1 := by
  unfold VS.label
  split
  · split
    · rename_i b hb
      split
      · exact Nat.zero_le _
      · exact h b (List.mem_of_getElem? hb)
    · exact Nat.zero_le _
  · exact Nat.zero_le _
theorem takeAny_len (s : VS) : s.takeAny.2.stack.length ≤ s.stack.length := by
  unfold VS.takeAny
  split
  · exact Nat.le_refl _
  · show s.stack.tail.length ≤ _; rw [List.length_tail]; omega
theorem takeL_len : ∀ (l : List UInt8) (s : VS), (takeL l s).stack.length ≤ s.stack.length
  | [], s => Nat.le_refl _
  | k :: l, s => by
    unfold takeL
    split
    · exact Nat.le_refl _
    · exact Nat.le_trans (takeL_len l _) (takeAny_len s)
theorem take_len7 (s : VS) (l : List UInt8) : (s.take l).stack.length ≤ s.stack.length := takeL_len _ _
theorem kill_len (s : VS) : s.kill.stack.length ≤ s.stack.length := by
  unfold VS.kill
  split
  · exact Nat.le_refl _
  · show (s.stack.drop _).length ≤ _; rw [List.length_drop]; omega
theorem label_stack (s : VS) (n : Int) : (s.label n).2.stack = s.stack := by unfold VS.label; split; split <;> rfl; rfl
theorem local_stack (c : VC) (s : VS) (n : Int) : (local7 c s n).2.stack = s.stack ∧ (local7 c s n).2.opens = s.opens := by unfold local7; split <;> exact ⟨rfl, rfl⟩
theorem local_short (c : VC) (s : VS) (n : Int) : (local7 c s n).1.length ≤ 1 := by
  unfold local7
  split
  · show (c.locals[n.toNat]?.toList).length ≤ 1
    cases c.locals[n.toNat]? <;> simp
  · exact Nat.zero_le _
theorem answer_short (n : Int) : (answer7 n).length ≤ 1 := by unfold answer7; split; simp; split <;> simp
theorem global_stack (c : VC) (s : VS) (n : Int) : (global7 c s n).2.2.stack = s.stack ∧ (global7 c s n).2.2.opens = s.opens := by unfold global7; split; split <;> exact ⟨rfl, rfl⟩; exact ⟨rfl, rfl⟩
theorem global_short (c : VC) (s : VS) (n : Int) : (global7 c s n).1.length ≤ 1 := by
  unfold global7
  split
  · split
    · exact answer_short _
    · exact Nat.zero_le _
  · exact Nat.zero_le _
def insObj (x : InsV) : Obj := .cells #[.int .i64 x.op, .int .i64 x.a, .int .i64 x.b, .slice x.lp x.ls.length x.lc] 38
/-- A call's own copy of the instruction. -/
theorem WAt.boxed (h : WAt w0 B M m lo wh s sv ov w) (x : InsV) : WAt w0 B M m lo wh s sv ov (w.alloc (insObj x)) ∧ MovV B sv ov w (w.alloc (insObj x)) sv ov ∧ (w.alloc (insObj x)).heap[w.heap.size]? = some (insObj x) ∧ (w.heap.size ≠ B ∧ sv.ownBlock ≠ some w.heap.size ∧ ov.ownBlock ≠ some w.heap.size ∧ w0.heap.size ≤ w.heap.size) :=
  ⟨h.alloc _, MovV.of ((Below.refl _ _).alloc (Nat.le_refl _) _), heap_alloc_new _ _, h.apart (Nat.le_refl _)⟩
theorem box_ins {W : World} {b : Nat} {x : InsV} (h : W.heap[b]? = some (insObj x)) : W.cell? ⟨b, 0, none⟩ = some (.int .i64 x.op) ∧ W.cell? ⟨b, 1, none⟩ = some (.int .i64 x.a) ∧ W.cell? ⟨b, 2, none⟩ = some (.int .i64 x.b) ∧ W.cell? ⟨b, 3, none⟩ = some (.slice x.lp x.ls.length x.lc) := by
  obtain ⟨_, _, _, _, c0, c1, c2, c3, _⟩ := box_at7 h
  exact ⟨c0, c1, c2, c3⟩
set_option maxRecDepth 100000 in
set_option maxHeartbeats 4000000 in
theorem s_unreachable (h : WAt w0 B M m lo wh s sv ov w) (hr : Room7 s) (x : InsV) : Calls Tryz.prog 71 #[.pointer (some ⟨B, 0, none⟩), x.val] w (DidV w0 B M m lo wh s.kill sv ov w (.tuple #[])) := by
  obtain ⟨hI, mI, nI, aI⟩ := h.boxed x
  have ck := v_kill hI hr.ne
  unfold insObj at hI mI nI ck
  clear h
  unfold InsV.val
  go_enter Tryz.func71, Tryz.ntmps71
  go_wp2_with (go_at_call 102; (with_reducible refine ck.mono ?_); rintro e w2 ⟨sv2, ov2, rfl, h2, m2⟩)
  go_end0
  exact ⟨_, _, rfl, h2, mI.trans m2⟩
set_option maxRecDepth 100000 in
set_option maxHeartbeats 4000000 in
theorem s_drop (h : WAt w0 B M m lo wh s sv ov w) (hr : Room7 s) (x : InsV) : Calls Tryz.prog 81 #[.pointer (some ⟨B, 0, none⟩), x.val] w (DidV w0 B M m lo wh s.takeAny.2 sv ov w (.tuple #[])) := by
  obtain ⟨hI, mI, nI, aI⟩ := h.boxed x
  have ck := v_takeAny hI hr.ne
  unfold insObj at hI mI nI ck
  clear h
  unfold InsV.val
  go_enter Tryz.func81, Tryz.ntmps81
  go_wp2_with (go_at_call 109; (with_reducible refine ck.mono ?_); rintro e w2 ⟨sv2, ov2, rfl, h2, m2⟩)
  go_end0
  exact ⟨_, _, rfl, h2, mI.trans m2⟩
set_option maxRecDepth 100000 in
set_option maxHeartbeats 4000000 in
theorem s_giveBack (h : WAt w0 B M m lo wh s sv ov w) (hr : Room7 s) (hwh : wh.size ≤ 1000000000) (x : InsV) : Calls Tryz.prog 79 #[.pointer (some ⟨B, 0, none⟩), x.val] w (DidV w0 B M m lo wh (s.take wh.data.toList).kill sv ov w (.tuple #[])) := by
  obtain ⟨hI, mI, nI, aI⟩ := h.boxed x
  have ct := v_take hI hr.ne wh hwh
  have x9 : (w.alloc (insObj x)).cell? ⟨B, 9, none⟩ = some (.string wh) := hI.cell 9
  unfold insObj at hI mI nI ct x9
  clear h
  unfold InsV.val
  go_enter Tryz.func79, Tryz.ntmps79
  go_wp2_with fail
  refine ct.mono ?_
  rintro e w2 ⟨sv2, ov2, rfl, h2, m2⟩
  have ck := v_kill h2 (by rw [take_opens]; exact hr.ne)
  clear ct h2
  go_wp2_with (go_at_call 102; (with_reducible refine ck.mono ?_); rintro e w3 ⟨sv3, ov3, rfl, h3, m3⟩)
  go_end0
  exact ⟨_, _, rfl, h3, (mI.trans m2).trans m3⟩
set_option maxRecDepth 100000 in
set_option maxHeartbeats 4000000 in
theorem s_when (h : WAt w0 B M m lo wh s sv ov w) (hr : Room7 s) (x : InsV) : Calls Tryz.prog 73 #[.pointer (some ⟨B, 0, none⟩), x.val] w (DidV w0 B M m lo wh ((s.take [127]).enter x.op x.a) sv ov w (.tuple #[])) := by
  obtain ⟨hI, mI, nI, aI⟩ := h.boxed x
  have ct := v_take hI hr.ne ⟨#[127]⟩ (by decide)
  rw [show (⟨#[127]⟩ : ByteArray).data.toList = [127] from rfl] at ct
  clear h
  obtain ⟨WI, hWI⟩ : ∃ W, W = w.alloc (insObj x) := ⟨_, rfl⟩
  rw [← hWI] at hI mI nI ct
  unfold insObj at hWI nI
  unfold InsV.val
  go_enter Tryz.func73, Tryz.ntmps73
  go_wp2_with fail
  rw [← hWI]
  refine ct.mono ?_
  rintro e w2 ⟨sv2, ov2, rfl, h2, m2⟩
  obtain ⟨n2, a2⟩ := m2.keeps (w0 := w0) nI aI
  obtain ⟨c0, c1, c2, c3⟩ := box_ins n2
  have ce := v_enter h2 x (by rw [take_opens]; have := hr.opn; omega)
  unfold InsV.val at ce
  clear ct h2 hWI
  go_wp2_with (go_at_call 72; (with_reducible refine ce.mono ?_); rintro e w3 ⟨sv3, ov3, rfl, h3, m3⟩)
  go_end0
  exact ⟨_, _, rfl, h3, (mI.trans m2).trans m3⟩
set_option maxRecDepth 100000 in
set_option maxHeartbeats 4000000 in
theorem s_br (h : WAt w0 B M m lo wh s sv ov w) (hr : Room7 s) (x : InsV) (ha : inI64 x.a) : Calls Tryz.prog 76 #[.pointer (some ⟨B, 0, none⟩), x.val] w (DidV w0 B M m lo wh (((s.label x.a).2.take (s.label x.a).1).kill) sv ov w (.tuple #[])) := by
  obtain ⟨hI, mI, nI, aI⟩ := h.boxed x
  clear h
  obtain ⟨WI, hWI⟩ : ∃ W, W = w.alloc (insObj x) := ⟨_, rfl⟩
  rw [← hWI] at hI mI nI
  obtain ⟨c0, c1, c2, c3⟩ := box_ins nI
  have cl := v_label hI x.a ha
  unfold insObj at hWI
  unfold InsV.val
  go_enter Tryz.func76, Tryz.ntmps76
  go_wp2_with fail
  rw [← hWI]
  clear hWI
  refine cl.mono ?_
  rintro e w2 ⟨sv2, ov2, rfl, h2, m2⟩
  have hs := label_short hr.res x.a
  have ho : (s.label x.a).2.opens ≠ [] := by rw [label_opens]; exact hr.ne
  have ct := v_take h2 ho (b7 (s.label x.a).1) (by rw [b7_size]; omega)
  rw [b7_list] at ct
  clear cl h2 c0 c1 c2 c3
  go_wp2_with fail
  refine ct.mono ?_
  rintro e w3 ⟨sv3, ov3, rfl, h3, m3⟩
  have ck := v_kill h3 (by rw [take_opens]; exact ho)
  clear ct h3
  go_wp2_with (go_at_call 102; (with_reducible refine ck.mono ?_); rintro e w4 ⟨sv4, ov4, rfl, h4, m4⟩)
  go_end0
  exact ⟨_, _, rfl, h4, ((mI.trans m2).trans m3).trans m4⟩
set_option maxRecDepth 100000 in
set_option maxHeartbeats 4000000 in
theorem s_brIf (h : WAt w0 B M m lo wh s sv ov w) (hr : Room7 s) (x : InsV) (ha : inI64 x.a) : Calls Tryz.prog 77 #[.pointer (some ⟨B, 0, none⟩), x.val] w (DidV w0 B M m lo wh ((((s.take [127]).label x.a).2.take ((s.take [127]).label x.a).1).put ((s.take [127]).label x.a).1) sv ov w (.tuple #[])) := by
  obtain ⟨hI, mI, nI, aI⟩ := h.boxed x
  clear h
  obtain ⟨WI, hWI⟩ : ∃ W, W = w.alloc (insObj x) := ⟨_, rfl⟩
  rw [← hWI] at hI mI nI
  obtain ⟨c0, c1, c2, c3⟩ := box_ins nI
  have ct := v_take hI hr.ne ⟨#[127]⟩ (by decide)
  rw [show (⟨#[127]⟩ : ByteArray).data.toList = [127] from rfl] at ct
  unfold insObj at hWI
  unfold InsV.val
  go_enter Tryz.func77, Tryz.ntmps77
  go_wp2_with fail
  rw [← hWI]
  clear hWI
  refine ct.mono ?_
  rintro e w2 ⟨sv2, ov2, rfl, h2, m2⟩
  obtain ⟨n2, a2⟩ := m2.keeps (w0 := w0) nI aI
  obtain ⟨d0, d1, d2, d3⟩ := box_ins n2
  have hlen := take_len7 s [127]
  have hres : ∀ b ∈ (s.take [127]).opens, b.result.length ≤ 1 := by rw [take_opens]; exact hr.res
  have hne : (s.take [127]).opens ≠ [] := by rw [take_opens]; exact hr.ne
  have hst := hr.stk
  obtain ⟨s1, hs1⟩ : ∃ s1, s.take [127] = s1 := ⟨_, rfl⟩
  rw [hs1] at h2 hlen hres hne
  have cl := v_label h2 x.a ha
  have hs := label_short hres x.a
  have hne2 : (s1.label x.a).2.opens ≠ [] := by rw [label_opens]; exact hne
  have hlen2 := label_stack s1 x.a
  obtain ⟨K, hK⟩ : ∃ K, s1.label x.a = K := ⟨_, rfl⟩
  obtain ⟨k, s2⟩ := K
  rw [hK] at cl hs hne2 hlen2
  simp only at cl hs hne2 hlen2
  clear ct h2 c0 c1 c2 c3
  go_wp2_with fail
  refine cl.mono ?_
  rintro e w3 ⟨sv3, ov3, rfl, h3, m3⟩
  have ck := v_take h3 hne2 (b7 k) (by rw [b7_size]; omega)
  rw [b7_list] at ck
  have hlen3 := take_len7 s2 k
  rw [hlen2] at hlen3
  clear cl h3 d0 d1 d2 d3
  go_wp2_with fail
  refine ck.mono ?_
  rintro e w4 ⟨sv4, ov4, rfl, h4, m4⟩
  have cp := v_put h4 (b7 k) (by rw [b7_size]; omega)
  rw [b7_list] at cp
  clear ck h4
  go_wp2_with (go_at_call 107; (with_reducible refine cp.mono ?_); rintro e w5 ⟨sv5, ov5, rfl, h5, m5⟩)
  go_end0
  refine ⟨_, _, rfl, ?_, (((mI.trans m2).trans m3).trans m4).trans m5⟩
  rw [hs1, hK]
  exact h5
set_option maxRecDepth 100000 in
set_option maxHeartbeats 4000000 in
theorem s_localGet (h : WAt w0 B M m lo wh s sv ov w) (hr : Room7 s) (hlo : lo.size ≤ 1000000000) (x : InsV) (ha : inI64 x.a) : Calls Tryz.prog 83 #[.pointer (some ⟨B, 0, none⟩), x.val] w (DidV w0 B M m lo wh ((local7 (vc7 m lo wh) s x.a).2.put (local7 (vc7 m lo wh) s x.a).1) sv ov w (.tuple #[])) := by
  obtain ⟨hI, mI, nI, aI⟩ := h.boxed x
  clear h
  obtain ⟨WI, hWI⟩ : ∃ W, W = w.alloc (insObj x) := ⟨_, rfl⟩
  rw [← hWI] at hI mI nI
  obtain ⟨c0, c1, c2, c3⟩ := box_ins nI
  have cl := v_local hI hlo x.a ha
  unfold insObj at hWI
  unfold InsV.val
  go_enter Tryz.func83, Tryz.ntmps83
  go_wp2_with fail
  rw [← hWI]
  clear hWI
  refine cl.mono ?_
  rintro e w2 ⟨sv2, ov2, rfl, h2, m2⟩
  have hs := local_short (vc7 m lo wh) s x.a
  have hst := hr.stk
  have cp := v_put h2 (b7 (local7 (vc7 m lo wh) s x.a).1) (by rw [b7_size, (local_stack _ _ _).1]; omega)
  rw [b7_list] at cp
  clear cl h2 c0 c1 c2 c3
  go_wp2_with (go_at_call 107; (with_reducible refine cp.mono ?_); rintro e w3 ⟨sv3, ov3, rfl, h3, m3⟩)
  go_end0
  exact ⟨_, _, rfl, h3, (mI.trans m2).trans m3⟩
set_option maxRecDepth 100000 in
set_option maxHeartbeats 4000000 in
theorem s_localSet (h : WAt w0 B M m lo wh s sv ov w) (hr : Room7 s) (hlo : lo.size ≤ 1000000000) (x : InsV) (ha : inI64 x.a) : Calls Tryz.prog 84 #[.pointer (some ⟨B, 0, none⟩), x.val] w (DidV w0 B M m lo wh ((local7 (vc7 m lo wh) s x.a).2.take (local7 (vc7 m lo wh) s x.a).1) sv ov w (.tuple #[])) := by
  obtain ⟨hI, mI, nI, aI⟩ := h.boxed x
  clear h
  obtain ⟨WI, hWI⟩ : ∃ W, W = w.alloc (insObj x) := ⟨_, rfl⟩
  rw [← hWI] at hI mI nI
  obtain ⟨c0, c1, c2, c3⟩ := box_ins nI
  have cl := v_local hI hlo x.a ha
  unfold insObj at hWI
  unfold InsV.val
  go_enter Tryz.func84, Tryz.ntmps84
  go_wp2_with fail
  rw [← hWI]
  clear hWI
  refine cl.mono ?_
  rintro e w2 ⟨sv2, ov2, rfl, h2, m2⟩
  have hs := local_short (vc7 m lo wh) s x.a
  have cp := v_take h2 (by rw [(local_stack _ _ _).2]; exact hr.ne) (b7 (local7 (vc7 m lo wh) s x.a).1) (by rw [b7_size]; omega)
  rw [b7_list] at cp
  clear cl h2 c0 c1 c2 c3
  go_wp2_with (go_at_call 104; (with_reducible refine cp.mono ?_); rintro e w3 ⟨sv3, ov3, rfl, h3, m3⟩)
  go_end0
  exact ⟨_, _, rfl, h3, (mI.trans m2).trans m3⟩
theorem Room7.less {s t : VS} (h : Room7 s) (ho : t.opens = s.opens) (hl : t.stack.length ≤ s.stack.length) : Room7 t := ⟨by rw [ho]; exact h.ne, Nat.lt_of_le_of_lt hl h.stk, by rw [ho]; exact h.opn, by rw [ho]; exact h.res⟩
set_option maxRecDepth 100000 in
set_option maxHeartbeats 4000000 in
theorem s_localTee (h : WAt w0 B M m lo wh s sv ov w) (hr : Room7 s) (hlo : lo.size ≤ 1000000000) (x : InsV) (ha : inI64 x.a) : Calls Tryz.prog 85 #[.pointer (some ⟨B, 0, none⟩), x.val] w (DidV w0 B M m lo wh ((local7 (vc7 m lo wh) ((local7 (vc7 m lo wh) s x.a).2.take (local7 (vc7 m lo wh) s x.a).1) x.a).2.put (local7 (vc7 m lo wh) ((local7 (vc7 m lo wh) s x.a).2.take (local7 (vc7 m lo wh) s x.a).1) x.a).1) sv ov w (.tuple #[])) := by
  obtain ⟨hI, mI, nI, aI⟩ := h.boxed x
  clear h
  obtain ⟨WI, hWI⟩ : ∃ W, W = w.alloc (insObj x) := ⟨_, rfl⟩
  rw [← hWI] at hI mI nI
  obtain ⟨c0, c1, c2, c3⟩ := box_ins nI
  have cs := s_localSet hI hr hlo x ha
  unfold InsV.val at cs
  unfold insObj at hWI
  unfold InsV.val
  go_enter Tryz.func85, Tryz.ntmps85
  go_wp2_with fail
  rw [← hWI]
  clear hWI
  refine cs.mono ?_
  rintro e w2 ⟨sv2, ov2, rfl, h2, m2⟩
  obtain ⟨n2, a2⟩ := m2.keeps (w0 := w0) nI aI
  obtain ⟨d0, d1, d2, d3⟩ := box_ins n2
  have hr2 : Room7 ((local7 (vc7 m lo wh) s x.a).2.take (local7 (vc7 m lo wh) s x.a).1) := hr.less (by rw [take_opens, (local_stack _ _ _).2]) (by have := take_len7 (local7 (vc7 m lo wh) s x.a).2 (local7 (vc7 m lo wh) s x.a).1; rw [(local_stack _ _ _).1] at this; exact this)
  have cg := s_localGet h2 hr2 hlo x ha
  unfold InsV.val at cg
  clear cs h2 c0 c1 c2 c3
  go_wp2_with (go_at_call 83; (with_reducible refine cg.mono ?_); rintro e w3 ⟨sv3, ov3, rfl, h3, m3⟩)
  go_end0
  exact ⟨_, _, rfl, h3, (mI.trans m2).trans m3⟩
set_option maxRecDepth 100000 in
set_option maxHeartbeats 4000000 in
theorem s_globalGet (h : WAt w0 B M m lo wh s sv ov w) (hr : Room7 s) (hm : ModAt w0 m) (x : InsV) (ha : inI64 x.a) : Calls Tryz.prog 86 #[.pointer (some ⟨B, 0, none⟩), x.val] w (DidV w0 B M m lo wh ((global7 (vc7 m lo wh) s x.a).2.2.put (global7 (vc7 m lo wh) s x.a).1) sv ov w (.tuple #[])) := by
  obtain ⟨hI, mI, nI, aI⟩ := h.boxed x
  clear h
  obtain ⟨WI, hWI⟩ : ∃ W, W = w.alloc (insObj x) := ⟨_, rfl⟩
  rw [← hWI] at hI mI nI
  obtain ⟨c0, c1, c2, c3⟩ := box_ins nI
  have cl := v_global hI hm x.a ha
  unfold insObj at hWI
  unfold InsV.val
  go_enter Tryz.func86, Tryz.ntmps86
  go_wp2_with fail
  rw [← hWI]
  clear hWI
  refine cl.mono ?_
  rintro e w2 ⟨sv2, ov2, rfl, h2, m2⟩
  have hs := global_short (vc7 m lo wh) s x.a
  have hst := hr.stk
  have cp := v_put h2 (b7 (global7 (vc7 m lo wh) s x.a).1) (by rw [b7_size, (global_stack _ _ _).1]; omega)
  rw [b7_list] at cp
  clear cl h2 c0 c1 c2 c3 hm
  go_wp2_with (go_at_call 107; (with_reducible refine cp.mono ?_); rintro e w3 ⟨sv3, ov3, rfl, h3, m3⟩)
  go_end0
  exact ⟨_, _, rfl, h3, (mI.trans m2).trans m3⟩
set_option maxRecDepth 100000 in
set_option maxHeartbeats 4000000 in
theorem s_globalSet (h : WAt w0 B M m lo wh s sv ov w) (hr : Room7 s) (hm : ModAt w0 m) (x : InsV) (ha : inI64 x.a) : Calls Tryz.prog 87 #[.pointer (some ⟨B, 0, none⟩), x.val] w (DidV w0 B M m lo wh (((global7 (vc7 m lo wh) s x.a).2.2.ask (global7 (vc7 m lo wh) s x.a).2.1).take (global7 (vc7 m lo wh) s x.a).1) sv ov w (.tuple #[])) := by
  obtain ⟨hI, mI, nI, aI⟩ := h.boxed x
  clear h
  obtain ⟨WI, hWI⟩ : ∃ W, W = w.alloc (insObj x) := ⟨_, rfl⟩
  rw [← hWI] at hI mI nI
  obtain ⟨c0, c1, c2, c3⟩ := box_ins nI
  have cl := v_global hI hm x.a ha
  unfold insObj at hWI
  unfold InsV.val
  go_enter Tryz.func87, Tryz.ntmps87
  go_wp2_with fail
  rw [← hWI]
  clear hWI
  refine cl.mono ?_
  rintro e w2 ⟨sv2, ov2, rfl, h2, m2⟩
  have hs := global_short (vc7 m lo wh) s x.a
  have ca := v_ask h2 (global7 (vc7 m lo wh) s x.a).2.1
  clear cl h2 c0 c1 c2 c3 hm
  go_wp2_with fail
  refine ca.mono ?_
  rintro e w3 ⟨sv3, ov3, rfl, h3, m3⟩
  have cp := v_take h3 (by rw [ask_opens, (global_stack _ _ _).2]; exact hr.ne) (b7 (global7 (vc7 m lo wh) s x.a).1) (by rw [b7_size]; omega)
  rw [b7_list] at cp
  clear ca h3
  go_wp2_with (go_at_call 104; (with_reducible refine cp.mono ?_); rintro e w4 ⟨sv4, ov4, rfl, h4, m4⟩)
  go_end0
  exact ⟨_, _, rfl, h4, ((mI.trans m2).trans m3).trans m4⟩
end Go.Proofs.YtomffpibdinkaaaGreatDoor
