/-
  Package valid's walk: behind an else, and at an end: walked. Contracts that the proofs call; no statement is proved here.
-/
import Derived.Test.YtomffpibdinkaaaGreatDoorValSteps
namespace Go.Proofs.YtomffpibdinkaaaGreatDoor
open Go.RowKit
set_option linter.unusedVariables false
variable {w0 : World} {B M : Nat} {m : MoV} {lo wh : ByteArray} {s : VS} {sv ov : Value} {w : World}

theorem other_wf {s : VS} (h : s.Wf) (h0 : s.opens ≠ []) (c : Int) (r : List UInt8) (d : Bool) : (⟨s.leave.stack, ⟨c, r, s.inner.height, d⟩ :: s.leave.opens, s.leave.wrong⟩ : VS).Wf := by
  obtain ⟨b, o, ho⟩ := List.exists_cons_of_ne_nil h0
  have hin : s.inner = b := by unfold VS.inner; rw [ho]; rfl
  have h1 := take_wf h s.inner.result
  have h2 := h1.2
  rw [take_opens, ho] at h2
  have h3 := h.1
  rw [ho] at h3
  rw [hin]
  refine ⟨?_, ?_⟩
  · rw [leave_opens, ho]
    exact List.pairwise_cons.2 ⟨fun x hx => (List.pairwise_cons.1 h3).1 x hx, (List.pairwise_cons.1 h3).2⟩
  · have : s.leave.stack = (s.take s.inner.result).stack := rfl
    rw [this]
    exact h2
def frObj (b : FrV) : Obj := .cells #[.int .i64 b.code, .string (b7 b.result), .int .i64 b.height, .bool b.dead] 115
set_option maxRecDepth 100000 in
set_option maxHeartbeats 8000000 in
theorem s_other (h : WAt w0 B M m lo wh s sv ov w) (hr : Room7 s) (x : InsV) : Calls Tryz.prog 74 #[.pointer (some ⟨B, 0, none⟩), x.val] w (DidV w0 B M m lo wh { s.leave with opens := ⟨x.op, s.inner.result, s.inner.height, false⟩ :: s.leave.opens } sv ov w (.tuple #[])) := by
  obtain ⟨xo, xa, xb, xp, xc, xl⟩ := x
  obtain ⟨i0, hi, hz0, hz1, hz2⟩ := info_parts info_frame
  obtain ⟨hI, mI, nI, aI⟩ := h.boxed ⟨xo, xa, xb, xp, xc, xl⟩
  have cl := v_leave hI hr.ne (by have := hr.inner; omega)
  have hwf := other_wf h.wf hr.ne xo s.inner.result false
  have hlen : s.leave.opens.length < 900000 := by rw [leave_opens, List.length_tail]; have := hr.opn; omega
  clear h
  obtain ⟨WJ, hWJ⟩ : ∃ W, W = w.alloc (insObj ⟨xo, xa, xb, xp, xc, xl⟩) := ⟨_, rfl⟩
  rw [← hWJ] at hI mI nI cl
  unfold insObj at hWJ
  dsimp only [InsV.val] at hWJ ⊢
  obtain ⟨⟨bc, br, bh, bd⟩, hin⟩ : ∃ b, s.inner = b := ⟨_, rfl⟩
  rw [hin] at cl hwf ⊢
  obtain ⟨sL, hsL⟩ : ∃ sL, s.leave = sL := ⟨_, rfl⟩
  rw [hsL] at cl hwf hlen ⊢
  clear hsL hin
  go_enter Tryz.func74, Tryz.ntmps74
  go_wp2_with fail
  rw [← hWJ]
  clear hWJ
  refine cl.mono ?_
  rintro e w1 ⟨sv, ov, rfl, h1, m1⟩
  dsimp only [FrV.val]
  obtain ⟨n1, a1⟩ := m1.keeps (w0 := w0) nI aI
  have hI1 := h1.alloc (frObj ⟨bc, br, bh, bd⟩)
  have nF : (w1.alloc (frObj ⟨bc, br, bh, bd⟩)).heap[w1.heap.size]? = some (frObj ⟨bc, br, bh, bd⟩) := heap_alloc_new _ _
  have aF := h1.apart (Nat.le_refl w1.heap.size)
  have n2 := (Below.heap_alloc w1 (frObj ⟨bc, br, bh, bd⟩) _ (in_heap7 n1)).trans n1
  have mF : MovV B sv ov w1 (w1.alloc (frObj ⟨bc, br, bh, bd⟩)) sv ov := MovV.of ((Below.refl _ _).alloc (Nat.le_refl _) _)
  obtain ⟨WI, hWI⟩ : ∃ W, W = w1.alloc (frObj ⟨bc, br, bh, bd⟩) := ⟨_, rfl⟩
  rw [← hWI] at hI1 nF n2 mF
  unfold frObj at hWI nF
  have hfew := h1.few.1
  have hlq : w.heap.size < WI.heap.size := in_heap7 n2
  have hlf : w1.heap.size < WI.heap.size := in_heap7 nF
  have MI := Lib.hid ((mI.trans m1).trans mF)
  clear cl hI nI n1 h1 m1 mI mF
  go_wp2
  rw [← hWI]
  clear hWI
  have hMl := hI1.hl
  have hMB := hI1.hM
  have hovI := a1.2.2.1
  have hovF := aF.2.2.1
  have hsl := hI1.stkLen
  obtain ⟨p, cp, rfl⟩ : ∃ p cp, sv = .slice p sL.stack.length cp := by
    rcases own_any7 hsl with ⟨rfl, h1, _⟩ | ⟨g, c, rfl, _⟩
    · exact ⟨none, 0, by rw [h1]⟩
    · exact ⟨_, _, rfl⟩
  unfold insObj at n2
  dsimp only at n2
  have HNI := Lib.hid n2
  have HNF := Lib.hid nF
  have HWF := Lib.hid hwf
  have hovB := hI1.ne.2
  obtain ⟨SS, hSS⟩ : ∃ S : World → Prop, S = fun W => W.cell? ⟨B, 11, none⟩ = some ov ∧ W.cell? ⟨w.heap.size, 0, none⟩ = some (.int .i64 xo) ∧ W.cell? ⟨w1.heap.size, 1, none⟩ = some (.string (b7 br)) ∧ W.cell? ⟨w1.heap.size, 2, none⟩ = some (.int .i64 bh) := ⟨_, rfl⟩
  have hS1 : ∀ W, Below WI.heap.size WI W → SS W := fun W hW => by
    rw [hSS]
    exact ⟨(hI1.at' hW).lists.2.1, by rw [World.cell?, (hW.block _ hlq).trans HNI.out]; rfl, by rw [World.cell?, (hW.block _ hlf).trans HNF.out]; rfl, by rw [World.cell?, (hW.block _ hlf).trans HNF.out]; rfl⟩
  have hS2 : ∀ W w2, Below WI.heap.size WI W → W.grownBy w2 ov.ownBlock → SS w2 := fun W w2 hW hg => by
    have hbx2 := (hg.block B (by have := hW.size; omega) (fun e => hovB B e.symm rfl)).trans (hI1.at' hW).box
    have hib2 := (hg.block w.heap.size (by have := hW.size; omega) (fun e => hovI e.symm)).trans ((hW.block _ hlq).trans HNI.out)
    have hif2 := (hg.block w1.heap.size (by have := hW.size; omega) (fun e => hovF e.symm)).trans ((hW.block _ hlf).trans HNF.out)
    rw [hSS]
    exact ⟨by rw [World.cell?, hbx2]; rfl, by rw [World.cell?, hib2]; rfl, by rw [World.cell?, hif2]; rfl, by rw [World.cell?, hif2]; rfl⟩
  have hH : SS WI.drew := hS1 _ (Below.refl _ _).drew
  have hopn : ∀ W, Below WI.heap.size WI W → W.ownsRow (M + 1) 115 4 ov sL.opens.length (opnB sL.opens) := fun W hW => (hI1.at' hW).opn
  have hbox : ∀ W, Below WI.heap.size WI W → W.heap[B]? = some (.cells (walkCells m M lo wh (.slice p sL.stack.length cp) ov sL.wrong) 112) := fun W hW => (hI1.at' hW).box
  have hgo := fun (v' : Value) (W w1 : World) (hb : Below WI.heap.size WI W) => (hI1.at' hb).grownOpn (op := ⟨xo, br, bh, false⟩ :: sL.opens) (ov' := v') (w1 := w1)
  have HGO := Lib.hid hgo
  have HS0 : Hid (∀ W, SS W → W.cell? ⟨B, 11, none⟩ = some ov ∧ W.cell? ⟨w.heap.size, 0, none⟩ = some (.int .i64 xo) ∧ W.cell? ⟨w1.heap.size, 1, none⟩ = some (.string (b7 br)) ∧ W.cell? ⟨w1.heap.size, 2, none⟩ = some (.int .i64 bh)) := Lib.hid (fun W hW => by rw [hSS] at hW; exact hW)
  clear hSS
  have HS1 := Lib.hid hS1
  have HS2 := Lib.hid hS2
  have HOPN := Lib.hid hopn
  have HBOX := Lib.hid hbox
  have HH := Lib.hid hH
  clear hI1 hwf hgo hS1 hS2 hopn hbox hH n2 nF hsl
  -- DRAWN other
  refine wp_region_front 14 SS (by kernel_rfl) (by decide) (by kernel_rfl) (by kernel_rfl) (by kernel_rfl) ?_
  refine take_dst (i := 0) (d := 7) (v := ?_) ((frontOf_get (by decide)).trans rfl) rfl (by kernel_rfl) (by kernel_rfl) (by kernel_rfl) (fun _ _ _ h => h) (Or.inl ⟨by rfl, ?_⟩) HH.out ?_
  rotate_left
  · intro W hSw
    skip
    go_simp
    try with_reducible rfl
  simp only [Act.put, List.setIfInBounds_toArray, List.set_cons_zero, List.set_cons_succ]
  refine take_dst (i := 1) (d := 8) (v := ?_) ((frontOf_get (by decide)).trans rfl) rfl (by kernel_rfl) (by kernel_rfl) (by kernel_rfl) (fun _ _ _ h => h) (Or.inl ⟨by rfl, ?_⟩) HH.out ?_
  rotate_left
  · intro W hSw
    skip
    go_simp
    try with_reducible rfl
  simp only [Act.put, List.setIfInBounds_toArray, List.set_cons_zero, List.set_cons_succ]
  refine take_dst (i := 2) (d := 9) (v := ?_) ((frontOf_get (by decide)).trans rfl) rfl (by kernel_rfl) (by kernel_rfl) (by kernel_rfl) (fun _ _ _ h => h) (Or.inl ⟨by rfl, ?_⟩) HH.out ?_
  rotate_left
  · intro W hSw
    skip
    go_simp
    try with_reducible rfl
  simp only [Act.put, List.setIfInBounds_toArray, List.set_cons_zero, List.set_cons_succ]
  refine take_dst (i := 3) (d := 10) (v := ?_) ((frontOf_get (by decide)).trans rfl) rfl (by kernel_rfl) (by kernel_rfl) (by kernel_rfl) (fun _ _ _ h => h) (Or.inl ⟨by rfl, ?_⟩) HH.out ?_
  rotate_left
  · intro W hSw
    skip
    go_simp
    try with_reducible rfl
  simp only [Act.put, List.setIfInBounds_toArray, List.set_cons_zero, List.set_cons_succ]
  refine take_dst (i := 4) (d := 11) (v := ?_) ((frontOf_get (by decide)).trans rfl) rfl (by kernel_rfl) (by kernel_rfl) (by kernel_rfl) (fun _ _ _ h => h) (Or.inl ⟨by rfl, ?_⟩) HH.out ?_
  rotate_left
  · intro W hSw
    obtain ⟨r0, r1, r2, r3⟩ := HS0.out W hSw
    go_simp
    try with_reducible rfl
  simp only [Act.put, List.setIfInBounds_toArray, List.set_cons_zero, List.set_cons_succ]
  refine take_dst (i := 5) (d := 12) (v := ?_) ((frontOf_get (by decide)).trans rfl) rfl (by kernel_rfl) (by kernel_rfl) (by kernel_rfl) (fun _ _ _ h => h) (Or.inl ⟨by rfl, ?_⟩) HH.out ?_
  rotate_left
  · intro W hSw
    skip
    go_simp
    try with_reducible rfl
  simp only [Act.put, List.setIfInBounds_toArray, List.set_cons_zero, List.set_cons_succ]
  refine take_dst (i := 6) (d := 13) (v := ?_) ((frontOf_get (by decide)).trans rfl) rfl (by kernel_rfl) (by kernel_rfl) (by kernel_rfl) (fun _ _ _ h => h) (Or.inl ⟨by rfl, ?_⟩) HH.out ?_
  rotate_left
  · intro W hSw
    obtain ⟨r0, r1, r2, r3⟩ := HS0.out W hSw
    go_simp
    try with_reducible rfl
  simp only [Act.put, List.setIfInBounds_toArray, List.set_cons_zero, List.set_cons_succ]
  refine take_dst (i := 7) (d := 14) (v := ?_) ((frontOf_get (by decide)).trans rfl) rfl (by kernel_rfl) (by kernel_rfl) (by kernel_rfl) (fun _ _ _ h => h) (Or.inl ⟨by rfl, ?_⟩) HH.out ?_
  rotate_left
  · intro W hSw
    skip
    go_simp
    try with_reducible rfl
  simp only [Act.put, List.setIfInBounds_toArray, List.set_cons_zero, List.set_cons_succ]
  refine take_dst (i := 8) (d := 15) (v := ?_) ((frontOf_get (by decide)).trans rfl) rfl (by kernel_rfl) (by kernel_rfl) (by kernel_rfl) (fun _ _ _ h => h) (Or.inl ⟨by rfl, ?_⟩) HH.out ?_
  rotate_left
  · intro W hSw
    obtain ⟨r0, r1, r2, r3⟩ := HS0.out W hSw
    go_simp
    try with_reducible rfl
  simp only [Act.put, List.setIfInBounds_toArray, List.set_cons_zero, List.set_cons_succ]
  refine take_dst (i := 9) (d := 16) (v := ?_) ((frontOf_get (by decide)).trans rfl) rfl (by kernel_rfl) (by kernel_rfl) (by kernel_rfl) (fun _ _ _ h => h) (Or.inl ⟨by rfl, ?_⟩) HH.out ?_
  rotate_left
  · intro W hSw
    skip
    go_simp
    try with_reducible rfl
  simp only [Act.put, List.setIfInBounds_toArray, List.set_cons_zero, List.set_cons_succ]
  refine take_dst (i := 10) (d := 17) (v := ?_) ((frontOf_get (by decide)).trans rfl) rfl (by kernel_rfl) (by kernel_rfl) (by kernel_rfl) (fun _ _ _ h => h) (Or.inl ⟨by rfl, ?_⟩) HH.out ?_
  rotate_left
  · intro W hSw
    obtain ⟨r0, r1, r2, r3⟩ := HS0.out W hSw
    go_simp
    try with_reducible rfl
  simp only [Act.put, List.setIfInBounds_toArray, List.set_cons_zero, List.set_cons_succ]
  refine take_dst (i := 11) (d := 18) (v := ?_) ((frontOf_get (by decide)).trans rfl) rfl (by kernel_rfl) (by kernel_rfl) (by kernel_rfl) (fun _ _ _ h => h) (Or.inl ⟨by rfl, ?_⟩) HH.out ?_
  rotate_left
  · intro W hSw
    skip
    go_simp
    try with_reducible rfl
  simp only [Act.put, List.setIfInBounds_toArray, List.set_cons_zero, List.set_cons_succ]
  refine wpAnyH_ready (rs := [12]) (by kernel_rfl) (by simp) ?_
  refine step_dst (d := 19) (op := (.buildSlice 110 1 #[(0, .tmp 18)])) (ty := 110) (by kernel_rfl) (fun K hK o hod hoo hot hog => ?_) AllReadyH.nil
  obtain ⟨o1, o2, o3, o4, o5, o6⟩ := o
  simp only at hod hoo hot hog
  subst hod hoo hot hog
  go_simp
  have hb7 : Below WI.heap.size WI (WI.alloc (.cells #[.int .i64 xo, .string (b7 br), .int .i64 bh, .bool false] 115)).drew := ((Below.refl _ WI).alloc (Nat.le_refl _) _).drew
  refine hK.out _ _ (HS1.out _ hb7) (fun _ => ?_)
  clear hK
  have hlit : ∀ j u, (FrV.row ⟨xo, br, bh, false⟩)[j]? = some u → (WI.alloc (.cells #[.int .i64 xo, .string (b7 br), .int .i64 bh, .bool false] 115)).drew.cell? ((⟨WI.heap.size, 0, none⟩ : Addr).add j) = some u := cells_new7 WI (FrV.row ⟨xo, br, bh, false⟩) 115
  have hown7 := HOPN.out _ hb7
  have hbx7 := HBOX.out _ hb7
  have hsz7 : (WI.alloc (.cells #[.int .i64 xo, .string (b7 br), .int .i64 bh, .bool false] 115)).drew.heap.size = WI.heap.size + 1 := by simp
  generalize hY7 : (WI.alloc (.cells #[.int .i64 xo, .string (b7 br), .int .i64 bh, .bool false] 115)).drew = y7 at *
  refine wpAnyH_ready (rs := [13]) (by kernel_rfl) (by simp) ?_
  refine step_dst (d := 20) (op := (.call { callee := .builtin .append, args := #[(.tmp 11), (.tmp 19)], argTypes := #[110, 110] })) (ty := 110) (by kernel_rfl) (fun K hK o hod hoo hot hog => ?_) AllReadyH.nil
  refine step_own hog (.tmp 11) (.tmp 19) 110 hoo (M + 1) 115 i0 (.agg #[.int .i64 0, .string ⟨#[]⟩, .int .i64 0, .bool false]) 4 40 Tryz.underlying110 hi hz0 hz1 hz2 rfl (by decide) ov sL.opens.length (opnB sL.opens) rfl hown7 ⟨WI.heap.size, 0, none⟩ 1 1 (FrV.row ⟨xo, br, bh, false⟩) rfl rfl hlit (by intro u hu; simp [FrV.row] at hu; rcases hu with rfl | rfl | rfl | rfl <;> rfl) (by unfold maxLen; omega) (by omega) (by omega) ?_
  intro v' w2 hown' hgrow _ hloc
  rw [hod]
  refine hK.out _ _ (HS2.out y7 w2 hb7 hgrow) (fun _ => ?_)
  simp only [Act.put, List.setIfInBounds_toArray, List.set_cons_zero, List.set_cons_succ]
  clear hK hod hoo hot hog
  refine wpAnyH_done (by kernel_rfl) ?_ _
  show wpAny _ _ _ _ 3 _ _ _
  refine takeAny_dst (i := 14) (d := 21) (v := ?_) rfl rfl (by kernel_rfl) (by kernel_rfl) (by kernel_rfl) (fun _ _ _ h => h) (Or.inl ⟨by rfl, ?_⟩) ?_
  rotate_left
  · intro W
    go_simp
    try with_reducible rfl
  simp only [Act.put, List.setIfInBounds_toArray, List.set_cons_zero, List.set_cons_succ]
  refine takeAny_dst (i := 15) (d := 22) (v := ?_) rfl rfl (by kernel_rfl) (by kernel_rfl) (by kernel_rfl) (fun _ _ _ h => h) (Or.inl ⟨by rfl, ?_⟩) ?_
  rotate_left
  · intro W
    go_simp
    try with_reducible rfl
  simp only [Act.put, List.setIfInBounds_toArray, List.set_cons_zero, List.set_cons_succ]
  obtain ⟨vp, vn, vc, rfl⟩ := own_form7 hown'
  have hbx2 := (hgrow.block B (by omega) (fun e => hovB B e.symm rfl)).trans hbx7
  have f1 : w2.cell? ⟨B, 11, none⟩ = some ov := by rw [World.cell?, hbx2]; rfl
  have f2 : w2.frozen? ⟨B, 11, none⟩ = false := by simp [World.frozen?, hbx2]
  refine wpAny_ready (rs := [16]) (by kernel_rfl) (by simp) (AllReady.cons rfl (fun K hK => ?_) AllReady.nil)
  go_simp
  refine hK _ _ ?_
  refine wpAny_done (by kernel_rfl) ?_ _
  clear hK f1 f2
  -- END other
  have e4 : opnB sL.opens ++ FrV.row ⟨xo, br, bh, false⟩ = opnB (⟨xo, br, bh, false⟩ :: sL.opens) := (opnB_cons _ _).symm
  rw [e4] at hown'
  obtain ⟨h5, m5⟩ := HGO.out _ y7 w2 hb7 hown' hgrow hloc HWF.out (by simp; omega)
  clear HGO HS0 HS1 HS2 HBOX HOPN hY7 hlit hown7 hbx7 hgrow hown' hloc
  go_wp2
  go_end0
  exact ⟨_, _, rfl, h5, (MI.out.then hb7).trans m5⟩
end Go.Proofs.YtomffpibdinkaaaGreatDoor
