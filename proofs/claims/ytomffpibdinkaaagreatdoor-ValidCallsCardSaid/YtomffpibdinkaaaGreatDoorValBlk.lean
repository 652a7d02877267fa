/-
  Package valid's walk opens a block, leaves one: walked. Contracts that the proofs call; no statement is proved here.
-/
import Derived.Test.YtomffpibdinkaaaGreatDoorValLab
import Derived.Test.YtomffpibdinkaaaGreatDoorVbModOpens
import Derived.Test.YtomffpibdinkaaaGreatDoorVbValBase
import Derived.Test.YtomffpibdinkaaaGreatDoorDrawFront
import Derived.StillTailTactics
namespace Go.Proofs.YtomffpibdinkaaaGreatDoor
open Go.RowKit
set_option linter.unusedVariables false
variable {w0 : World} {B M : Nat} {m : MoV} {lo wh : ByteArray} {s : VS} {sv ov : Value} {w : World}

def FrV.val (b : FrV) : Value := .agg #[.int .i64 b.code, .string (b7 b.result), .int .i64 b.height, .bool b.dead]
theorem WAt.other (h : WAt w0 B M m lo wh s sv ov w) {k : Nat} (j : Nat) (v : Value) (h1 : k ≠ B) (h2 : sv.ownBlock ≠ some k) (h3 : ov.ownBlock ≠ some k) (h0 : w0.heap.size ≤ k) : WAt w0 B M m lo wh s sv ov (w.setCell ⟨k, j, none⟩ v) :=
  ⟨h.below.setCell h0 _, (Below.heap_setCell _ _ _ _ (Ne.symm h1)).trans h.box, own_same7 h.stk fun g hg => Below.heap_setCell _ _ _ _ (fun e => h2 (by rw [← show g = k from e]; exact hg)), own_same7 h.opn fun g hg => Below.heap_setCell _ _ _ _ (fun e => h3 (by rw [← show g = k from e]; exact hg)), h.far, h.hB, h.hM, by simpa [World.setCell] using h.hl, h.wf, h.few⟩
theorem MovV.other {sv' ov' : Value} {W : World} (mv : MovV B sv ov w W sv' ov') {k : Nat} (j : Nat) (v : Value) (hk : w.heap.size ≤ k) : MovV B sv ov w (W.setCell ⟨k, j, none⟩ v) sv' ov' :=
  ⟨mv.os, mv.tape, mv.output, by simpa [World.setCell] using mv.size, fun i hi h1 h2 h3 => (Below.heap_setCell _ _ _ _ (by show i ≠ k; omega)).trans (mv.block i hi h1 h2 h3), mv.sat, mv.oat⟩
theorem in_heap7 {w : World} {b : Nat} {o : Obj} (h : w.heap[b]? = some o) : b < w.heap.size := (Array.getElem?_eq_some_iff.1 h).1
/-- What is older than the walk's lists stays, too; and what is newer. -/
theorem WAt.apart (h : WAt w0 B M m lo wh s sv ov w) {k : Nat} (hk : w.heap.size ≤ k) : k ≠ B ∧ sv.ownBlock ≠ some k ∧ ov.ownBlock ≠ some k ∧ w0.heap.size ≤ k :=
  ⟨by have := h.hM; have := h.hl; omega, fun e => by have := (own_lt7 h.stk k e).2; omega, fun e => by have := (own_lt7 h.opn k e).2; omega, Nat.le_trans h.below.size hk⟩
theorem MovV.keeps {sv' ov' : Value} {W W' : World} {k : Nat} (mv : MovV B sv ov W W' sv' ov') {o : Obj} (hx : W.heap[k]? = some o) (a : k ≠ B ∧ sv.ownBlock ≠ some k ∧ ov.ownBlock ≠ some k ∧ w0.heap.size ≤ k) : W'.heap[k]? = some o ∧ (k ≠ B ∧ sv'.ownBlock ≠ some k ∧ ov'.ownBlock ≠ some k ∧ w0.heap.size ≤ k) := by
  have hl := in_heap7 hx
  refine ⟨(mv.block k hl a.1 a.2.1 a.2.2.1).trans hx, a.1, fun e => ?_, fun e => ?_, a.2.2.2⟩
  · rcases mv.sat k e with e | e
    · exact a.2.1 e
    · omega
  · rcases mv.oat k e with e | e
    · exact a.2.2.1 e
    · omega
theorem WAt.cutOpn {g c : Nat} {b : FrV} {o : List FrV} (h : WAt w0 B M m lo wh s sv (.slice (some ⟨g, 0, none⟩) (o.length + 1) c) w) (ho : s.opens = b :: o) :
    WAt w0 B M m lo wh { s with opens := o } sv (.slice (some ⟨g, 0, none⟩) o.length c) (w.setCell ⟨B, 11, none⟩ (.slice (some ⟨g, 0, none⟩) o.length c)) ∧ MovV B sv (.slice (some ⟨g, 0, none⟩) (o.length + 1) c) w (w.setCell ⟨B, 11, none⟩ (.slice (some ⟨g, 0, none⟩) o.length c)) sv (.slice (some ⟨g, 0, none⟩) o.length c) := by
  have hp := h.opn
  rw [ho] at hp
  have h1 := own_prefix hp (k := o.length) (by simp)
  rw [opnB_take] at h1
  have hwf := h.wf
  have hfew := h.few
  have hw : (⟨s.stack, o, s.wrong⟩ : VS).Wf := by
    have a := hwf.1
    have b2 := hwf.2
    rw [ho] at a b2
    exact ⟨(List.pairwise_cons.1 a).2, Nat.le_trans (topOf_tail a) b2⟩
  rw [ho] at hfew
  exact ⟨h.setOpn h.below h.box h1 h.stk h.far h.hl hw (by have := hfew.2; simp at this; omega), ⟨rfl, rfl, rfl, by simp [World.setCell], fun k _ h1 _ _ => Below.heap_setCell _ _ _ _ h1, fun g hg => .inl hg, fun g hg => .inl hg⟩⟩
theorem WAt.grownOpn (h : WAt w0 B M m lo wh s sv ov w) {op : List FrV} {ov' : Value} {w1 : World} (h4 : w1.ownsRow (M + 1) 115 4 ov' op.length (opnB op)) (g4 : w.grownBy w1 ov.ownBlock) (a4 : ov'.ownBlock = ov.ownBlock ∨ ov'.ownBlock = some w.heap.size) (hw : (⟨s.stack, op, s.wrong⟩ : VS).Wf) (hn : op.length ≤ 1000000) :
    WAt w0 B M m lo wh { s with opens := op } sv ov' (w1.setCell ⟨B, 11, none⟩ ov') ∧ MovV B sv ov w (w1.setCell ⟨B, 11, none⟩ ov') sv ov' := by
  have hge : ∀ k, ov.ownBlock = some k → M + 1 ≤ k := fun k hk => (own_lt7 h.opn k hk).1
  have hB := h.hB
  have hM := h.hM
  have hl := h.hl
  refine ⟨h.setOpn (h.below.grown g4 h.below.size fun k hk => by have := hge k hk; omega) ((g4.block B (by omega) fun e => by have := hge B e.symm; omega).trans h.box) h4 (own_same7 h.stk fun g hg => g4.block g (own_lt7 h.stk g hg).2 fun e => h.far g hg e.symm) (fun g hg e => ?_) (Nat.lt_of_lt_of_le hl g4.size) hw hn, ⟨g4.os, g4.tape, g4.output, by simpa [World.setCell] using g4.size, fun k hk h1 h2 h3 => (Below.heap_setCell _ _ _ _ h1).trans (g4.block k hk fun e => h3 e.symm), fun g hg => .inl hg, fun g hg => ?_⟩⟩
  · rcases a4 with a | a
    · exact h.far g hg (a ▸ e)
    · rw [a] at e; cases e; have := (own_lt7 h.stk _ hg).2; omega
  · rcases a4 with a | a
    · exact .inl (a ▸ hg)
    · rw [a] at hg; cases hg; exact .inr (Nat.le_refl _)
theorem own_form7 {w : World} {base e sz n : Nat} {v : Value} {xs : List Value} (h : w.ownsRow base e sz v n xs) : ∃ p n c, v = .slice p n c := by
  rcases own_any7 h with ⟨rfl, _⟩ | ⟨_, _, rfl, _⟩ <;> exact ⟨_, _, _, rfl⟩
theorem info_frame : (Tryz.prog.info? 115).map (fun i => (i.zero, i.size, i.bytes)) = some (some (.agg #[.int .i64 0, .string ⟨#[]⟩, .int .i64 0, .bool false]), 4, 40) := by kernel_rfl
theorem cells_new7 (w : World) (c : List Value) (t : TypeId) : ∀ j u, c[j]? = some u → (w.alloc (.cells c.toArray t)).cell? ((⟨w.heap.size, 0, none⟩ : Addr).add j) = some u := by
  intro j u h
  rw [Go.WideShapes.add_plain, World.cell?, heap_alloc_new]
  simpa using h
set_option maxRecDepth 100000 in
set_option maxHeartbeats 4000000 in
theorem v_enter (h : WAt w0 B M m lo wh s sv ov w) (x : InsV) (hn : s.opens.length < 1000000) : Calls Tryz.prog 72 #[.pointer (some ⟨B, 0, none⟩), x.val] w (DidV w0 B M m lo wh (s.enter x.op x.a) sv ov w (.tuple #[])) := by
  obtain ⟨xo, xa, xb, xp, xc, xl⟩ := x
  obtain ⟨i0, hi, hz0, hz1, hz2⟩ := info_parts info_frame
  have hsl := h.stkLen
  obtain ⟨p, cp, rfl⟩ : ∃ p cp, sv = .slice p s.stack.length cp := by
    rcases own_any7 hsl with ⟨rfl, h1, _⟩ | ⟨g, c, rfl, _⟩
    · exact ⟨none, 0, by rw [h1]⟩
    · exact ⟨_, _, rfl⟩
  have ca := fun W => v_answer xa W
  have hwf := enter_wf h.wf xo xa
  have e : s.enter xo xa = { s with opens := ⟨xo, answer7 xa, s.stack.length, false⟩ :: s.opens } := rfl
  rw [e] at hwf ⊢
  have hI := h.alloc (.cells #[.int .i64 xo, .int .i64 xa, .int .i64 xb, .slice xp xl.length xc] 38)
  have hnI := heap_alloc_new w (.cells #[.int .i64 xo, .int .i64 xa, .int .i64 xb, .slice xp xl.length xc] 38)
  have hfew := h.few.1
  dsimp only [InsV.val]
  go_enter Tryz.func72, Tryz.ntmps72
  go_wp2
  obtain ⟨WI, hWI⟩ : ∃ W, W = w.alloc (.cells #[.int .i64 xo, .int .i64 xa, .int .i64 xb, .slice xp xl.length xc] 38) := ⟨_, rfl⟩
  rw [← hWI] at hI hnI ⊢
  have mI : MovV B (.slice p s.stack.length cp) ov w WI (.slice p s.stack.length cp) ov := by rw [hWI]; exact MovV.of ((Below.refl _ _).alloc (Nat.le_refl _) _)
  have hMl := hI.hl
  have hMB := hI.hM
  have hovI := (h.apart (Nat.le_refl _)).2.2.1
  have hlI := in_heap7 hnI
  have HNI := Lib.hid hnI
  clear hWI hnI hsl h e
  have MI := Lib.hid mI
  have HWF := Lib.hid hwf
  have hovB := hI.ne.2
  obtain ⟨SS, hSS⟩ : ∃ S : World → Prop, S = fun W => W.cell? ⟨B, 10, none⟩ = some (.slice p s.stack.length cp) ∧ W.cell? ⟨B, 11, none⟩ = some ov ∧ W.cell? ⟨w.heap.size, 0, none⟩ = some (.int .i64 xo) ∧ W.cell? ⟨w.heap.size, 1, none⟩ = some (.int .i64 xa) := ⟨_, rfl⟩
  have hS1 : ∀ W, Below WI.heap.size WI W → SS W := fun W hW => by
    rw [hSS]
    exact ⟨(hI.at' hW).lists.1, (hI.at' hW).lists.2.1, by rw [World.cell?, (hW.block _ hlI).trans HNI.out]; rfl, by rw [World.cell?, (hW.block _ hlI).trans HNI.out]; rfl⟩
  have hS2 : ∀ W w2, Below WI.heap.size WI W → W.grownBy w2 ov.ownBlock → SS w2 := fun W w2 hW hg => by
    have hbx2 := (hg.block B (by have := hW.size; omega) (fun e => hovB B e.symm rfl)).trans (hI.at' hW).box
    have hib2 := (hg.block w.heap.size (by have := hW.size; omega) (fun e => hovI e.symm)).trans ((hW.block _ hlI).trans HNI.out)
    rw [hSS]
    exact ⟨by rw [World.cell?, hbx2]; rfl, by rw [World.cell?, hbx2]; rfl, by rw [World.cell?, hib2]; rfl, by rw [World.cell?, hib2]; rfl⟩
  have hH : SS WI.drew := hS1 _ (Below.refl _ _).drew
  have hopn : ∀ W, Below WI.heap.size WI W → W.ownsRow (M + 1) 115 4 ov s.opens.length (opnB s.opens) := fun W hW => (hI.at' hW).opn
  have hbox : ∀ W, Below WI.heap.size WI W → W.heap[B]? = some (.cells (walkCells m M lo wh (.slice p s.stack.length cp) ov s.wrong) 112) := fun W hW => (hI.at' hW).box
  have hgo := fun (v' : Value) (W w1 : World) (hb : Below WI.heap.size WI W) => (hI.at' hb).grownOpn (op := ⟨xo, answer7 xa, s.stack.length, false⟩ :: s.opens) (ov' := v') (w1 := w1)
  have HGO := Lib.hid hgo
  have HS0 : Hid (∀ W, SS W → W.cell? ⟨B, 10, none⟩ = some (.slice p s.stack.length cp) ∧ W.cell? ⟨B, 11, none⟩ = some ov ∧ W.cell? ⟨w.heap.size, 0, none⟩ = some (.int .i64 xo) ∧ W.cell? ⟨w.heap.size, 1, none⟩ = some (.int .i64 xa)) := Lib.hid (fun W hW => by rw [hSS] at hW; exact hW)
  clear hSS
  have HS1 := Lib.hid hS1
  have HS2 := Lib.hid hS2
  have HOPN := Lib.hid hopn
  have HBOX := Lib.hid hbox
  have HH := Lib.hid hH
  clear mI hI hwf hgo hS1 hS2 hopn hbox hH
  generalize s.stack.length = L at *
  -- DRAWN enter
  refine wp_region_front 18 SS (by kernel_rfl) (by decide) (by kernel_rfl) (by kernel_rfl) (by kernel_rfl) ?_
  refine take_dst (i := 0) (d := 4) (v := ?_) ((frontOf_get (by decide)).trans rfl) rfl (by kernel_rfl) (by kernel_rfl) (by kernel_rfl) (fun _ _ _ h => h) (Or.inl ⟨by rfl, ?_⟩) HH.out ?_
  rotate_left
  · intro W hSw
    skip
    go_simp
    try with_reducible rfl
  simp only [Act.put, List.setIfInBounds_toArray, List.set_cons_zero, List.set_cons_succ]
  refine take_dst (i := 1) (d := 5) (v := ?_) ((frontOf_get (by decide)).trans rfl) rfl (by kernel_rfl) (by kernel_rfl) (by kernel_rfl) (fun _ _ _ h => h) (Or.inl ⟨by rfl, ?_⟩) HH.out ?_
  rotate_left
  · intro W hSw
    skip
    go_simp
    try with_reducible rfl
  simp only [Act.put, List.setIfInBounds_toArray, List.set_cons_zero, List.set_cons_succ]
  refine take_dst (i := 2) (d := 6) (v := ?_) ((frontOf_get (by decide)).trans rfl) rfl (by kernel_rfl) (by kernel_rfl) (by kernel_rfl) (fun _ _ _ h => h) (Or.inl ⟨by rfl, ?_⟩) HH.out ?_
  rotate_left
  · intro W hSw
    skip
    go_simp
    try with_reducible rfl
  simp only [Act.put, List.setIfInBounds_toArray, List.set_cons_zero, List.set_cons_succ]
  refine take_dst (i := 3) (d := 7) (v := ?_) ((frontOf_get (by decide)).trans rfl) rfl (by kernel_rfl) (by kernel_rfl) (by kernel_rfl) (fun _ _ _ h => h) (Or.inl ⟨by rfl, ?_⟩) HH.out ?_
  rotate_left
  · intro W hSw
    skip
    go_simp
    try with_reducible rfl
  simp only [Act.put, List.setIfInBounds_toArray, List.set_cons_zero, List.set_cons_succ]
  refine take_dst (i := 4) (d := 8) (v := ?_) ((frontOf_get (by decide)).trans rfl) rfl (by kernel_rfl) (by kernel_rfl) (by kernel_rfl) (fun _ _ _ h => h) (Or.inl ⟨by rfl, ?_⟩) HH.out ?_
  rotate_left
  · intro W hSw
    obtain ⟨r0, r1, r2, r3⟩ := HS0.out W hSw
    go_simp
    try with_reducible rfl
  simp only [Act.put, List.setIfInBounds_toArray, List.set_cons_zero, List.set_cons_succ]
  refine take_dst (i := 5) (d := 9) (v := ?_) ((frontOf_get (by decide)).trans rfl) rfl (by kernel_rfl) (by kernel_rfl) (by kernel_rfl) (fun _ _ _ h => h) (Or.inl ⟨by rfl, ?_⟩) HH.out ?_
  rotate_left
  · intro W hSw
    skip
    go_simp
    try with_reducible rfl
  simp only [Act.put, List.setIfInBounds_toArray, List.set_cons_zero, List.set_cons_succ]
  refine take_dst (i := 6) (d := 10) (v := ?_) ((frontOf_get (by decide)).trans rfl) rfl (by kernel_rfl) (by kernel_rfl) (by kernel_rfl) (fun _ _ _ h => h) (Or.inl ⟨by rfl, ?_⟩) HH.out ?_
  rotate_left
  · intro W hSw
    obtain ⟨r0, r1, r2, r3⟩ := HS0.out W hSw
    go_simp
    try with_reducible rfl
  simp only [Act.put, List.setIfInBounds_toArray, List.set_cons_zero, List.set_cons_succ]
  refine take_dst (i := 7) (d := 11) (v := ?_) ((frontOf_get (by decide)).trans rfl) rfl (by kernel_rfl) (by kernel_rfl) (by kernel_rfl) (fun _ _ _ h => h) (Or.inl ⟨by rfl, ?_⟩) HH.out ?_
  rotate_left
  · intro W hSw
    skip
    go_simp
    try with_reducible rfl
  simp only [Act.put, List.setIfInBounds_toArray, List.set_cons_zero, List.set_cons_succ]
  refine take_dst (i := 8) (d := 12) (v := ?_) ((frontOf_get (by decide)).trans rfl) rfl (by kernel_rfl) (by kernel_rfl) (by kernel_rfl) (fun _ _ _ h => h) (Or.inl ⟨by rfl, ?_⟩) HH.out ?_
  rotate_left
  · intro W hSw
    obtain ⟨r0, r1, r2, r3⟩ := HS0.out W hSw
    go_simp
    try with_reducible rfl
  simp only [Act.put, List.setIfInBounds_toArray, List.set_cons_zero, List.set_cons_succ]
  refine take_dst (i := 10) (d := 14) (v := ?_) ((frontOf_get (by decide)).trans rfl) rfl (by kernel_rfl) (by kernel_rfl) (by kernel_rfl) (fun _ _ _ h => h) (Or.inl ⟨by rfl, ?_⟩) HH.out ?_
  rotate_left
  · intro W hSw
    skip
    go_simp
    try with_reducible rfl
  simp only [Act.put, List.setIfInBounds_toArray, List.set_cons_zero, List.set_cons_succ]
  refine take_dst (i := 11) (d := 15) (v := ?_) ((frontOf_get (by decide)).trans rfl) rfl (by kernel_rfl) (by kernel_rfl) (by kernel_rfl) (fun _ _ _ h => h) (Or.inl ⟨by rfl, ?_⟩) HH.out ?_
  rotate_left
  · intro W hSw
    skip
    go_simp
    try with_reducible rfl
  simp only [Act.put, List.setIfInBounds_toArray, List.set_cons_zero, List.set_cons_succ]
  refine take_dst (i := 12) (d := 16) (v := ?_) ((frontOf_get (by decide)).trans rfl) rfl (by kernel_rfl) (by kernel_rfl) (by kernel_rfl) (fun _ _ _ h => h) (Or.inl ⟨by rfl, ?_⟩) HH.out ?_
  rotate_left
  · intro W hSw
    skip
    go_simp
    try with_reducible rfl
  simp only [Act.put, List.setIfInBounds_toArray, List.set_cons_zero, List.set_cons_succ]
  refine take_dst (i := 13) (d := 17) (v := ?_) ((frontOf_get (by decide)).trans rfl) rfl (by kernel_rfl) (by kernel_rfl) (by kernel_rfl) (fun _ _ _ h => h) (Or.inl ⟨by rfl, ?_⟩) HH.out ?_
  rotate_left
  · intro W hSw
    obtain ⟨r0, r1, r2, r3⟩ := HS0.out W hSw
    go_simp
    try with_reducible rfl
  simp only [Act.put, List.setIfInBounds_toArray, List.set_cons_zero, List.set_cons_succ]
  refine take_dst (i := 14) (d := 18) (v := ?_) ((frontOf_get (by decide)).trans rfl) rfl (by kernel_rfl) (by kernel_rfl) (by kernel_rfl) (fun _ _ _ h => h) (Or.inl ⟨by rfl, ?_⟩) HH.out ?_
  rotate_left
  · intro W hSw
    skip
    go_simp
    try with_reducible rfl
  simp only [Act.put, List.setIfInBounds_toArray, List.set_cons_zero, List.set_cons_succ]
  refine wpAnyH_ready (rs := [9]) (by kernel_rfl) (by simp) ?_
  refine step_dst (d := 13) (op := (.call { callee := .value (.func 103), args := #[.tmp 12], argTypes := #[2] })) (ty := 9) (by kernel_rfl) (fun K hK o hod hoo hot hog => ?_) AllReadyH.nil
  obtain ⟨o1, o2, o3, o4, o5, o6⟩ := o
  simp only at hod hoo hot hog
  subst hod hoo hot hog
  go_wp2_with (go_at_call 103; refine (ca _).mono ?_; rintro e w1 ⟨rfl, rfl⟩)
  refine hK.out _ _ HH.out (fun _ => ?_)
  clear hK
  refine take_dst (i := 15) (d := 19) (v := ?_) ((frontOf_get (by decide)).trans rfl) rfl (by kernel_rfl) (by kernel_rfl) (by kernel_rfl) (fun _ _ _ h => h) (Or.inl ⟨by rfl, ?_⟩) HH.out ?_
  rotate_left
  · intro W hSw
    skip
    go_simp
    try with_reducible rfl
  simp only [Act.put, List.setIfInBounds_toArray, List.set_cons_zero, List.set_cons_succ]
  refine wpAnyH_ready (rs := [16]) (by kernel_rfl) (by simp) ?_
  refine step_dst (d := 20) (op := (.buildSlice 110 1 #[(0, .tmp 19)])) (ty := 110) (by kernel_rfl) (fun K hK o hod hoo hot hog => ?_) AllReadyH.nil
  obtain ⟨o1, o2, o3, o4, o5, o6⟩ := o
  simp only at hod hoo hot hog
  subst hod hoo hot hog
  go_simp
  have hb7 : Below WI.heap.size WI (WI.alloc (.cells #[.int .i64 xo, .string (b7 (answer7 xa)), .int .i64 L, .bool false] 115)).drew := ((Below.refl _ WI).alloc (Nat.le_refl _) _).drew
  refine hK.out _ _ (HS1.out _ hb7) (fun _ => ?_)
  clear hK
  have hlit : ∀ j u, (FrV.row ⟨xo, answer7 xa, L, false⟩)[j]? = some u → (WI.alloc (.cells #[.int .i64 xo, .string (b7 (answer7 xa)), .int .i64 L, .bool false] 115)).drew.cell? ((⟨WI.heap.size, 0, none⟩ : Addr).add j) = some u := cells_new7 WI (FrV.row ⟨xo, answer7 xa, L, false⟩) 115
  have hown7 := HOPN.out _ hb7
  have hbx7 := HBOX.out _ hb7
  have hsz7 : (WI.alloc (.cells #[.int .i64 xo, .string (b7 (answer7 xa)), .int .i64 L, .bool false] 115)).drew.heap.size = WI.heap.size + 1 := by simp
  generalize hY7 : (WI.alloc (.cells #[.int .i64 xo, .string (b7 (answer7 xa)), .int .i64 L, .bool false] 115)).drew = y7 at *
  refine wpAnyH_ready (rs := [17]) (by kernel_rfl) (by simp) ?_
  refine step_dst (d := 21) (op := (.call { callee := .builtin .append, args := #[(.tmp 8), (.tmp 20)], argTypes := #[110, 110] })) (ty := 110) (by kernel_rfl) (fun K hK o hod hoo hot hog => ?_) AllReadyH.nil
  refine step_own hog (.tmp 8) (.tmp 20) 110 hoo (M + 1) 115 i0 (.agg #[.int .i64 0, .string ⟨#[]⟩, .int .i64 0, .bool false]) 4 40 Tryz.underlying110 hi hz0 hz1 hz2 rfl (by decide) ov s.opens.length (opnB s.opens) rfl hown7 ⟨WI.heap.size, 0, none⟩ 1 1 (FrV.row ⟨xo, answer7 xa, L, false⟩) rfl rfl hlit (by intro u hu; simp [FrV.row] at hu; rcases hu with rfl | rfl | rfl | rfl <;> rfl) (by unfold maxLen; omega) (by omega) (by omega) ?_
  intro v' w2 hown' hgrow _ hloc
  rw [hod]
  refine hK.out _ _ (HS2.out y7 w2 hb7 hgrow) (fun _ => ?_)
  simp only [Act.put, List.setIfInBounds_toArray, List.set_cons_zero, List.set_cons_succ]
  clear hK hod hoo hot hog
  refine wpAnyH_done (by kernel_rfl) ?_ _
  show wpAny _ _ _ _ 3 _ _ _
  refine takeAny_dst (i := 18) (d := 22) (v := ?_) rfl rfl (by kernel_rfl) (by kernel_rfl) (by kernel_rfl) (fun _ _ _ h => h) (Or.inl ⟨by rfl, ?_⟩) ?_
  rotate_left
  · intro W
    go_simp
    try with_reducible rfl
  simp only [Act.put, List.setIfInBounds_toArray, List.set_cons_zero, List.set_cons_succ]
  refine takeAny_dst (i := 19) (d := 23) (v := ?_) rfl rfl (by kernel_rfl) (by kernel_rfl) (by kernel_rfl) (fun _ _ _ h => h) (Or.inl ⟨by rfl, ?_⟩) ?_
  rotate_left
  · intro W
    go_simp
    try with_reducible rfl
  simp only [Act.put, List.setIfInBounds_toArray, List.set_cons_zero, List.set_cons_succ]
  obtain ⟨vp, vn, vc, rfl⟩ := own_form7 hown'
  have hbx2 := (hgrow.block B (by omega) (fun e => hovB B e.symm rfl)).trans hbx7
  have f1 : w2.cell? ⟨B, 11, none⟩ = some ov := by rw [World.cell?, hbx2]; rfl
  have f2 : w2.frozen? ⟨B, 11, none⟩ = false := by simp [World.frozen?, hbx2]
  refine wpAny_ready (rs := [20]) (by kernel_rfl) (by simp) (AllReady.cons rfl (fun K hK => ?_) AllReady.nil)
  go_simp
  refine hK _ _ ?_
  refine wpAny_done (by kernel_rfl) ?_ _
  clear hK f1 f2
  -- END enter
  have e4 : opnB s.opens ++ FrV.row ⟨xo, answer7 xa, L, false⟩ = opnB (⟨xo, answer7 xa, L, false⟩ :: s.opens) := (opnB_cons _ _).symm
  rw [e4] at hown'
  obtain ⟨h5, m5⟩ := HGO.out _ y7 w2 hb7 hown' hgrow hloc HWF.out (by simp; omega)
  clear HGO HS0 HS1 HS2 HBOX HOPN hY7 hlit hown7 hbx7 hgrow hown' hloc
  go_wp2
  go_end0
  exact ⟨_, _, rfl, h5, (MI.out.then hb7).trans m5⟩
theorem beq_nat7 (a b : Nat) : ((a : Int) == (b : Int)) = decide (a = b) := by
  by_cases h : a = b
  · subst h; simp
  · rw [decide_eq_false h]; exact beq_eq_false_iff_ne.2 (by omega)
theorem box_at7 {W : World} {b : Nat} {u0 u1 u2 u3 : Value} {t : TypeId} (h : W.heap[b]? = some (.cells #[u0, u1, u2, u3] t)) :
    (∀ o, (W.alloc o).cell? ⟨b, 0, none⟩ = some u0) ∧ (∀ o, (W.alloc o).cell? ⟨b, 1, none⟩ = some u1) ∧ (∀ o, (W.alloc o).cell? ⟨b, 2, none⟩ = some u2) ∧ (∀ o, (W.alloc o).cell? ⟨b, 3, none⟩ = some u3) ∧
    W.cell? ⟨b, 0, none⟩ = some u0 ∧ W.cell? ⟨b, 1, none⟩ = some u1 ∧ W.cell? ⟨b, 2, none⟩ = some u2 ∧ W.cell? ⟨b, 3, none⟩ = some u3 ∧
    W.frozen? ⟨b, 0, none⟩ = false ∧ W.frozen? ⟨b, 1, none⟩ = false ∧ W.frozen? ⟨b, 2, none⟩ = false ∧ W.frozen? ⟨b, 3, none⟩ = false := by
  have hl := in_heap7 h
  have c : ∀ j, W.cell? ⟨b, j, none⟩ = (#[u0, u1, u2, u3] : Array Value)[j]? := fun j => by rw [World.cell?, h]; simp
  have z := fun j => (by simp [World.frozen?, h] : W.frozen? ⟨b, j, none⟩ = false)
  exact ⟨fun o => (World.cell?_alloc_lt W o _ hl).trans (c 0), fun o => (World.cell?_alloc_lt W o _ hl).trans (c 1), fun o => (World.cell?_alloc_lt W o _ hl).trans (c 2), fun o => (World.cell?_alloc_lt W o _ hl).trans (c 3), c 0, c 1, c 2, c 3, z 0, z 1, z 2, z 3⟩
/-! ### What was open is left -/
set_option maxRecDepth 100000 in
set_option maxHeartbeats 4000000 in
theorem v_leave (h : WAt w0 B M m lo wh s sv ov w) (h0 : s.opens ≠ []) (hr : s.inner.result.length ≤ 1000000000) : Calls Tryz.prog 105 #[.pointer (some ⟨B, 0, none⟩)] w (DidV w0 B M m lo wh s.leave sv ov w s.inner.val) := by
  obtain ⟨b, o, ho⟩ := List.exists_cons_of_ne_nil h0
  obtain ⟨g, c, rfl, hc, hg1, hg2, _, _⟩ := h.top ho
  obtain ⟨hin, hht, hn⟩ := h.inner ho
  rw [hin] at hr ⊢
  have hle : s.leave = { ((s.take b.result).ask (decide ((s.take b.result).stack.length = b.height))) with opens := o } := by unfold VS.leave; rw [hin, ho]; rfl
  rw [hle]
  have hoT : (s.take b.result).opens = b :: o := by rw [take_opens]; exact ho
  obtain ⟨s1, hs1⟩ : ∃ s1, s.take b.result = s1 := ⟨_, rfl⟩
  rw [hs1] at hoT ⊢
  obtain ⟨v, hv⟩ : ∃ v, decide (s1.stack.length = b.height) = v := ⟨_, rfl⟩
  have hq : ((s1.stack.length : Int) == (b.height : Int)) = v := by rw [← hv]; exact beq_nat7 _ _
  rw [hv]
  obtain ⟨s2, hs2⟩ : ∃ s2, s1.ask v = s2 := ⟨_, rfl⟩
  have hoA : s2.opens = b :: o := by rw [← hs2]; exact hoT
  rw [hs2]
  have HS1 := Lib.hid hs1
  have HS2 := Lib.hid hs2
  have HQ := Lib.hid hq
  clear hs1 hs2 hv hq
  have hR := h.alloc (.cells #[.int .i64 0, .string ⟨#[]⟩, .int .i64 0, .bool false] 115)
  have hnR := heap_alloc_new w (.cells #[.int .i64 0, .string ⟨#[]⟩, .int .i64 0, .bool false] 115)
  have mR : MovV B sv (.slice (some ⟨g, 0, none⟩) (o.length + 1) c) w (w.alloc (.cells #[.int .i64 0, .string ⟨#[]⟩, .int .i64 0, .bool false] 115)) sv (.slice (some ⟨g, 0, none⟩) (o.length + 1) c) := MovV.of ((Below.refl _ _).alloc (Nat.le_refl _) _)
  have aR := h.apart (Nat.le_refl w.heap.size)
  have ci := v_inner hR ho hc
  clear h hle
  go_enter Tryz.func105, Tryz.ntmps105
  go_wp2_with fail
  refine ci.mono ?_
  rintro e w1 ⟨rfl, q, rfl⟩
  clear ci
  obtain ⟨WR, hWR⟩ : ∃ W, W = (w.alloc (.cells #[.int .i64 0, .string ⟨#[]⟩, .int .i64 0, .bool false] 115)).drewN q := ⟨_, rfl⟩
  rw [← hWR]
  replace hR : WAt w0 B M m lo wh s sv (.slice (some ⟨g, 0, none⟩) (o.length + 1) c) WR := by rw [hWR]; exact hR.drewN q
  replace hnR : WR.heap[w.heap.size]? = some (.cells #[.int .i64 0, .string ⟨#[]⟩, .int .i64 0, .bool false] 115) := by rw [hWR]; exact hnR
  replace mR : MovV B sv (.slice (some ⟨g, 0, none⟩) (o.length + 1) c) w WR sv (.slice (some ⟨g, 0, none⟩) (o.length + 1) c) := by rw [hWR]; exact mR.drewN q
  clear hWR
  obtain ⟨⟨k0, k1, k2, k3⟩, kf, _⟩ := hR.topAt ho
  have hB := hR.alloc (.cells #[.int .i64 b.code, .string (b7 b.result), .int .i64 b.height, .bool b.dead] 115)
  have hnB := heap_alloc_new WR (.cells #[.int .i64 b.code, .string (b7 b.result), .int .i64 b.height, .bool b.dead] 115)
  have hnR2 := (Below.heap_alloc WR (.cells #[.int .i64 b.code, .string (b7 b.result), .int .i64 b.height, .bool b.dead] 115) _ (in_heap7 hnR)).trans hnR
  have mB := mR.then ((Below.refl _ WR).alloc (Nat.le_refl _) (.cells #[.int .i64 b.code, .string (b7 b.result), .int .i64 b.height, .bool b.dead] 115))
  have aB := hR.apart (Nat.le_refl WR.heap.size)
  have hlR := in_heap7 hnR
  have ct := v_take hB (by rw [ho]; simp) (b7 b.result) (by rw [b7_size]; exact hr)
  rw [b7_list, HS1.out] at ct
  clear hR mR hnR kf
  go_wp2_with fail
  refine ct.mono ?_
  rintro e w2 ⟨sv2, ov2, rfl, h2, m2⟩
  clear ct hB k0 k1 k2 k3
  obtain ⟨hb2, ab2⟩ := m2.keeps (w0 := w0) hnB aB
  obtain ⟨hr2, ar2⟩ := m2.keeps (w0 := w0) hnR2 aR
  obtain ⟨g2, c2, rfl, hc2, hg3, hg4, _, _⟩ := h2.top hoT
  have hlt2 : w.heap.size < w2.heap.size := in_heap7 hr2
  have hlt3 : WR.heap.size < w2.heap.size := in_heap7 hb2
  have hM2 := mB.trans m2
  obtain ⟨_, _, _, _, kB0, kB1, kB2, kB3, jB0, jB1, jB2, jB3⟩ := box_at7 hb2
  obtain ⟨p2, cp2, rfl⟩ : ∃ p cp, sv2 = .slice p s1.stack.length cp := by
    rcases own_any7 h2.stkLen with ⟨rfl, h1, _⟩ | ⟨g, c, rfl, _⟩
    · exact ⟨none, 0, by rw [h1]⟩
    · exact ⟨_, _, rfl⟩
  obtain ⟨x10, x11, f10, f11⟩ := h2.lists
  have ca := fun q => v_ask (h2.drewN q) v
  rw [HS2.out] at ca
  have hq := HQ.out
  have hfew := h2.few.1
  go_wp2
  go_still_tail 9, (by kernel_rfl)
  change wpList _ _ _ _ _ w2.drew
  have ca1 := ca 1
  clear ca
  go_wp2_with (go_at_call 106; refine ca1.mono ?_; rintro e w3 ⟨sv3, ov3, rfl, h3, m3⟩)
  obtain ⟨g4, c4, rfl, hc4, hg8, hg9, _, _⟩ := h3.top hoA
  have mD : MovV B (.slice p2 s1.stack.length cp2) (.slice (some ⟨g2, 0, none⟩) (o.length + 1) c2) w2 w2.drew (.slice p2 s1.stack.length cp2) (.slice (some ⟨g2, 0, none⟩) (o.length + 1) c2) := MovV.of (Below.refl _ _).drew
  have m3' := mD.trans m3
  obtain ⟨h5, m5⟩ := h3.cutOpn hoA
  replace h5 := h5.drew
  have m6 := (m3'.trans m5).then (Below.refl _ _).drew
  obtain ⟨hb5, ab5⟩ := m6.keeps (w0 := w0) hb2 ab2
  obtain ⟨hr5, ar5⟩ := m6.keeps (w0 := w0) hr2 ar2
  have hM6 := hM2.trans m6
  obtain ⟨_, x11, _, f11⟩ := h3.lists
  clear mD m3 m3' m5 m6 hb2 hr2 h3 h2 kB0 kB1 kB2 kB3 jB0 jB1 jB2 jB3 hq hM2 m2 mB x10 f10
  obtain ⟨L, hL⟩ : ∃ L, o.length = L := ⟨_, rfl⟩
  rw [hL] at x11 h5 hb5 hr5 hM6 hc4 hn
  have z0 : (0 : Int) ≤ ((L + 1 : Nat) : Int) - 1 := by omega
  have z1 : ((L + 1 : Nat) : Int) - 1 ≤ (c4 : Int) := by omega
  have z2 : (((L + 1 : Nat) : Int) - 1).toNat = L := by omega
  have z3 : (0 : Int) ≤ (L : Int) := by omega
  have z4 : (L : Int) ≤ (c4 : Int) := by omega
  have z5 : IntKind.i64.wrap (L : Int) = (L : Int) := IntWalk.i64_in _ (by omega)
  have z6 : IntKind.i64.wrap ((L : Int) + 1 - 1) = (L : Int) := by rw [Int.add_sub_cancel]; exact z5
  obtain ⟨W5, hW5⟩ : ∃ W, W = (w3.setCell ⟨B, 11, none⟩ (.slice (some ⟨g4, 0, none⟩) L c4)).drew := ⟨_, rfl⟩
  rw [← hW5] at h5 hb5 hr5 hM6
  obtain ⟨_, _, _, _, kB0, kB1, kB2, kB3, jB0, jB1, jB2, jB3⟩ := box_at7 hb5
  obtain ⟨_, _, _, _, kR0, kR1, kR2, kR3, jR0, jR1, jR2, jR3⟩ := box_at7 hr5
  have hlt5 := in_heap7 hr5
  have HW5 := Lib.hid hW5
  clear hW5
  go_still_tail 14, (by kernel_rfl)
  change wpList _ _ _ _ _ w3.drew
  go_upto_region 5 with fail
  rw [← HW5.out]
  go_wp2
  refine bodyPost_ret (v := b.val) ?_ rfl ?_
  · rw [results_one_cell rfl]; unfold FrV.val; go_simp
  · subst hL
    exact ⟨_, _, rfl, (((h5.other 0 _ ar5.1 ar5.2.1 ar5.2.2.1 ar5.2.2.2).other 1 _ ar5.1 ar5.2.1 ar5.2.2.1 ar5.2.2.2).other 2 _ ar5.1 ar5.2.1 ar5.2.2.1 ar5.2.2.2).other 3 _ ar5.1 ar5.2.1 ar5.2.2.1 ar5.2.2.2, (((hM6.other 0 _ (Nat.le_refl _)).other 1 _ (Nat.le_refl _)).other 2 _ (Nat.le_refl _)).other 3 _ (Nat.le_refl _)⟩
end Go.Proofs.YtomffpibdinkaaaGreatDoor
