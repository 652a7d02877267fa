/-
  Package valid's walk: at an end, and where one of two is chosen: walked. Contracts that the proofs call; no statement is proved here.
-/
import Derived.Test.YtomffpibdinkaaaGreatDoorValOther
namespace Go.Proofs.YtomffpibdinkaaaGreatDoor
open Go.RowKit
set_option linter.unusedVariables false
variable {w0 : World} {B M : Nat} {m : MoV} {lo wh : ByteArray} {s : VS} {sv ov : Value} {w : World}

theorem b7_eq (a b : List UInt8) : (b7 a = b7 b) = (a = b) := by
  apply propext
  refine ⟨fun e => ?_, fun e => e ▸ rfl⟩
  have := congrArg (fun x : ByteArray => x.data.toList) e
  simpa [b7_list] using this
theorem leave_short (s : VS) : s.leave.stack.length ≤ s.stack.length := take_len7 s s.inner.result
set_option maxRecDepth 100000 in
set_option maxHeartbeats 8000000 in
theorem s_end (h : WAt w0 B M m lo wh s sv ov w) (hr : Room7 s) (x : InsV) : Calls Tryz.prog 75 #[.pointer (some ⟨B, 0, none⟩), x.val] w (DidV w0 B M m lo wh ((s.leave.ask (s.inner.code != 4 || s.inner.result.isEmpty)).put s.inner.result) sv ov w (.tuple #[])) := by
  obtain ⟨hI, mI, nI, aI⟩ := h.boxed x
  have cl := v_leave hI hr.ne (by have := hr.inner; omega)
  clear h
  obtain ⟨WJ, hWJ⟩ : ∃ W, W = w.alloc (insObj x) := ⟨_, rfl⟩
  rw [← hWJ] at hI mI nI cl
  unfold insObj at hWJ
  have hres := hr.inner
  have hst := hr.stk
  have hls := leave_short s
  obtain ⟨⟨bc, br, bh, bd⟩, hin⟩ : ∃ b, s.inner = b := ⟨_, rfl⟩
  rw [hin] at cl hres ⊢
  obtain ⟨sL, hsL⟩ : ∃ sL, s.leave = sL := ⟨_, rfl⟩
  rw [hsL] at cl hls ⊢
  clear hsL hin
  dsimp only at hres ⊢
  obtain ⟨v, hv⟩ : ∃ v : Bool, (bc != 4 || br.isEmpty) = v := ⟨_, rfl⟩
  rw [hv]
  unfold InsV.val
  go_enter Tryz.func75, Tryz.ntmps75
  go_wp2_with fail
  rw [← hWJ]
  clear hWJ
  refine cl.mono ?_
  rintro e w1 ⟨sv, ov, rfl, h1, m1⟩
  dsimp only [FrV.val]
  have hI1 := h1.alloc (frObj ⟨bc, br, bh, bd⟩)
  have nF : (w1.alloc (frObj ⟨bc, br, bh, bd⟩)).heap[w1.heap.size]? = some (frObj ⟨bc, br, bh, bd⟩) := heap_alloc_new _ _
  have aF := h1.apart (Nat.le_refl w1.heap.size)
  have mF : MovV B sv ov w1 (w1.alloc (frObj ⟨bc, br, bh, bd⟩)) sv ov := MovV.of ((Below.refl _ _).alloc (Nat.le_refl _) _)
  unfold frObj at hI1 nF mF
  obtain ⟨_, _, _, _, k0, k1, k2, k3, j0, j1, j2, j3⟩ := box_at7 nF
  have ca := v_ask hI1 v
  have MM := (mI.trans m1).trans mF
  have go : ∀ (e : Ending) (w2 : World), DidV w0 B M m lo wh (sL.ask v) sv ov (w1.alloc (.cells #[.int .i64 bc, .string (b7 br), .int .i64 bh, .bool bd] 115)) (.tuple #[]) e w2 → e = .returned (.tuple #[]) ∧ ∃ sv2 ov2, WAt w0 B M m lo wh (sL.ask v) sv2 ov2 w2 ∧ MovV B sv ov (w1.alloc (.cells #[.int .i64 bc, .string (b7 br), .int .i64 bh, .bool bd] 115)) w2 sv2 ov2 ∧ w2.cell? ⟨w1.heap.size, 1, none⟩ = some (.string (b7 br)) := by
    rintro e w2 ⟨sv2, ov2, rfl, h2, m2⟩
    refine ⟨rfl, sv2, ov2, h2, m2, ?_⟩
    obtain ⟨n2, _⟩ := m2.keeps (w0 := w0) nF aF
    rw [World.cell?, n2]
    rfl
  have hcs : (bc ≠ 4 ∧ v = true) ∨ (bc = 4 ∧ br = [] ∧ v = true) ∨ (bc = 4 ∧ br ≠ [] ∧ v = false) := by
    by_cases e1 : bc = 4
    · cases br with
      | nil => exact .inr (.inl ⟨e1, rfl, by rw [← hv]; simp⟩)
      | cons a t => exact .inr (.inr ⟨e1, by simp, by rw [← hv]; simp [e1]⟩)
    · exact .inl ⟨e1, by rw [← hv]; simp [e1]⟩
  have cp := fun (W : World) (sv2 ov2 : Value) (h2 : WAt w0 B M m lo wh (sL.ask v) sv2 ov2 W) => v_put h2 (b7 br) (by rw [b7_size]; show sL.stack.length + _ ≤ _; omega)
  rw [b7_list] at cp
  have hz : (b7 br).toList.isEmpty = br.isEmpty := by rw [ByteArray.toList_eq, b7_list]
  have hz0 : br = [] → b7 br = ⟨#[]⟩ := fun e => by rw [e]; rfl
  generalize b7 br = z at *
  have HP := Lib.hid cp
  clear cl hI nI mI m1 h1 hI1 mF nF aF j0 j1 j2 j3 hv cp k2 k3
  rcases hcs with ⟨e1, rfl⟩ | ⟨e1, e2, rfl⟩ | ⟨e1, e2, rfl⟩
  · have q1 : (bc == 4) = false := beq_eq_false_iff_ne.2 e1
    clear hz hz0
    go_wp2_with fail
    refine ca.mono ?_
    rintro e w2 hd
    obtain ⟨rfl, sv2, ov2, h2, m2, x2⟩ := go _ _ hd
    have cp2 := HP.out _ _ _ h2
    clear ca go h2 hd
    go_wp2_with (go_at_call 107; (with_reducible refine cp2.mono ?_); rintro e w3 ⟨sv3, ov3, rfl, h3, m3⟩)
    go_end0
    exact ⟨_, _, rfl, h3, (MM.trans m2).trans m3⟩
  · subst e1
    have e3 := hz0 e2
    clear hz hz0 e2
    subst e3
    go_wp2_with fail
    refine ca.mono ?_
    rintro e w2 hd
    obtain ⟨rfl, sv2, ov2, h2, m2, x2⟩ := go _ _ hd
    have cp2 := HP.out _ _ _ h2
    clear ca go h2 hd
    go_wp2_with (go_at_call 107; (with_reducible refine cp2.mono ?_); rintro e w3 ⟨sv3, ov3, rfl, h3, m3⟩)
    go_end0
    exact ⟨_, _, rfl, h3, (MM.trans m2).trans m3⟩
  · subst e1
    have e3 : z.toList.isEmpty = false := by rw [hz]; cases br with
      | nil => exact absurd rfl e2
      | cons a t => rfl
    clear hz hz0 e2
    go_wp2_with fail
    refine ca.mono ?_
    rintro e w2 hd
    obtain ⟨rfl, sv2, ov2, h2, m2, x2⟩ := go _ _ hd
    have cp2 := HP.out _ _ _ h2
    clear ca go h2 hd
    go_wp2_with (go_at_call 107; (with_reducible refine cp2.mono ?_); rintro e w3 ⟨sv3, ov3, rfl, h3, m3⟩)
    go_end0
    exact ⟨_, _, rfl, h3, (MM.trans m2).trans m3⟩
theorem wpl_bytes_loc {P : Program} {ops : Array Oper} {rest : List Oper} {o : Oper} {a : Act} {w : World} {Q : Exit → Act → World → Prop}
    (hg : o.guard = none) (s x : Operand) (t : TypeId) (hop : o.op = Op.call { callee := Callee.builtin Builtin.append, args := #[s, x], argTypes := #[t, t] })
    (base : Nat) (e : TypeId) (i : TypeInfo) (ht : P.underlying t = some (.slice e)) (hi : P.info? e = some i) (hz : i.zero = some (.int .u8 0))
    (hsize : i.size = 1) (hby : i.bytes = 1)
    (v : Value) (d : List UInt8) (hs : a.eval s = v) (hown : Own w base e v d)
    (ad : Addr) (c : Nat) (b : UInt8) (hx : a.eval x = .slice (some ad) 1 c) (hnew : w.cell? ad = some (.int .u8 (b.toNat : Int)))
    (h63 : d.length + 1 ≤ 1000000000000) (hbase : base ≤ w.heap.size)
    (hK : ∀ v' w', Own w' base e v' (d ++ [b]) → w.grownBy w' v.ownBlock → (v'.ownBlock = v.ownBlock ∨ v'.ownBlock = some w.heap.size) → wpList P ops Q rest (a.put o.dst v') w') : wpList P ops Q (o :: rest) a w := by
  refine wpList_plain hg fun K hK2 => ?_
  obtain ⟨v', w', hr, h2, h3, h4, h5⟩ := run_append_own_at (P := P) w base t o.type e i (.int .u8 0) 1 1 ht hi hz hsize hby rfl (by decide) v d.length _ hown ad 1 c [.int .u8 (b.toNat : Int)] rfl
    (by intro j u hj
        match j, hj with
        | 0, hj => simp at hj; subst hj; simpa [Addr.add] using hnew)
    (by intro u hu; simp at hu; subst hu; rfl) (by unfold maxLen; omega) (by omega) hbase
  unfold Oper.wp execOp
  simp only [hop, resolve, invoke, builtin, Sem.run_bind, Sem.run_pure, Result.andThen_ok, List.map_toArray, List.map_cons, List.map_nil, hs, hx, hr]
  refine hK2 _ _ (hK v' w' ?_ h3 h5)
  unfold Own
  simpa using h2
theorem takeAny_short (s : VS) : s.takeAny.2.stack.length ≤ s.stack.length := takeAny_len s
theorem u8_max (a b : UInt8) : ((max a b).toNat : Int) = max (a.toNat : Int) (b.toNat : Int) := by
  have h : max a b = if a ≤ b then b else a := rfl
  rw [h]
  have hle : a ≤ b ↔ a.toNat ≤ b.toNat := UInt8.le_iff_toNat_le
  by_cases e : a ≤ b
  · rw [if_pos e]; have := hle.1 e; omega
  · rw [if_neg e]; have : ¬ a.toNat ≤ b.toNat := fun h => e (hle.2 h); omega
set_option maxRecDepth 100000 in
set_option maxHeartbeats 8000000 in
theorem s_choose (h : WAt w0 B M m lo wh s sv ov w) (hr : Room7 s) (x : InsV) : Calls Tryz.prog 82 #[.pointer (some ⟨B, 0, none⟩), x.val] w (DidV w0 B M m lo wh (((s.take [127]).takeAny.2.takeAny.2.ask ((s.take [127]).takeAny.1 == (s.take [127]).takeAny.2.takeAny.1 || (s.take [127]).takeAny.1 == 0 || (s.take [127]).takeAny.2.takeAny.1 == 0)).put [max (s.take [127]).takeAny.1 (s.take [127]).takeAny.2.takeAny.1]) sv ov w (.tuple #[])) := by
  obtain ⟨hI, mI, nI, aI⟩ := h.boxed x
  obtain ⟨i0, hi, hz0, hz1, hz2⟩ := info_parts infoU87
  have ct := v_take hI hr.ne ⟨#[127]⟩ (by decide)
  rw [show (⟨#[127]⟩ : ByteArray).data.toList = [127] from rfl] at ct
  clear h
  obtain ⟨WI, hWI⟩ : ∃ W, W = w.alloc (insObj x) := ⟨_, rfl⟩
  rw [← hWI] at hI mI nI ct
  unfold insObj at hWI nI
  have l1 := take_len7 s [127]
  have hst := hr.stk
  have o1 : (s.take [127]).opens ≠ [] := by rw [take_opens]; exact hr.ne
  obtain ⟨s1, hs1⟩ : ∃ s1, s.take [127] = s1 := ⟨_, rfl⟩
  rw [hs1] at ct l1 o1 ⊢
  have l2 := takeAny_len s1
  have o2 : s1.takeAny.2.opens ≠ [] := by rw [takeAny_opens]; exact o1
  have ca := fun (W : World) (sv2 ov2 : Value) (h2 : WAt w0 B M m lo wh s1 sv2 ov2 W) => v_takeAny h2 o1
  obtain ⟨xa, s2, hs2⟩ : ∃ xa s2, s1.takeAny = (xa, s2) := ⟨_, _, rfl⟩
  rw [hs2] at l2 o2 ca ⊢
  dsimp only at l2 o2 ca ⊢
  have l3 := takeAny_len s2
  have cb := fun (W : World) (sv2 ov2 : Value) (h2 : WAt w0 B M m lo wh s2 sv2 ov2 W) => v_takeAny h2 o2
  obtain ⟨xb, s3, hs3⟩ : ∃ xb s3, s2.takeAny = (xb, s3) := ⟨_, _, rfl⟩
  rw [hs3] at l3 cb ⊢
  dsimp only at l3 cb ⊢
  obtain ⟨v, hv⟩ : ∃ v : Bool, (xa == xb || xa == 0 || xb == 0) = v := ⟨_, rfl⟩
  rw [hv]
  have hv2 : (decide ((xa.toNat : Int) = (xb.toNat : Int)) || decide ((xa.toNat : Int) = 0) || decide ((xb.toNat : Int) = 0)) = v := by
    rw [← hv, u8_eq, u8_eq, u8_eq]; rfl
  have hcs : ((xa.toNat : Int) = (xb.toNat : Int) ∧ v = true) ∨ (¬ (xa.toNat : Int) = (xb.toNat : Int) ∧ (xa.toNat : Int) = 0 ∧ v = true) ∨ (¬ (xa.toNat : Int) = (xb.toNat : Int) ∧ ¬ (xa.toNat : Int) = 0 ∧ (xb.toNat : Int) = 0 ∧ v = true) ∨ (¬ (xa.toNat : Int) = (xb.toNat : Int) ∧ ¬ (xa.toNat : Int) = 0 ∧ ¬ (xb.toNat : Int) = 0 ∧ v = false) := by
    by_cases e1 : (xa.toNat : Int) = (xb.toNat : Int)
    · exact .inl ⟨e1, by rw [← hv2]; simp [e1]⟩
    · by_cases e2 : (xa.toNat : Int) = 0
      · exact .inr (.inl ⟨e1, e2, by rw [← hv2]; simp [e2]⟩)
      · by_cases e3 : (xb.toNat : Int) = 0
        · exact .inr (.inr (.inl ⟨e1, e2, e3, by rw [← hv2]; simp [e3]⟩))
        · exact .inr (.inr (.inr ⟨e1, e2, e3, by rw [← hv2]; simp only [e1, e2, e3, decide_false, Bool.or_self]⟩))
  clear hv hv2 hs1 hs2 hs3 o1 o2 nI
  have hMx := u8_max xa xb
  obtain ⟨mx, hmx⟩ : ∃ mx, max xa xb = mx := ⟨_, rfl⟩
  rw [hmx] at hMx ⊢
  obtain ⟨ya, hya⟩ : ∃ y : Int, (xa.toNat : Int) = y := ⟨_, rfl⟩
  obtain ⟨yb, hyb⟩ : ∃ y : Int, (xb.toNat : Int) = y := ⟨_, rfl⟩
  rw [hya] at hMx hcs ca
  rw [hyb] at hMx hcs cb
  have hwf : s3.Wf → ((s3.ask v).put [mx]).Wf := fun h => put_wf (ask_wf h v) [mx]
  clear hmx hya hyb
  unfold InsV.val
  go_enter Tryz.func82, Tryz.ntmps82
  go_wp2_with fail
  rw [← hWI]
  clear hWI
  refine ct.mono ?_
  rintro e w2 ⟨sv2, ov2, rfl, h2, m2⟩
  have ca2 := ca _ _ _ h2
  clear ct ca h2
  go_wp2_with fail
  refine ca2.mono ?_
  rintro e w3 ⟨sv3, ov3, rfl, h3, m3⟩
  have cb2 := cb _ _ _ h3
  clear ca2 cb h3
  go_wp2_with fail
  refine cb2.mono ?_
  rintro e w4 ⟨sv4, ov4, rfl, h4, m4⟩
  have cc := v_ask h4 v
  have HM := Lib.hid (((mI.trans m2).trans m3).trans m4)
  have HWF := Lib.hid (hwf h4.wf)
  clear cb2 h4 mI m2 m3 m4 hwf
  rcases hcs with ⟨e1, rfl⟩ | ⟨e1, e2, rfl⟩ | ⟨e1, e2, e3, rfl⟩ | ⟨e1, e2, e3, rfl⟩
  · have q1 : (ya == yb) = true := beq_iff_eq.2 e1
    clear e1
    go_wp2_with fail
    refine cc.mono ?_
    rintro e w5 ⟨sv5, ov5, rfl, h5, m5⟩
    obtain ⟨z10, z11, f10, f11⟩ := h5.lists
    have hA := h5.alloc (.cells #[.int .u8 (max ya yb)] 5)
    have hst5 := hA.stk
    have hGR := Lib.hid (fun (v' : Value) (W : World) => hA.grownStk (st := mx :: s3.stack) (sv' := v') (w1 := W))
    have hMl := hA.hl
    have hnew : (w5.alloc (.cells #[.int .u8 (max ya yb)] 5)).cell? ⟨w5.heap.size, 0, none⟩ = some (.int .u8 (mx.toNat : Int)) := by rw [hMx, World.cell?, heap_alloc_new]; rfl
    have mA := Lib.hid ((HM.out.trans m5).then ((Below.refl _ w5).alloc (Nat.le_refl _) (.cells #[.int .u8 (max ya yb)] 5)))
    have hbx := Lib.hid hA.box
    have hlA : B < (w5.alloc (.cells #[.int .u8 (max ya yb)] 5)).heap.size := Nat.lt_trans hA.hM hA.hl
    have hneB := hA.ne.1
    clear cc h5 m5 hA
    go_wp2_with (at_builtin; refine wpl_bytes_loc rfl (.tmp 29) (.tmp 33) 61 rfl (M + 1) 5 i0 Tryz.underlying61 hi hz0 hz1 hz2 _ _ rfl hst5 _ 1 mx rfl hnew (by rw [List.length_reverse]; show s3.stack.length + 1 ≤ _; omega) (by omega) ?_)
    intro v' w6 r1 r2 r3
    have hbx1 := (r2.block B hlA (fun e => hneB B e.symm rfl)).trans hbx.out
    have y1 : w6.frozen? ⟨B, 10, none⟩ = false := by simp [World.frozen?, hbx1]
    have x1 : w6.cell? ⟨B, 10, none⟩ = some sv5 := by rw [World.cell?, hbx1]; rfl
    obtain ⟨p', n', c', rfl⟩ : ∃ p n c, v' = .slice p n c := by
      rcases own_any7 r1 with ⟨rfl, h6, _⟩ | ⟨g, c, rfl, _⟩
      · exact ⟨_, _, _, rfl⟩
      · exact ⟨_, _, _, rfl⟩
    go_wp2
    go_end0
    obtain ⟨h6, m6⟩ := hGR.out _ w6 (by rw [List.reverse_cons]; exact r1) r2 (by simpa using r3) HWF.out (by rw [List.length_cons]; omega)
    exact ⟨_, ov5, rfl, h6, mA.out.trans m6⟩
  · have q1 : (ya == yb) = false := beq_eq_false_iff_ne.2 e1
    have q2 : (ya == 0) = true := beq_iff_eq.2 e2
    clear e1 e2
    go_wp2_with fail
    refine cc.mono ?_
    rintro e w5 ⟨sv5, ov5, rfl, h5, m5⟩
    obtain ⟨z10, z11, f10, f11⟩ := h5.lists
    have hA := h5.alloc (.cells #[.int .u8 (max ya yb)] 5)
    have hst5 := hA.stk
    have hGR := Lib.hid (fun (v' : Value) (W : World) => hA.grownStk (st := mx :: s3.stack) (sv' := v') (w1 := W))
    have hMl := hA.hl
    have hnew : (w5.alloc (.cells #[.int .u8 (max ya yb)] 5)).cell? ⟨w5.heap.size, 0, none⟩ = some (.int .u8 (mx.toNat : Int)) := by rw [hMx, World.cell?, heap_alloc_new]; rfl
    have mA := Lib.hid ((HM.out.trans m5).then ((Below.refl _ w5).alloc (Nat.le_refl _) (.cells #[.int .u8 (max ya yb)] 5)))
    have hbx := Lib.hid hA.box
    have hlA : B < (w5.alloc (.cells #[.int .u8 (max ya yb)] 5)).heap.size := Nat.lt_trans hA.hM hA.hl
    have hneB := hA.ne.1
    clear cc h5 m5 hA
    go_wp2_with (at_builtin; refine wpl_bytes_loc rfl (.tmp 29) (.tmp 33) 61 rfl (M + 1) 5 i0 Tryz.underlying61 hi hz0 hz1 hz2 _ _ rfl hst5 _ 1 mx rfl hnew (by rw [List.length_reverse]; show s3.stack.length + 1 ≤ _; omega) (by omega) ?_)
    intro v' w6 r1 r2 r3
    have hbx1 := (r2.block B hlA (fun e => hneB B e.symm rfl)).trans hbx.out
    have y1 : w6.frozen? ⟨B, 10, none⟩ = false := by simp [World.frozen?, hbx1]
    have x1 : w6.cell? ⟨B, 10, none⟩ = some sv5 := by rw [World.cell?, hbx1]; rfl
    obtain ⟨p', n', c', rfl⟩ : ∃ p n c, v' = .slice p n c := by
      rcases own_any7 r1 with ⟨rfl, h6, _⟩ | ⟨g, c, rfl, _⟩
      · exact ⟨_, _, _, rfl⟩
      · exact ⟨_, _, _, rfl⟩
    go_wp2
    go_end0
    obtain ⟨h6, m6⟩ := hGR.out _ w6 (by rw [List.reverse_cons]; exact r1) r2 (by simpa using r3) HWF.out (by rw [List.length_cons]; omega)
    exact ⟨_, ov5, rfl, h6, mA.out.trans m6⟩
  · have q1 : (ya == yb) = false := beq_eq_false_iff_ne.2 e1
    have q2 : (ya == 0) = false := beq_eq_false_iff_ne.2 e2
    have q3 : (yb == 0) = true := beq_iff_eq.2 e3
    clear e1 e2 e3
    go_wp2_with fail
    refine cc.mono ?_
    rintro e w5 ⟨sv5, ov5, rfl, h5, m5⟩
    obtain ⟨z10, z11, f10, f11⟩ := h5.lists
    have hA := h5.alloc (.cells #[.int .u8 (max ya yb)] 5)
    have hst5 := hA.stk
    have hGR := Lib.hid (fun (v' : Value) (W : World) => hA.grownStk (st := mx :: s3.stack) (sv' := v') (w1 := W))
    have hMl := hA.hl
    have hnew : (w5.alloc (.cells #[.int .u8 (max ya yb)] 5)).cell? ⟨w5.heap.size, 0, none⟩ = some (.int .u8 (mx.toNat : Int)) := by rw [hMx, World.cell?, heap_alloc_new]; rfl
    have mA := Lib.hid ((HM.out.trans m5).then ((Below.refl _ w5).alloc (Nat.le_refl _) (.cells #[.int .u8 (max ya yb)] 5)))
    have hbx := Lib.hid hA.box
    have hlA : B < (w5.alloc (.cells #[.int .u8 (max ya yb)] 5)).heap.size := Nat.lt_trans hA.hM hA.hl
    have hneB := hA.ne.1
    clear cc h5 m5 hA
    go_wp2_with (at_builtin; refine wpl_bytes_loc rfl (.tmp 29) (.tmp 33) 61 rfl (M + 1) 5 i0 Tryz.underlying61 hi hz0 hz1 hz2 _ _ rfl hst5 _ 1 mx rfl hnew (by rw [List.length_reverse]; show s3.stack.length + 1 ≤ _; omega) (by omega) ?_)
    intro v' w6 r1 r2 r3
    have hbx1 := (r2.block B hlA (fun e => hneB B e.symm rfl)).trans hbx.out
    have y1 : w6.frozen? ⟨B, 10, none⟩ = false := by simp [World.frozen?, hbx1]
    have x1 : w6.cell? ⟨B, 10, none⟩ = some sv5 := by rw [World.cell?, hbx1]; rfl
    obtain ⟨p', n', c', rfl⟩ : ∃ p n c, v' = .slice p n c := by
      rcases own_any7 r1 with ⟨rfl, h6, _⟩ | ⟨g, c, rfl, _⟩
      · exact ⟨_, _, _, rfl⟩
      · exact ⟨_, _, _, rfl⟩
    go_wp2
    go_end0
    obtain ⟨h6, m6⟩ := hGR.out _ w6 (by rw [List.reverse_cons]; exact r1) r2 (by simpa using r3) HWF.out (by rw [List.length_cons]; omega)
    exact ⟨_, ov5, rfl, h6, mA.out.trans m6⟩
  · have q1 : (ya == yb) = false := beq_eq_false_iff_ne.2 e1
    have q2 : (ya == 0) = false := beq_eq_false_iff_ne.2 e2
    have q3 : (yb == 0) = false := beq_eq_false_iff_ne.2 e3
    clear e1 e2 e3
    go_wp2_with fail
    refine cc.mono ?_
    rintro e w5 ⟨sv5, ov5, rfl, h5, m5⟩
    obtain ⟨z10, z11, f10, f11⟩ := h5.lists
    have hA := h5.alloc (.cells #[.int .u8 (max ya yb)] 5)
    have hst5 := hA.stk
    have hGR := Lib.hid (fun (v' : Value) (W : World) => hA.grownStk (st := mx :: s3.stack) (sv' := v') (w1 := W))
    have hMl := hA.hl
    have hnew : (w5.alloc (.cells #[.int .u8 (max ya yb)] 5)).cell? ⟨w5.heap.size, 0, none⟩ = some (.int .u8 (mx.toNat : Int)) := by rw [hMx, World.cell?, heap_alloc_new]; rfl
    have mA := Lib.hid ((HM.out.trans m5).then ((Below.refl _ w5).alloc (Nat.le_refl _) (.cells #[.int .u8 (max ya yb)] 5)))
    have hbx := Lib.hid hA.box
    have hlA : B < (w5.alloc (.cells #[.int .u8 (max ya yb)] 5)).heap.size := Nat.lt_trans hA.hM hA.hl
    have hneB := hA.ne.1
    clear cc h5 m5 hA
    go_wp2_with (at_builtin; refine wpl_bytes_loc rfl (.tmp 29) (.tmp 33) 61 rfl (M + 1) 5 i0 Tryz.underlying61 hi hz0 hz1 hz2 _ _ rfl hst5 _ 1 mx rfl hnew (by rw [List.length_reverse]; show s3.stack.length + 1 ≤ _; omega) (by omega) ?_)
    intro v' w6 r1 r2 r3
    have hbx1 := (r2.block B hlA (fun e => hneB B e.symm rfl)).trans hbx.out
    have y1 : w6.frozen? ⟨B, 10, none⟩ = false := by simp [World.frozen?, hbx1]
    have x1 : w6.cell? ⟨B, 10, none⟩ = some sv5 := by rw [World.cell?, hbx1]; rfl
    obtain ⟨p', n', c', rfl⟩ : ∃ p n c, v' = .slice p n c := by
      rcases own_any7 r1 with ⟨rfl, h6, _⟩ | ⟨g, c, rfl, _⟩
      · exact ⟨_, _, _, rfl⟩
      · exact ⟨_, _, _, rfl⟩
    go_wp2
    go_end0
    obtain ⟨h6, m6⟩ := hGR.out _ w6 (by rw [List.reverse_cons]; exact r1) r2 (by simpa using r3) HWF.out (by rw [List.length_cons]; omega)
    exact ⟨_, ov5, rfl, h6, mA.out.trans m6⟩
end Go.Proofs.YtomffpibdinkaaaGreatDoor
