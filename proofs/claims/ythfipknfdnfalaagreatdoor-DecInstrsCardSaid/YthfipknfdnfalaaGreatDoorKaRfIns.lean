/-
  The document's own reader reads an instruction: walked, by what its code is. A contract that the proofs call; no statement is proved here.
-/
import Derived.Test.YthfipknfdnfalaaGreatDoorKaDecInsA
namespace Go.Proofs.YthfipknfdnfalaaGreatDoor
open Go.RowKit
set_option linter.unusedVariables false
set_option maxRecDepth 100000 in
set_option maxHeartbeats 8000000 in
theorem q_ins_no {w0 : World} {B : Nat} {s : ByteArray} {n : Nat} {r : RV} {w : World} (h : QAt w0 B s n r w) (b : Int) (r1 : RV) (hb : 0 ≤ b ∧ b < 256) (g1 : Got pOne r r1 b) (he1 : r1.e ≠ 0)
    (c1 : ∀ w, QAt w0 B s n r w → Calls Tryz.prog 53 #[.pointer (some ⟨B, 0, none⟩)] w fun e w' => e = .returned (.int .i64 b) ∧ QAt w0 B s n r1 w' ∧ Mov B B w w') :
    Calls Tryz.prog 63 #[.pointer (some ⟨B, 0, none⟩)] w (DidQ w0 B s n r w pIns InsV.bare InsV.val InsNew) := by
  have hb0 := hb.1
  have hb1 := hb.2
  have hlt := in_heap6 h.box
  have hw0 := h.below.size
  have n1 : w.heap.size ≠ B := by omega
  have ha := h.alloc (.cells #[.int .i64 0, .int .i64 0, .int .i64 0, .slice none 0 0] 46)
  have hres := heap_alloc_new w (.cells #[.int .i64 0, .int .i64 0, .int .i64 0, .slice none 0 0] 46)
  clear h
  have hq : (r1.e != 0) = true := by simpa using he1
  have hg : Got pIns r r1 (bareI 0 0 0 []) := g1.bad _ (fun k hk => and_bad hk) he1
  go_enter Tryz.func63, Tryz.ntmps63
  go_wp2_with fail
  refine (c1 _ ha).mono ?_
  rintro e w1 ⟨rfl, h1, m1⟩
  have mm1 := ((Mov.refl B B w).alloc (.cells #[.int .i64 0, .int .i64 0, .int .i64 0, .slice none 0 0] 46)).trans m1
  have hr1 := (m1.block w.heap.size (by simp) n1 n1).trans hres
  obtain ⟨x0, x1, x2, x3, y0, y1, y2, y3⟩ := h1.reads
  obtain ⟨_, _, _, _, t0, t1, t2, t3, f0, f1, f2, f3⟩ := box_at hr1
  have hls := in_heap6 hr1
  clear c1 ha hres m1
  go_wp2
  refine bodyPost_ret (v := .agg #[.int .i64 0, .int .i64 0, .int .i64 0, .slice none 0 0]) ?_ rfl ?_
  · rw [results_one_cell rfl]; go_simp
  · have hl := q_last4 h1 mm1 (.int .i64 0) (.int .i64 0) (.int .i64 0) (.slice none 0 0) n1 hw0 (Nat.le_refl _)
    exact ⟨bareI 0 0 0 [], _, rfl, hg, hl.1, hl.2, insNew_nil _ _ _ _ _ ⟨by decide, by decide⟩ ⟨by decide, by decide⟩ ⟨by decide, by decide⟩⟩
set_option maxRecDepth 100000 in
set_option maxHeartbeats 8000000 in
theorem q_ins_float {w0 : World} {B : Nat} {s : ByteArray} {n : Nat} {r : RV} {w : World} (h : QAt w0 B s n r w) (b : Int) (r1 : RV) (hb : 0 ≤ b ∧ b < 256) (g1 : Got pOne r r1 b) (he1 : r1.e = 0)
    (c1 : ∀ w, QAt w0 B s n r w → Calls Tryz.prog 53 #[.pointer (some ⟨B, 0, none⟩)] w fun e w' => e = .returned (.int .i64 b) ∧ QAt w0 B s n r1 w' ∧ Mov B B w w') (hf : isFloat b = true) :
    Calls Tryz.prog 63 #[.pointer (some ⟨B, 0, none⟩)] w (DidQ w0 B s n r w pIns InsV.bare InsV.val InsNew) := by
  have hb0 := hb.1
  have hb1 := hb.2
  have hlt := in_heap6 h.box
  have hw0 := h.below.size
  have n1 : w.heap.size ≠ B := by omega
  have ha := h.alloc (.cells #[.int .i64 0, .int .i64 0, .int .i64 0, .slice none 0 0] 46)
  have hres := heap_alloc_new w (.cells #[.int .i64 0, .int .i64 0, .int .i64 0, .slice none 0 0] 46)
  clear h
  have cf := ref_float b
  rw [hf] at cf
  have hbad : r1.bad 3 = ⟨r1.s, r1.pos, 3⟩ := RV.bad_zero he1 3
  go_enter Tryz.func63, Tryz.ntmps63
  go_wp2_with fail
  refine (c1 _ ha).mono ?_
  rintro e w1 ⟨rfl, h1, m1⟩
  have mm1 := ((Mov.refl B B w).alloc (.cells #[.int .i64 0, .int .i64 0, .int .i64 0, .slice none 0 0] 46)).trans m1
  have hr1 := (m1.block w.heap.size (by simp) n1 n1).trans hres
  obtain ⟨x0, x1, x2, x3, y0, y1, y2, y3⟩ := h1.reads
  obtain ⟨_, _, _, _, t0, t1, t2, t3, f0, f1, f2, f3⟩ := box_at hr1
  have hls := in_heap6 hr1
  clear c1 ha hres m1
  rw [he1] at x3
  have HE := Lib.hid he1
  clear he1
  go_wp2_with (go_at_call 154; (with_reducible refine (cf _).mono ?_); rintro e w2 ⟨rfl, rfl⟩)
  refine bodyPost_ret (v := .agg #[.int .i64 0, .int .i64 0, .int .i64 0, .slice none 0 0]) ?_ rfl ?_
  · rw [results_one_cell rfl]; go_simp
  · have hl := q_last4 (h1.set3 3) (mm1.set 3 (.int .i64 3)) (.int .i64 0) (.int .i64 0) (.int .i64 0) (.slice none 0 0) n1 hw0 (Nat.le_refl _)
    exact ⟨bareI 0 0 0 [], _, rfl, g1.and (by rw [if_pos (.inl hf), ← hbad]; exact Got.no (by decide) _ _), hl.1, hl.2, insNew_nil _ _ _ _ _ ⟨by decide, by decide⟩ ⟨by decide, by decide⟩ ⟨by decide, by decide⟩⟩
set_option maxRecDepth 100000 in
set_option maxHeartbeats 8000000 in
theorem q_ins_k17 {w0 : World} {B : Nat} {s : ByteArray} {n : Nat} {r : RV} {w : World} (h : QAt w0 B s n r w) (b : Int) (r1 : RV) (hb : 0 ≤ b ∧ b < 256) (g1 : Got pOne r r1 b) (he1 : r1.e = 0)
    (c1 : ∀ w, QAt w0 B s n r w → Calls Tryz.prog 53 #[.pointer (some ⟨B, 0, none⟩)] w fun e w' => e = .returned (.int .i64 b) ∧ QAt w0 B s n r1 w' ∧ Mov B B w w') (hf : isFloat b = false) (h17 : b = 17) :
    Calls Tryz.prog 63 #[.pointer (some ⟨B, 0, none⟩)] w (DidQ w0 B s n r w pIns InsV.bare InsV.val InsNew) := by
  have hb0 := hb.1
  have hb1 := hb.2
  have hlt := in_heap6 h.box
  have hw0 := h.below.size
  have n1 : w.heap.size ≠ B := by omega
  have ha := h.alloc (.cells #[.int .i64 0, .int .i64 0, .int .i64 0, .slice none 0 0] 46)
  have hres := heap_alloc_new w (.cells #[.int .i64 0, .int .i64 0, .int .i64 0, .slice none 0 0] 46)
  clear h
  have cf := ref_float b
  rw [hf] at cf
  have hq17 : (b == 17) = true := beq_iff_eq.2 h17
  have H17 := Lib.hid h17
  clear h17
  have hbad : r1.bad 3 = ⟨r1.s, r1.pos, 3⟩ := RV.bad_zero he1 3
  go_enter Tryz.func63, Tryz.ntmps63
  go_wp2_with fail
  refine (c1 _ ha).mono ?_
  rintro e w1 ⟨rfl, h1, m1⟩
  have mm1 := ((Mov.refl B B w).alloc (.cells #[.int .i64 0, .int .i64 0, .int .i64 0, .slice none 0 0] 46)).trans m1
  have hr1 := (m1.block w.heap.size (by simp) n1 n1).trans hres
  obtain ⟨x0, x1, x2, x3, y0, y1, y2, y3⟩ := h1.reads
  obtain ⟨_, _, _, _, t0, t1, t2, t3, f0, f1, f2, f3⟩ := box_at hr1
  have hls := in_heap6 hr1
  clear c1 ha hres m1
  rw [he1] at x3
  have HE := Lib.hid he1
  clear he1
  go_wp2_with (go_at_call 154; (with_reducible refine (cf _).mono ?_); rintro e w2 ⟨rfl, rfl⟩)
  refine bodyPost_ret (v := .agg #[.int .i64 0, .int .i64 0, .int .i64 0, .slice none 0 0]) ?_ rfl ?_
  · rw [results_one_cell rfl]; go_simp
  · have hl := q_last4 (h1.set3 3) (mm1.set 3 (.int .i64 3)) (.int .i64 0) (.int .i64 0) (.int .i64 0) (.slice none 0 0) n1 hw0 (Nat.le_refl _)
    exact ⟨bareI 0 0 0 [], _, rfl, g1.and (by rw [if_pos (.inr H17.out), ← hbad]; exact Got.no (by decide) _ _), hl.1, hl.2, insNew_nil _ _ _ _ _ ⟨by decide, by decide⟩ ⟨by decide, by decide⟩ ⟨by decide, by decide⟩⟩
set_option maxRecDepth 100000 in
set_option maxHeartbeats 8000000 in
theorem q_ins_none {w0 : World} {B : Nat} {s : ByteArray} {n : Nat} {r : RV} {w : World} (h : QAt w0 B s n r w) (b : Int) (r1 : RV) (hb : 0 ≤ b ∧ b < 256) (g1 : Got pOne r r1 b) (he1 : r1.e = 0)
    (c1 : ∀ w, QAt w0 B s n r w → Calls Tryz.prog 53 #[.pointer (some ⟨B, 0, none⟩)] w fun e w' => e = .returned (.int .i64 b) ∧ QAt w0 B s n r1 w' ∧ Mov B B w w') (hf : isFloat b = false) (h17 : ¬ b = 17) (hnone : byCode b = none) :
    Calls Tryz.prog 63 #[.pointer (some ⟨B, 0, none⟩)] w (DidQ w0 B s n r w pIns InsV.bare InsV.val InsNew) := by
  have hb0 := hb.1
  have hb1 := hb.2
  have hlt := in_heap6 h.box
  have hw0 := h.below.size
  have n1 : w.heap.size ≠ B := by omega
  have ha := h.alloc (.cells #[.int .i64 0, .int .i64 0, .int .i64 0, .slice none 0 0] 46)
  have hres := heap_alloc_new w (.cells #[.int .i64 0, .int .i64 0, .int .i64 0, .slice none 0 0] 46)
  clear h
  have cf := ref_float b
  rw [hf] at cf
  have hq17 : (b == 17) = false := beq_eq_false_iff_ne.2 h17
  have co := fun W => ref_of b W
  rw [hnone] at co
  have hby : infoVal none = .agg #[.string ⟨#[]⟩, .int .i64 0, .string ⟨#[]⟩, .string ⟨#[]⟩] := rfl
  rw [hby, show (none : Option Rw).isSome = false from rfl] at co
  have hbad : r1.bad 2 = ⟨r1.s, r1.pos, 2⟩ := RV.bad_zero he1 2
  have hg : Got pIns r (r1.bad 2) (bareI 0 0 0 []) := g1.and (by rw [if_neg (by rw [hf]; simp; exact h17), hnone]; exact Got.no (by decide) _ _)
  rw [hbad] at hg
  clear hbad hnone h17 hby
  go_enter Tryz.func63, Tryz.ntmps63
  go_wp2_with fail
  refine (c1 _ ha).mono ?_
  rintro e w1 ⟨rfl, h1, m1⟩
  have mm1 := ((Mov.refl B B w).alloc (.cells #[.int .i64 0, .int .i64 0, .int .i64 0, .slice none 0 0] 46)).trans m1
  have hr1 := (m1.block w.heap.size (by simp) n1 n1).trans hres
  obtain ⟨x0, x1, x2, x3, y0, y1, y2, y3⟩ := h1.reads
  obtain ⟨_, _, _, _, t0, t1, t2, t3, f0, f1, f2, f3⟩ := box_at hr1
  have hls := in_heap6 hr1
  clear c1 ha hres m1
  rw [he1] at x3
  have HE := Lib.hid he1
  clear he1
  go_wp2_with (first
    | (go_at_call 154; (with_reducible refine (cf _).mono ?_); rintro e w2 ⟨rfl, rfl⟩)
    | (go_at_call 119; (with_reducible refine (co _).mono ?_); rintro e w3 ⟨rfl, hb3⟩; have hbb := hb3.alloc hb3.size (.cells #[.string ⟨#[]⟩, .int .i64 0, .string ⟨#[]⟩, .string ⟨#[]⟩] 182); have h3 := h1.at' hbb; have mm3 := mm1.then hbb; have hr3 := (hbb.block _ hls).trans hr1; clear x0 x1 x2 x3 y0 y1 y2 y3 t0 t1 t2 t3 f0 f1 f2 f3 hr1; obtain ⟨x0, x1, x2, x3, y0, y1, y2, y3⟩ := h3.reads; obtain ⟨_, _, _, _, t0, t1, t2, t3, f0, f1, f2, f3⟩ := box_at hr3))
  refine bodyPost_ret (v := .agg #[.int .i64 0, .int .i64 0, .int .i64 0, .slice none 0 0]) ?_ rfl ?_
  · rw [results_one_cell rfl]; go_simp
  · have hl := q_last4 (h3.set3 2) (mm3.set 3 (.int .i64 2)) (.int .i64 0) (.int .i64 0) (.int .i64 0) (.slice none 0 0) n1 hw0 (Nat.le_refl _)
    exact ⟨bareI 0 0 0 [], _, rfl, hg, hl.1, hl.2, insNew_nil _ _ _ _ _ ⟨by decide, by decide⟩ ⟨by decide, by decide⟩ ⟨by decide, by decide⟩⟩
set_option maxRecDepth 100000 in
set_option maxHeartbeats 8000000 in
theorem q_ins_s0 {w0 : World} {B : Nat} {s : ByteArray} {n : Nat} {r : RV} {w : World} (h : QAt w0 B s n r w) (b : Int) (r1 : RV) (hb : 0 ≤ b ∧ b < 256) (g1 : Got pOne r r1 b) (he1 : r1.e = 0)
    (c1 : ∀ w, QAt w0 B s n r w → Calls Tryz.prog 53 #[.pointer (some ⟨B, 0, none⟩)] w fun e w' => e = .returned (.int .i64 b) ∧ QAt w0 B s n r1 w' ∧ Mov B B w w') (rc : Int) (rn rp rr : ByteArray) (hR : byCode b = some ⟨rc, rn, 0, rp, rr⟩) :
    Calls Tryz.prog 63 #[.pointer (some ⟨B, 0, none⟩)] w (DidQ w0 B s n r w pIns InsV.bare InsV.val InsNew) := by
  have hb0 := hb.1
  have hb1 := hb.2
  have hlt := in_heap6 h.box
  have hw0 := h.below.size
  have n1 : w.heap.size ≠ B := by omega
  have ha := h.alloc (.cells #[.int .i64 0, .int .i64 0, .int .i64 0, .slice none 0 0] 46)
  have hres := heap_alloc_new w (.cells #[.int .i64 0, .int .i64 0, .int .i64 0, .slice none 0 0] 46)
  clear h
  have h6 := byCode_6 hR
  have hf : isFloat b = false := h6.1
  have h17 : ¬ b = 17 := h6.2.1
  have cf := ref_float b
  rw [hf] at cf
  have hq17 : (b == 17) = false := beq_eq_false_iff_ne.2 h17
  have co := fun W => ref_of b W
  rw [hR] at co
  rw [show infoVal (some ⟨rc, rn, 0, rp, rr⟩) = .agg #[.string rn, .int .i64 0, .string rp, .string rr] from rfl, show (some (⟨rc, rn, 0, rp, rr⟩ : Rw)).isSome = true from rfl] at co
  have hgo : ∀ (r2 : RV) (x : InsV), Got (pTail 0 b) r1 r2 x → Got pIns r r2 x := fun r2 x hg => g1.and (by rw [if_neg (by rw [hf]; simp; exact h17), hR]; exact hg)
  clear h6 hR h17 g1
  go_enter Tryz.func63, Tryz.ntmps63
  go_wp2_with fail
  refine (c1 _ ha).mono ?_
  rintro e w1 ⟨rfl, h1, m1⟩
  have mm1 := ((Mov.refl B B w).alloc (.cells #[.int .i64 0, .int .i64 0, .int .i64 0, .slice none 0 0] 46)).trans m1
  have hr1 := (m1.block w.heap.size (by simp) n1 n1).trans hres
  obtain ⟨x0, x1, x2, x3, y0, y1, y2, y3⟩ := h1.reads
  obtain ⟨_, _, _, _, t0, t1, t2, t3, f0, f1, f2, f3⟩ := box_at hr1
  have hls := in_heap6 hr1
  clear c1 ha hres m1
  rw [he1] at x3
  go_wp2_with (first
    | (go_at_call 154; (with_reducible refine (cf _).mono ?_); rintro e w2 ⟨rfl, rfl⟩)
    | (go_at_call 119; (with_reducible refine (co _).mono ?_); rintro e w3 ⟨rfl, hb3⟩; have S := QSt.start h1 mm1 hr1 hlt hw0 hb3 (.cells #[.string rn, .int .i64 0, .string rp, .string rr] 182) b; clear x0 x1 x2 x3 y0 y1 y2 y3 t0 t1 t2 t3 f0 f1 f2 f3 hr1 h1 mm1 co cf; obtain ⟨⟨t0, t1, t2, t3, f0, f1, f2, f3⟩, e0, e1, e2, e3, z0, z1, z2, z3, nb, hlW⟩ := S.facts; obtain ⟨x0, x1, x2, x3, y0, y1, y2, y3⟩ := S.rd.reads; rw [he1] at x3))
  refine bodyPost_ret (v := .agg #[.int .i64 b, .int .i64 0, .int .i64 0, .slice none 0 0]) ?_ rfl ?_
  · rw [results_one_cell rfl]; go_simp
  · have hl := S.done (.int .i64 b) (.int .i64 0) (.int .i64 0) (.slice none 0 0)
    exact ⟨bareI b 0 0 [], _, rfl, hgo _ _ (Got.val _ _), hl.1, hl.2, insNew_nil _ _ _ _ _ (by unfold inI64; omega) (by unfold inI64; omega) (by unfold inI64; omega)⟩
set_option maxRecDepth 100000 in
set_option maxHeartbeats 8000000 in
theorem q_ins_s2 {w0 : World} {B : Nat} {s : ByteArray} {n : Nat} {r : RV} {w : World} (h : QAt w0 B s n r w) (b : Int) (r1 : RV) (hb : 0 ≤ b ∧ b < 256) (g1 : Got pOne r r1 b) (he1 : r1.e = 0)
    (c1 : ∀ w, QAt w0 B s n r w → Calls Tryz.prog 53 #[.pointer (some ⟨B, 0, none⟩)] w fun e w' => e = .returned (.int .i64 b) ∧ QAt w0 B s n r1 w' ∧ Mov B B w w') (rc : Int) (rn rp rr : ByteArray) (hR : byCode b = some ⟨rc, rn, 2, rp, rr⟩) :
    Calls Tryz.prog 63 #[.pointer (some ⟨B, 0, none⟩)] w (DidQ w0 B s n r w pIns InsV.bare InsV.val InsNew) := by
  have hb0 := hb.1
  have hb1 := hb.2
  have hlt := in_heap6 h.box
  have hw0 := h.below.size
  have n1 : w.heap.size ≠ B := by omega
  have ha := h.alloc (.cells #[.int .i64 0, .int .i64 0, .int .i64 0, .slice none 0 0] 46)
  have hres := heap_alloc_new w (.cells #[.int .i64 0, .int .i64 0, .int .i64 0, .slice none 0 0] 46)
  clear h
  have h6 := byCode_6 hR
  have hf : isFloat b = false := h6.1
  have h17 : ¬ b = 17 := h6.2.1
  have cf := ref_float b
  rw [hf] at cf
  have hq17 : (b == 17) = false := beq_eq_false_iff_ne.2 h17
  have co := fun W => ref_of b W
  rw [hR] at co
  rw [show infoVal (some ⟨rc, rn, 2, rp, rr⟩) = .agg #[.string rn, .int .i64 2, .string rp, .string rr] from rfl, show (some (⟨rc, rn, 2, rp, rr⟩ : Rw)).isSome = true from rfl] at co
  have hgo : ∀ (r2 : RV) (x : InsV), Got (pTail 2 b) r1 r2 x → Got pIns r r2 x := fun r2 x hg => g1.and (by rw [if_neg (by rw [hf]; simp; exact h17), hR]; exact hg)
  clear h6 hR h17 g1
  go_enter Tryz.func63, Tryz.ntmps63
  go_wp2_with fail
  refine (c1 _ ha).mono ?_
  rintro e w1 ⟨rfl, h1, m1⟩
  have mm1 := ((Mov.refl B B w).alloc (.cells #[.int .i64 0, .int .i64 0, .int .i64 0, .slice none 0 0] 46)).trans m1
  have hr1 := (m1.block w.heap.size (by simp) n1 n1).trans hres
  obtain ⟨x0, x1, x2, x3, y0, y1, y2, y3⟩ := h1.reads
  obtain ⟨_, _, _, _, t0, t1, t2, t3, f0, f1, f2, f3⟩ := box_at hr1
  have hls := in_heap6 hr1
  clear c1 ha hres m1
  rw [he1] at x3
  go_wp2_with (first
    | (go_at_call 154; (with_reducible refine (cf _).mono ?_); rintro e w2 ⟨rfl, rfl⟩)
    | (go_at_call 119; (with_reducible refine (co _).mono ?_); rintro e w3 ⟨rfl, hb3⟩; have S := QSt.start h1 mm1 hr1 hlt hw0 hb3 (.cells #[.string rn, .int .i64 2, .string rp, .string rr] 182) b; clear x0 x1 x2 x3 y0 y1 y2 y3 t0 t1 t2 t3 f0 f1 f2 f3 hr1 h1 mm1 co cf; obtain ⟨⟨t0, t1, t2, t3, f0, f1, f2, f3⟩, e0, e1, e2, e3, z0, z1, z2, z3, nb, hlW⟩ := S.facts; obtain ⟨x0, x1, x2, x3, y0, y1, y2, y3⟩ := S.rd.reads; rw [he1] at x3))
  refine (q_number S.rd).mono ?_
  rintro e w4 ⟨k, r4, rfl, g4, h4, m4, k0, k1⟩
  have S4 := S.call m4 h4
  clear x0 x1 x2 x3 y0 y1 y2 y3 t0 t1 t2 t3 f0 f1 f2 f3 e0 e1 e2 e3 z0 z1 z2 z3 nb hlW
  obtain ⟨⟨t0, t1, t2, t3, f0, f1, f2, f3⟩, e0, e1, e2, e3, z0, z1, z2, z3, nb, hlW⟩ := S4.facts
  obtain ⟨x0, x1, x2, x3, y0, y1, y2, y3⟩ := S4.rd.reads
  dsimp only [valInt6]
  go_wp2
  refine bodyPost_ret (v := .agg #[.int .i64 b, .int .i64 k, .int .i64 0, .slice none 0 0]) ?_ rfl ?_
  · rw [results_one_cell rfl]; go_simp
  · have hl := (S4.set (.int .i64 k)).1.done (.int .i64 b) (.int .i64 k) (.int .i64 0) (.slice none 0 0)
    exact ⟨bareI b k 0 [], _, rfl, hgo _ _ (g4.map fun a => bareI b a 0 []), hl.1, hl.2, insNew_nil _ _ _ _ _ (by unfold inI64; omega) (by unfold inI64; omega) (by unfold inI64; omega)⟩
set_option maxRecDepth 100000 in
set_option maxHeartbeats 8000000 in
theorem q_ins_s4 {w0 : World} {B : Nat} {s : ByteArray} {n : Nat} {r : RV} {w : World} (h : QAt w0 B s n r w) (b : Int) (r1 : RV) (hb : 0 ≤ b ∧ b < 256) (g1 : Got pOne r r1 b) (he1 : r1.e = 0)
    (c1 : ∀ w, QAt w0 B s n r w → Calls Tryz.prog 53 #[.pointer (some ⟨B, 0, none⟩)] w fun e w' => e = .returned (.int .i64 b) ∧ QAt w0 B s n r1 w' ∧ Mov B B w w') (rc : Int) (rn rp rr : ByteArray) (hR : byCode b = some ⟨rc, rn, 4, rp, rr⟩) :
    Calls Tryz.prog 63 #[.pointer (some ⟨B, 0, none⟩)] w (DidQ w0 B s n r w pIns InsV.bare InsV.val InsNew) := by
  have hb0 := hb.1
  have hb1 := hb.2
  have hlt := in_heap6 h.box
  have hw0 := h.below.size
  have n1 : w.heap.size ≠ B := by omega
  have ha := h.alloc (.cells #[.int .i64 0, .int .i64 0, .int .i64 0, .slice none 0 0] 46)
  have hres := heap_alloc_new w (.cells #[.int .i64 0, .int .i64 0, .int .i64 0, .slice none 0 0] 46)
  clear h
  have h6 := byCode_6 hR
  have hf : isFloat b = false := h6.1
  have h17 : ¬ b = 17 := h6.2.1
  have cf := ref_float b
  rw [hf] at cf
  have hq17 : (b == 17) = false := beq_eq_false_iff_ne.2 h17
  have co := fun W => ref_of b W
  rw [hR] at co
  rw [show infoVal (some ⟨rc, rn, 4, rp, rr⟩) = .agg #[.string rn, .int .i64 4, .string rp, .string rr] from rfl, show (some (⟨rc, rn, 4, rp, rr⟩ : Rw)).isSome = true from rfl] at co
  have hgo : ∀ (r2 : RV) (x : InsV), Got (pTail 4 b) r1 r2 x → Got pIns r r2 x := fun r2 x hg => g1.and (by rw [if_neg (by rw [hf]; simp; exact h17), hR]; exact hg)
  clear h6 hR h17 g1
  go_enter Tryz.func63, Tryz.ntmps63
  go_wp2_with fail
  refine (c1 _ ha).mono ?_
  rintro e w1 ⟨rfl, h1, m1⟩
  have mm1 := ((Mov.refl B B w).alloc (.cells #[.int .i64 0, .int .i64 0, .int .i64 0, .slice none 0 0] 46)).trans m1
  have hr1 := (m1.block w.heap.size (by simp) n1 n1).trans hres
  obtain ⟨x0, x1, x2, x3, y0, y1, y2, y3⟩ := h1.reads
  obtain ⟨_, _, _, _, t0, t1, t2, t3, f0, f1, f2, f3⟩ := box_at hr1
  have hls := in_heap6 hr1
  clear c1 ha hres m1
  rw [he1] at x3
  go_wp2_with (first
    | (go_at_call 154; (with_reducible refine (cf _).mono ?_); rintro e w2 ⟨rfl, rfl⟩)
    | (go_at_call 119; (with_reducible refine (co _).mono ?_); rintro e w3 ⟨rfl, hb3⟩; have S := QSt.start h1 mm1 hr1 hlt hw0 hb3 (.cells #[.string rn, .int .i64 4, .string rp, .string rr] 182) b; clear x0 x1 x2 x3 y0 y1 y2 y3 t0 t1 t2 t3 f0 f1 f2 f3 hr1 h1 mm1 co cf; obtain ⟨⟨t0, t1, t2, t3, f0, f1, f2, f3⟩, e0, e1, e2, e3, z0, z1, z2, z3, nb, hlW⟩ := S.facts; obtain ⟨x0, x1, x2, x3, y0, y1, y2, y3⟩ := S.rd.reads; rw [he1] at x3))
  refine (q_number S.rd).mono ?_
  rintro e w4 ⟨k, r4, rfl, g4, h4, m4, k0, k1⟩
  have S4 := S.call m4 h4
  clear x0 x1 x2 x3 y0 y1 y2 y3 t0 t1 t2 t3 f0 f1 f2 f3 e0 e1 e2 e3 z0 z1 z2 z3 nb hlW
  obtain ⟨⟨t0, t1, t2, t3, f0, f1, f2, f3⟩, e0, e1, e2, e3, z0, z1, z2, z3, nb, hlW⟩ := S4.facts
  obtain ⟨x0, x1, x2, x3, y0, y1, y2, y3⟩ := S4.rd.reads
  dsimp only [valInt6]
  go_wp2
  refine bodyPost_ret (v := .agg #[.int .i64 b, .int .i64 k, .int .i64 0, .slice none 0 0]) ?_ rfl ?_
  · rw [results_one_cell rfl]; go_simp
  · have hl := (S4.set (.int .i64 k)).1.done (.int .i64 b) (.int .i64 k) (.int .i64 0) (.slice none 0 0)
    exact ⟨bareI b k 0 [], _, rfl, hgo _ _ (g4.map fun a => bareI b a 0 []), hl.1, hl.2, insNew_nil _ _ _ _ _ (by unfold inI64; omega) (by unfold inI64; omega) (by unfold inI64; omega)⟩
set_option maxRecDepth 100000 in
set_option maxHeartbeats 8000000 in
theorem q_ins_s5 {w0 : World} {B : Nat} {s : ByteArray} {n : Nat} {r : RV} {w : World} (h : QAt w0 B s n r w) (b : Int) (r1 : RV) (hb : 0 ≤ b ∧ b < 256) (g1 : Got pOne r r1 b) (he1 : r1.e = 0)
    (c1 : ∀ w, QAt w0 B s n r w → Calls Tryz.prog 53 #[.pointer (some ⟨B, 0, none⟩)] w fun e w' => e = .returned (.int .i64 b) ∧ QAt w0 B s n r1 w' ∧ Mov B B w w') (rc : Int) (rn rp rr : ByteArray) (hR : byCode b = some ⟨rc, rn, 5, rp, rr⟩) :
    Calls Tryz.prog 63 #[.pointer (some ⟨B, 0, none⟩)] w (DidQ w0 B s n r w pIns InsV.bare InsV.val InsNew) := by
  have hb0 := hb.1
  have hb1 := hb.2
  have hlt := in_heap6 h.box
  have hw0 := h.below.size
  have n1 : w.heap.size ≠ B := by omega
  have ha := h.alloc (.cells #[.int .i64 0, .int .i64 0, .int .i64 0, .slice none 0 0] 46)
  have hres := heap_alloc_new w (.cells #[.int .i64 0, .int .i64 0, .int .i64 0, .slice none 0 0] 46)
  clear h
  have h6 := byCode_6 hR
  have hf : isFloat b = false := h6.1
  have h17 : ¬ b = 17 := h6.2.1
  have cf := ref_float b
  rw [hf] at cf
  have hq17 : (b == 17) = false := beq_eq_false_iff_ne.2 h17
  have co := fun W => ref_of b W
  rw [hR] at co
  rw [show infoVal (some ⟨rc, rn, 5, rp, rr⟩) = .agg #[.string rn, .int .i64 5, .string rp, .string rr] from rfl, show (some (⟨rc, rn, 5, rp, rr⟩ : Rw)).isSome = true from rfl] at co
  have hgo : ∀ (r2 : RV) (x : InsV), Got (pTail 5 b) r1 r2 x → Got pIns r r2 x := fun r2 x hg => g1.and (by rw [if_neg (by rw [hf]; simp; exact h17), hR]; exact hg)
  clear h6 hR h17 g1
  go_enter Tryz.func63, Tryz.ntmps63
  go_wp2_with fail
  refine (c1 _ ha).mono ?_
  rintro e w1 ⟨rfl, h1, m1⟩
  have mm1 := ((Mov.refl B B w).alloc (.cells #[.int .i64 0, .int .i64 0, .int .i64 0, .slice none 0 0] 46)).trans m1
  have hr1 := (m1.block w.heap.size (by simp) n1 n1).trans hres
  obtain ⟨x0, x1, x2, x3, y0, y1, y2, y3⟩ := h1.reads
  obtain ⟨_, _, _, _, t0, t1, t2, t3, f0, f1, f2, f3⟩ := box_at hr1
  have hls := in_heap6 hr1
  clear c1 ha hres m1
  rw [he1] at x3
  go_wp2_with (first
    | (go_at_call 154; (with_reducible refine (cf _).mono ?_); rintro e w2 ⟨rfl, rfl⟩)
    | (go_at_call 119; (with_reducible refine (co _).mono ?_); rintro e w3 ⟨rfl, hb3⟩; have S := QSt.start h1 mm1 hr1 hlt hw0 hb3 (.cells #[.string rn, .int .i64 5, .string rp, .string rr] 182) b; clear x0 x1 x2 x3 y0 y1 y2 y3 t0 t1 t2 t3 f0 f1 f2 f3 hr1 h1 mm1 co cf; obtain ⟨⟨t0, t1, t2, t3, f0, f1, f2, f3⟩, e0, e1, e2, e3, z0, z1, z2, z3, nb, hlW⟩ := S.facts; obtain ⟨x0, x1, x2, x3, y0, y1, y2, y3⟩ := S.rd.reads; rw [he1] at x3))
  refine (q_number S.rd).mono ?_
  rintro e w4 ⟨k, r4, rfl, g4, h4, m4, k0, k1⟩
  have S4 := S.call m4 h4
  clear x0 x1 x2 x3 y0 y1 y2 y3 t0 t1 t2 t3 f0 f1 f2 f3 e0 e1 e2 e3 z0 z1 z2 z3 nb hlW
  obtain ⟨⟨t0, t1, t2, t3, f0, f1, f2, f3⟩, e0, e1, e2, e3, z0, z1, z2, z3, nb, hlW⟩ := S4.facts
  obtain ⟨x0, x1, x2, x3, y0, y1, y2, y3⟩ := S4.rd.reads
  have S5 := (S4.set (.int .i64 k)).1
  dsimp only [valInt6]
  go_wp2_with fail
  generalize w4.setCell ⟨w3.heap.size + 1, 1, none⟩ (.int .i64 k) = W5 at *
  refine (q_number S5.rd).mono ?_
  rintro e w6 ⟨j, r6, rfl, g6, h6, m6, j0, j1⟩
  have S6 := S5.call m6 h6
  clear x0 x1 x2 x3 y0 y1 y2 y3 t0 t1 t2 t3 f0 f1 f2 f3 e0 e1 e2 e3 z0 z1 z2 z3 nb hlW
  obtain ⟨⟨t0, t1, t2, t3, f0, f1, f2, f3⟩, e0, e1, e2, e3, z0, z1, z2, z3, nb, hlW⟩ := S6.facts
  obtain ⟨x0, x1, x2, x3, y0, y1, y2, y3⟩ := S6.rd.reads
  dsimp only [valInt6]
  go_wp2
  refine bodyPost_ret (v := .agg #[.int .i64 b, .int .i64 k, .int .i64 j, .slice none 0 0]) ?_ rfl ?_
  · rw [results_one_cell rfl]; go_simp
  · have hl := (S6.set (.int .i64 j)).2.1.done (.int .i64 b) (.int .i64 k) (.int .i64 j) (.slice none 0 0)
    exact ⟨bareI b k j [], _, rfl, hgo _ _ (g4.and (g6.map fun c => bareI b k c [])), hl.1, hl.2, insNew_nil _ _ _ _ _ (by unfold inI64; omega) (by unfold inI64; omega) (by unfold inI64; omega)⟩
set_option maxRecDepth 100000 in
set_option maxHeartbeats 8000000 in
theorem q_ins_s7 {w0 : World} {B : Nat} {s : ByteArray} {n : Nat} {r : RV} {w : World} (h : QAt w0 B s n r w) (b : Int) (r1 : RV) (hb : 0 ≤ b ∧ b < 256) (g1 : Got pOne r r1 b) (he1 : r1.e = 0)
    (c1 : ∀ w, QAt w0 B s n r w → Calls Tryz.prog 53 #[.pointer (some ⟨B, 0, none⟩)] w fun e w' => e = .returned (.int .i64 b) ∧ QAt w0 B s n r1 w' ∧ Mov B B w w') (rc : Int) (rn rp rr : ByteArray) (hR : byCode b = some ⟨rc, rn, 7, rp, rr⟩) :
    Calls Tryz.prog 63 #[.pointer (some ⟨B, 0, none⟩)] w (DidQ w0 B s n r w pIns InsV.bare InsV.val InsNew) := by
  have hb0 := hb.1
  have hb1 := hb.2
  have hlt := in_heap6 h.box
  have hw0 := h.below.size
  have n1 : w.heap.size ≠ B := by omega
  have ha := h.alloc (.cells #[.int .i64 0, .int .i64 0, .int .i64 0, .slice none 0 0] 46)
  have hres := heap_alloc_new w (.cells #[.int .i64 0, .int .i64 0, .int .i64 0, .slice none 0 0] 46)
  clear h
  have h6 := byCode_6 hR
  have hf : isFloat b = false := h6.1
  have h17 : ¬ b = 17 := h6.2.1
  have cf := ref_float b
  rw [hf] at cf
  have hq17 : (b == 17) = false := beq_eq_false_iff_ne.2 h17
  have co := fun W => ref_of b W
  rw [hR] at co
  rw [show infoVal (some ⟨rc, rn, 7, rp, rr⟩) = .agg #[.string rn, .int .i64 7, .string rp, .string rr] from rfl, show (some (⟨rc, rn, 7, rp, rr⟩ : Rw)).isSome = true from rfl] at co
  have hgo : ∀ (r2 : RV) (x : InsV), Got (pTail 7 b) r1 r2 x → Got pIns r r2 x := fun r2 x hg => g1.and (by rw [if_neg (by rw [hf]; simp; exact h17), hR]; exact hg)
  have h67 := h6.2.2.1 rfl
  obtain ⟨lg, hlg⟩ : ∃ lg, (b == 66) = lg := ⟨_, rfl⟩
  have hps : pSig lg = pSigned b := by rw [← hlg]; rcases h67 with rfl | rfl <;> simp [pSig, pSigned]
  have HPS := Lib.hid hps
  clear hps h67
  clear h6 hR h17 g1
  go_enter Tryz.func63, Tryz.ntmps63
  go_wp2_with fail
  refine (c1 _ ha).mono ?_
  rintro e w1 ⟨rfl, h1, m1⟩
  have mm1 := ((Mov.refl B B w).alloc (.cells #[.int .i64 0, .int .i64 0, .int .i64 0, .slice none 0 0] 46)).trans m1
  have hr1 := (m1.block w.heap.size (by simp) n1 n1).trans hres
  obtain ⟨x0, x1, x2, x3, y0, y1, y2, y3⟩ := h1.reads
  obtain ⟨_, _, _, _, t0, t1, t2, t3, f0, f1, f2, f3⟩ := box_at hr1
  have hls := in_heap6 hr1
  clear c1 ha hres m1
  rw [he1] at x3
  go_wp2_with (first
    | (go_at_call 154; (with_reducible refine (cf _).mono ?_); rintro e w2 ⟨rfl, rfl⟩)
    | (go_at_call 119; (with_reducible refine (co _).mono ?_); rintro e w3 ⟨rfl, hb3⟩; have S := QSt.start h1 mm1 hr1 hlt hw0 hb3 (.cells #[.string rn, .int .i64 7, .string rp, .string rr] 182) b; clear x0 x1 x2 x3 y0 y1 y2 y3 t0 t1 t2 t3 f0 f1 f2 f3 hr1 h1 mm1 co cf; obtain ⟨⟨t0, t1, t2, t3, f0, f1, f2, f3⟩, e0, e1, e2, e3, z0, z1, z2, z3, nb, hlW⟩ := S.facts; obtain ⟨x0, x1, x2, x3, y0, y1, y2, y3⟩ := S.rd.reads; rw [he1] at x3))
  refine (q_signed S.rd lg).mono ?_
  rintro e w4 ⟨k, r4, rfl, g4, h4, m4, k0⟩
  have S4 := S.call m4 h4
  clear x0 x1 x2 x3 y0 y1 y2 y3 t0 t1 t2 t3 f0 f1 f2 f3 e0 e1 e2 e3 z0 z1 z2 z3 nb hlW
  obtain ⟨⟨t0, t1, t2, t3, f0, f1, f2, f3⟩, e0, e1, e2, e3, z0, z1, z2, z3, nb, hlW⟩ := S4.facts
  obtain ⟨x0, x1, x2, x3, y0, y1, y2, y3⟩ := S4.rd.reads
  dsimp only [valInt6]
  have K0 := Lib.hid k0
  clear k0
  go_wp2
  refine bodyPost_ret (v := .agg #[.int .i64 b, .int .i64 k, .int .i64 0, .slice none 0 0]) ?_ rfl ?_
  · rw [results_one_cell rfl]; go_simp
  · have hl := ((S4.set (.int .i64 k)).1).done (.int .i64 b) (.int .i64 k) (.int .i64 0) (.slice none 0 0)
    exact ⟨bareI b k 0 [], _, rfl, hgo _ _ (by rw [HPS.out] at g4; exact g4.map fun a => bareI b a 0 []), hl.1, hl.2, insNew_nil _ _ _ _ _ (by unfold inI64; omega) K0.out (by unfold inI64; omega)⟩
set_option maxRecDepth 100000 in
set_option maxHeartbeats 8000000 in
theorem q_ins_s6 {w0 : World} {B : Nat} {s : ByteArray} {n : Nat} {r : RV} {w : World} (h : QAt w0 B s n r w) (b : Int) (r1 : RV) (hb : 0 ≤ b ∧ b < 256) (g1 : Got pOne r r1 b) (he1 : r1.e = 0)
    (c1 : ∀ w, QAt w0 B s n r w → Calls Tryz.prog 53 #[.pointer (some ⟨B, 0, none⟩)] w fun e w' => e = .returned (.int .i64 b) ∧ QAt w0 B s n r1 w' ∧ Mov B B w w') (rc : Int) (rn rp rr : ByteArray) (hR : byCode b = some ⟨rc, rn, 6, rp, rr⟩) :
    Calls Tryz.prog 63 #[.pointer (some ⟨B, 0, none⟩)] w (DidQ w0 B s n r w pIns InsV.bare InsV.val InsNew) := by
  have hb0 := hb.1
  have hb1 := hb.2
  have hlt := in_heap6 h.box
  have hw0 := h.below.size
  have n1 : w.heap.size ≠ B := by omega
  have ha := h.alloc (.cells #[.int .i64 0, .int .i64 0, .int .i64 0, .slice none 0 0] 46)
  have hres := heap_alloc_new w (.cells #[.int .i64 0, .int .i64 0, .int .i64 0, .slice none 0 0] 46)
  clear h
  have h6 := byCode_6 hR
  have hf : isFloat b = false := h6.1
  have h17 : ¬ b = 17 := h6.2.1
  have cf := ref_float b
  rw [hf] at cf
  have hq17 : (b == 17) = false := beq_eq_false_iff_ne.2 h17
  have co := fun W => ref_of b W
  rw [hR] at co
  rw [show infoVal (some ⟨rc, rn, 6, rp, rr⟩) = .agg #[.string rn, .int .i64 6, .string rp, .string rr] from rfl, show (some (⟨rc, rn, 6, rp, rr⟩ : Rw)).isSome = true from rfl] at co
  have hgo : ∀ (r2 : RV) (x : InsV), Got (pTail 6 b) r1 r2 x → Got pIns r r2 x := fun r2 x hg => g1.and (by rw [if_neg (by rw [hf]; simp; exact h17), hR]; exact hg)
  clear h6 hR h17 g1
  go_enter Tryz.func63, Tryz.ntmps63
  go_wp2_with fail
  refine (c1 _ ha).mono ?_
  rintro e w1 ⟨rfl, h1, m1⟩
  have mm1 := ((Mov.refl B B w).alloc (.cells #[.int .i64 0, .int .i64 0, .int .i64 0, .slice none 0 0] 46)).trans m1
  have hr1 := (m1.block w.heap.size (by simp) n1 n1).trans hres
  obtain ⟨x0, x1, x2, x3, y0, y1, y2, y3⟩ := h1.reads
  obtain ⟨_, _, _, _, t0, t1, t2, t3, f0, f1, f2, f3⟩ := box_at hr1
  have hls := in_heap6 hr1
  clear c1 ha hres m1
  rw [he1] at x3
  go_wp2_with (first
    | (go_at_call 154; (with_reducible refine (cf _).mono ?_); rintro e w2 ⟨rfl, rfl⟩)
    | (go_at_call 119; (with_reducible refine (co _).mono ?_); rintro e w3 ⟨rfl, hb3⟩; have S := QSt.start h1 mm1 hr1 hlt hw0 hb3 (.cells #[.string rn, .int .i64 6, .string rp, .string rr] 182) b; clear x0 x1 x2 x3 y0 y1 y2 y3 t0 t1 t2 t3 f0 f1 f2 f3 hr1 h1 mm1 co cf; obtain ⟨⟨t0, t1, t2, t3, f0, f1, f2, f3⟩, e0, e1, e2, e3, z0, z1, z2, z3, nb, hlW⟩ := S.facts; obtain ⟨x0, x1, x2, x3, y0, y1, y2, y3⟩ := S.rd.reads; rw [he1] at x3))
  obtain ⟨k, r4, k0, k1, g4, k2, c4⟩ := q_det S.rd
  refine (c4 _ S.rd).mono ?_
  rintro e w4 ⟨rfl, h4, m4⟩
  have S4 := S.call m4 h4
  clear c4
  clear x0 x1 x2 x3 y0 y1 y2 y3 t0 t1 t2 t3 f0 f1 f2 f3 e0 e1 e2 e3 z0 z1 z2 z3 nb hlW
  obtain ⟨⟨t0, t1, t2, t3, f0, f1, f2, f3⟩, e0, e1, e2, e3, z0, z1, z2, z3, nb, hlW⟩ := S4.facts
  obtain ⟨x0, x1, x2, x3, y0, y1, y2, y3⟩ := S4.rd.reads
  by_cases hk : k = 0
  · subst hk
    go_wp2
    refine bodyPost_ret (v := .agg #[.int .i64 b, .int .i64 0, .int .i64 0, .slice none 0 0]) ?_ rfl ?_
    · rw [results_one_cell rfl]; go_simp
    · have hl := S4.done (.int .i64 b) (.int .i64 0) (.int .i64 0) (.slice none 0 0)
      exact ⟨bareI b 0 0 [], _, rfl, hgo _ _ ((g4.and (f := fun c => if c = 0 then Pr.val () else .no 2) (by rw [if_pos rfl]; exact Got.val () _)).map fun _ => bareI b 0 0 []), hl.1, hl.2, insNew_nil _ _ _ _ _ (by unfold inI64; omega) (by unfold inI64; omega) (by unfold inI64; omega)⟩
  · have hq : (k != 0) = true := by simpa using hk
    have HK := Lib.hid hk
    clear hk
    go_wp2_with fail
    refine (q_fails S4.rd 2).mono ?_
    rintro e w5 ⟨rfl, h5, m5⟩
    have S5 := S4.call m5 h5
    clear x0 x1 x2 x3 y0 y1 y2 y3 t0 t1 t2 t3 f0 f1 f2 f3 e0 e1 e2 e3 z0 z1 z2 z3 nb hlW
    obtain ⟨⟨t0, t1, t2, t3, f0, f1, f2, f3⟩, e0, e1, e2, e3, z0, z1, z2, z3, nb, hlW⟩ := S5.facts
    obtain ⟨x0, x1, x2, x3, y0, y1, y2, y3⟩ := S5.rd.reads
    go_wp2
    refine bodyPost_ret (v := .agg #[.int .i64 b, .int .i64 0, .int .i64 0, .slice none 0 0]) ?_ rfl ?_
    · rw [results_one_cell rfl]; go_simp
    · have hl := S5.done (.int .i64 b) (.int .i64 0) (.int .i64 0) (.slice none 0 0)
      exact ⟨bareI b 0 0 [], _, rfl, hgo _ _ ((g4.and (f := fun c => if c = 0 then Pr.val () else .no 2) (by rw [if_neg (by simpa using HK.out)]; exact Got.no (by decide) () _)).map fun _ => bareI b 0 0 []), hl.1, hl.2, insNew_nil _ _ _ _ _ (by unfold inI64; omega) (by unfold inI64; omega) (by unfold inI64; omega)⟩
set_option maxRecDepth 100000 in
set_option maxHeartbeats 8000000 in
theorem q_ins_s1_64 {w0 : World} {B : Nat} {s : ByteArray} {n : Nat} {r : RV} {w : World} (h : QAt w0 B s n r w) (b : Int) (r1 : RV) (hb : 0 ≤ b ∧ b < 256) (g1 : Got pOne r r1 b) (he1 : r1.e = 0)
    (c1 : ∀ w, QAt w0 B s n r w → Calls Tryz.prog 53 #[.pointer (some ⟨B, 0, none⟩)] w fun e w' => e = .returned (.int .i64 b) ∧ QAt w0 B s n r1 w' ∧ Mov B B w w') (rc : Int) (rn rp rr : ByteArray) (hR : byCode b = some ⟨rc, rn, 1, rp, rr⟩) (k : Int) (r4 : RV) (k0 : 0 ≤ k) (k1 : k < 256) (g4 : Got pOne r1 r4 k) (c4 : ∀ w, QAt w0 B s n r1 w → Calls Tryz.prog 53 #[.pointer (some ⟨B, 0, none⟩)] w fun e w' => e = .returned (.int .i64 k) ∧ QAt w0 B s n r4 w' ∧ Mov B B w w') (he4 : r4.e = 0) (hk : k = 64) :
    Calls Tryz.prog 63 #[.pointer (some ⟨B, 0, none⟩)] w (DidQ w0 B s n r w pIns InsV.bare InsV.val InsNew) := by
  have hb0 := hb.1
  have hb1 := hb.2
  have hlt := in_heap6 h.box
  have hw0 := h.below.size
  have n1 : w.heap.size ≠ B := by omega
  have ha := h.alloc (.cells #[.int .i64 0, .int .i64 0, .int .i64 0, .slice none 0 0] 46)
  have hres := heap_alloc_new w (.cells #[.int .i64 0, .int .i64 0, .int .i64 0, .slice none 0 0] 46)
  clear h
  have h6 := byCode_6 hR
  have hf : isFloat b = false := h6.1
  have h17 : ¬ b = 17 := h6.2.1
  have cf := ref_float b
  rw [hf] at cf
  have hq17 : (b == 17) = false := beq_eq_false_iff_ne.2 h17
  have co := fun W => ref_of b W
  rw [hR] at co
  rw [show infoVal (some ⟨rc, rn, 1, rp, rr⟩) = .agg #[.string rn, .int .i64 1, .string rp, .string rr] from rfl, show (some (⟨rc, rn, 1, rp, rr⟩ : Rw)).isSome = true from rfl] at co
  have hgo : ∀ (r2 : RV) (x : InsV), Got (pTail 1 b) r1 r2 x → Got pIns r r2 x := fun r2 x hg => g1.and (by rw [if_neg (by rw [hf]; simp; exact h17), hR]; exact hg)
  clear h6 hR h17 g1
  go_enter Tryz.func63, Tryz.ntmps63
  go_wp2_with fail
  refine (c1 _ ha).mono ?_
  rintro e w1 ⟨rfl, h1, m1⟩
  have mm1 := ((Mov.refl B B w).alloc (.cells #[.int .i64 0, .int .i64 0, .int .i64 0, .slice none 0 0] 46)).trans m1
  have hr1 := (m1.block w.heap.size (by simp) n1 n1).trans hres
  obtain ⟨x0, x1, x2, x3, y0, y1, y2, y3⟩ := h1.reads
  obtain ⟨_, _, _, _, t0, t1, t2, t3, f0, f1, f2, f3⟩ := box_at hr1
  have hls := in_heap6 hr1
  clear c1 ha hres m1
  rw [he1] at x3
  go_wp2_with (first
    | (go_at_call 154; (with_reducible refine (cf _).mono ?_); rintro e w2 ⟨rfl, rfl⟩)
    | (go_at_call 119; (with_reducible refine (co _).mono ?_); rintro e w3 ⟨rfl, hb3⟩; have S := QSt.start h1 mm1 hr1 hlt hw0 hb3 (.cells #[.string rn, .int .i64 1, .string rp, .string rr] 182) b; clear x0 x1 x2 x3 y0 y1 y2 y3 t0 t1 t2 t3 f0 f1 f2 f3 hr1 h1 mm1 co cf; obtain ⟨⟨t0, t1, t2, t3, f0, f1, f2, f3⟩, e0, e1, e2, e3, z0, z1, z2, z3, nb, hlW⟩ := S.facts; obtain ⟨x0, x1, x2, x3, y0, y1, y2, y3⟩ := S.rd.reads; rw [he1] at x3))
  subst hk
  refine (c4 _ S.rd).mono ?_
  rintro e w4 ⟨rfl, h4, m4⟩
  have S4 := S.call m4 h4
  clear c4
  clear x0 x1 x2 x3 y0 y1 y2 y3 t0 t1 t2 t3 f0 f1 f2 f3 e0 e1 e2 e3 z0 z1 z2 z3 nb hlW
  obtain ⟨⟨t0, t1, t2, t3, f0, f1, f2, f3⟩, e0, e1, e2, e3, z0, z1, z2, z3, nb, hlW⟩ := S4.facts
  obtain ⟨x0, x1, x2, x3, y0, y1, y2, y3⟩ := S4.rd.reads
  rw [he4] at x3
  have HE := Lib.hid he4
  clear he4
  go_wp2
  refine bodyPost_ret (v := .agg #[.int .i64 b, .int .i64 64, .int .i64 0, .slice none 0 0]) ?_ rfl ?_
  · rw [results_one_cell rfl]; go_simp
  · have hl := ((S4.set (.int .i64 64)).1).done (.int .i64 b) (.int .i64 64) (.int .i64 0) (.slice none 0 0)
    exact ⟨bareI b 64 0 [], _, rfl, hgo _ _ (got_tail1 (g4.and (f := fun k => if k = 64 then Pr.val k else (pKind k).and fun _ => Pr.val k) (by first | exact Got.val _ _ | (rw [if_pos rfl]; exact Got.val _ _) | (rw [if_neg (by decide)]; exact Got.and (p := pKind 64) (x := 64) (by unfold pKind; rw [if_pos (by decide)]; exact Got.val _ _) (Got.val _ _))))), hl.1, hl.2, insNew_nil _ _ _ _ _ (by unfold inI64; omega) (by unfold inI64; omega) (by unfold inI64; omega)⟩
set_option maxRecDepth 100000 in
set_option maxHeartbeats 8000000 in
theorem q_ins_s1_127 {w0 : World} {B : Nat} {s : ByteArray} {n : Nat} {r : RV} {w : World} (h : QAt w0 B s n r w) (b : Int) (r1 : RV) (hb : 0 ≤ b ∧ b < 256) (g1 : Got pOne r r1 b) (he1 : r1.e = 0)
    (c1 : ∀ w, QAt w0 B s n r w → Calls Tryz.prog 53 #[.pointer (some ⟨B, 0, none⟩)] w fun e w' => e = .returned (.int .i64 b) ∧ QAt w0 B s n r1 w' ∧ Mov B B w w') (rc : Int) (rn rp rr : ByteArray) (hR : byCode b = some ⟨rc, rn, 1, rp, rr⟩) (k : Int) (r4 : RV) (k0 : 0 ≤ k) (k1 : k < 256) (g4 : Got pOne r1 r4 k) (c4 : ∀ w, QAt w0 B s n r1 w → Calls Tryz.prog 53 #[.pointer (some ⟨B, 0, none⟩)] w fun e w' => e = .returned (.int .i64 k) ∧ QAt w0 B s n r4 w' ∧ Mov B B w w') (he4 : r4.e = 0) (hk : k = 127) :
    Calls Tryz.prog 63 #[.pointer (some ⟨B, 0, none⟩)] w (DidQ w0 B s n r w pIns InsV.bare InsV.val InsNew) := by
  have hb0 := hb.1
  have hb1 := hb.2
  have hlt := in_heap6 h.box
  have hw0 := h.below.size
  have n1 : w.heap.size ≠ B := by omega
  have ha := h.alloc (.cells #[.int .i64 0, .int .i64 0, .int .i64 0, .slice none 0 0] 46)
  have hres := heap_alloc_new w (.cells #[.int .i64 0, .int .i64 0, .int .i64 0, .slice none 0 0] 46)
  clear h
  have h6 := byCode_6 hR
  have hf : isFloat b = false := h6.1
  have h17 : ¬ b = 17 := h6.2.1
  have cf := ref_float b
  rw [hf] at cf
  have hq17 : (b == 17) = false := beq_eq_false_iff_ne.2 h17
  have co := fun W => ref_of b W
  rw [hR] at co
  rw [show infoVal (some ⟨rc, rn, 1, rp, rr⟩) = .agg #[.string rn, .int .i64 1, .string rp, .string rr] from rfl, show (some (⟨rc, rn, 1, rp, rr⟩ : Rw)).isSome = true from rfl] at co
  have hgo : ∀ (r2 : RV) (x : InsV), Got (pTail 1 b) r1 r2 x → Got pIns r r2 x := fun r2 x hg => g1.and (by rw [if_neg (by rw [hf]; simp; exact h17), hR]; exact hg)
  clear h6 hR h17 g1
  go_enter Tryz.func63, Tryz.ntmps63
  go_wp2_with fail
  refine (c1 _ ha).mono ?_
  rintro e w1 ⟨rfl, h1, m1⟩
  have mm1 := ((Mov.refl B B w).alloc (.cells #[.int .i64 0, .int .i64 0, .int .i64 0, .slice none 0 0] 46)).trans m1
  have hr1 := (m1.block w.heap.size (by simp) n1 n1).trans hres
  obtain ⟨x0, x1, x2, x3, y0, y1, y2, y3⟩ := h1.reads
  obtain ⟨_, _, _, _, t0, t1, t2, t3, f0, f1, f2, f3⟩ := box_at hr1
  have hls := in_heap6 hr1
  clear c1 ha hres m1
  rw [he1] at x3
  go_wp2_with (first
    | (go_at_call 154; (with_reducible refine (cf _).mono ?_); rintro e w2 ⟨rfl, rfl⟩)
    | (go_at_call 119; (with_reducible refine (co _).mono ?_); rintro e w3 ⟨rfl, hb3⟩; have S := QSt.start h1 mm1 hr1 hlt hw0 hb3 (.cells #[.string rn, .int .i64 1, .string rp, .string rr] 182) b; clear x0 x1 x2 x3 y0 y1 y2 y3 t0 t1 t2 t3 f0 f1 f2 f3 hr1 h1 mm1 co cf; obtain ⟨⟨t0, t1, t2, t3, f0, f1, f2, f3⟩, e0, e1, e2, e3, z0, z1, z2, z3, nb, hlW⟩ := S.facts; obtain ⟨x0, x1, x2, x3, y0, y1, y2, y3⟩ := S.rd.reads; rw [he1] at x3))
  subst hk
  refine (c4 _ S.rd).mono ?_
  rintro e w4 ⟨rfl, h4, m4⟩
  have S4 := S.call m4 h4
  clear c4
  clear x0 x1 x2 x3 y0 y1 y2 y3 t0 t1 t2 t3 f0 f1 f2 f3 e0 e1 e2 e3 z0 z1 z2 z3 nb hlW
  obtain ⟨⟨t0, t1, t2, t3, f0, f1, f2, f3⟩, e0, e1, e2, e3, z0, z1, z2, z3, nb, hlW⟩ := S4.facts
  obtain ⟨x0, x1, x2, x3, y0, y1, y2, y3⟩ := S4.rd.reads
  rw [he4] at x3
  have HE := Lib.hid he4
  clear he4
  go_wp2
  refine bodyPost_ret (v := .agg #[.int .i64 b, .int .i64 127, .int .i64 0, .slice none 0 0]) ?_ rfl ?_
  · rw [results_one_cell rfl]; go_simp
  · have hl := ((S4.set (.int .i64 127)).1).done (.int .i64 b) (.int .i64 127) (.int .i64 0) (.slice none 0 0)
    exact ⟨bareI b 127 0 [], _, rfl, hgo _ _ (got_tail1 (g4.and (f := fun k => if k = 64 then Pr.val k else (pKind k).and fun _ => Pr.val k) (by first | exact Got.val _ _ | (rw [if_pos rfl]; exact Got.val _ _) | (rw [if_neg (by decide)]; exact Got.and (p := pKind 127) (x := 127) (by unfold pKind; rw [if_pos (by decide)]; exact Got.val _ _) (Got.val _ _))))), hl.1, hl.2, insNew_nil _ _ _ _ _ (by unfold inI64; omega) (by unfold inI64; omega) (by unfold inI64; omega)⟩
set_option maxRecDepth 100000 in
set_option maxHeartbeats 8000000 in
theorem q_ins_s1_126 {w0 : World} {B : Nat} {s : ByteArray} {n : Nat} {r : RV} {w : World} (h : QAt w0 B s n r w) (b : Int) (r1 : RV) (hb : 0 ≤ b ∧ b < 256) (g1 : Got pOne r r1 b) (he1 : r1.e = 0)
    (c1 : ∀ w, QAt w0 B s n r w → Calls Tryz.prog 53 #[.pointer (some ⟨B, 0, none⟩)] w fun e w' => e = .returned (.int .i64 b) ∧ QAt w0 B s n r1 w' ∧ Mov B B w w') (rc : Int) (rn rp rr : ByteArray) (hR : byCode b = some ⟨rc, rn, 1, rp, rr⟩) (k : Int) (r4 : RV) (k0 : 0 ≤ k) (k1 : k < 256) (g4 : Got pOne r1 r4 k) (c4 : ∀ w, QAt w0 B s n r1 w → Calls Tryz.prog 53 #[.pointer (some ⟨B, 0, none⟩)] w fun e w' => e = .returned (.int .i64 k) ∧ QAt w0 B s n r4 w' ∧ Mov B B w w') (he4 : r4.e = 0) (hk : k = 126) :
    Calls Tryz.prog 63 #[.pointer (some ⟨B, 0, none⟩)] w (DidQ w0 B s n r w pIns InsV.bare InsV.val InsNew) := by
  have hb0 := hb.1
  have hb1 := hb.2
  have hlt := in_heap6 h.box
  have hw0 := h.below.size
  have n1 : w.heap.size ≠ B := by omega
  have ha := h.alloc (.cells #[.int .i64 0, .int .i64 0, .int .i64 0, .slice none 0 0] 46)
  have hres := heap_alloc_new w (.cells #[.int .i64 0, .int .i64 0, .int .i64 0, .slice none 0 0] 46)
  clear h
  have h6 := byCode_6 hR
  have hf : isFloat b = false := h6.1
  have h17 : ¬ b = 17 := h6.2.1
  have cf := ref_float b
  rw [hf] at cf
  have hq17 : (b == 17) = false := beq_eq_false_iff_ne.2 h17
  have co := fun W => ref_of b W
  rw [hR] at co
  rw [show infoVal (some ⟨rc, rn, 1, rp, rr⟩) = .agg #[.string rn, .int .i64 1, .string rp, .string rr] from rfl, show (some (⟨rc, rn, 1, rp, rr⟩ : Rw)).isSome = true from rfl] at co
  have hgo : ∀ (r2 : RV) (x : InsV), Got (pTail 1 b) r1 r2 x → Got pIns r r2 x := fun r2 x hg => g1.and (by rw [if_neg (by rw [hf]; simp; exact h17), hR]; exact hg)
  clear h6 hR h17 g1
  go_enter Tryz.func63, Tryz.ntmps63
  go_wp2_with fail
  refine (c1 _ ha).mono ?_
  rintro e w1 ⟨rfl, h1, m1⟩
  have mm1 := ((Mov.refl B B w).alloc (.cells #[.int .i64 0, .int .i64 0, .int .i64 0, .slice none 0 0] 46)).trans m1
  have hr1 := (m1.block w.heap.size (by simp) n1 n1).trans hres
  obtain ⟨x0, x1, x2, x3, y0, y1, y2, y3⟩ := h1.reads
  obtain ⟨_, _, _, _, t0, t1, t2, t3, f0, f1, f2, f3⟩ := box_at hr1
  have hls := in_heap6 hr1
  clear c1 ha hres m1
  rw [he1] at x3
  go_wp2_with (first
    | (go_at_call 154; (with_reducible refine (cf _).mono ?_); rintro e w2 ⟨rfl, rfl⟩)
    | (go_at_call 119; (with_reducible refine (co _).mono ?_); rintro e w3 ⟨rfl, hb3⟩; have S := QSt.start h1 mm1 hr1 hlt hw0 hb3 (.cells #[.string rn, .int .i64 1, .string rp, .string rr] 182) b; clear x0 x1 x2 x3 y0 y1 y2 y3 t0 t1 t2 t3 f0 f1 f2 f3 hr1 h1 mm1 co cf; obtain ⟨⟨t0, t1, t2, t3, f0, f1, f2, f3⟩, e0, e1, e2, e3, z0, z1, z2, z3, nb, hlW⟩ := S.facts; obtain ⟨x0, x1, x2, x3, y0, y1, y2, y3⟩ := S.rd.reads; rw [he1] at x3))
  subst hk
  refine (c4 _ S.rd).mono ?_
  rintro e w4 ⟨rfl, h4, m4⟩
  have S4 := S.call m4 h4
  clear c4
  clear x0 x1 x2 x3 y0 y1 y2 y3 t0 t1 t2 t3 f0 f1 f2 f3 e0 e1 e2 e3 z0 z1 z2 z3 nb hlW
  obtain ⟨⟨t0, t1, t2, t3, f0, f1, f2, f3⟩, e0, e1, e2, e3, z0, z1, z2, z3, nb, hlW⟩ := S4.facts
  obtain ⟨x0, x1, x2, x3, y0, y1, y2, y3⟩ := S4.rd.reads
  rw [he4] at x3
  have HE := Lib.hid he4
  clear he4
  go_wp2
  refine bodyPost_ret (v := .agg #[.int .i64 b, .int .i64 126, .int .i64 0, .slice none 0 0]) ?_ rfl ?_
  · rw [results_one_cell rfl]; go_simp
  · have hl := ((S4.set (.int .i64 126)).1).done (.int .i64 b) (.int .i64 126) (.int .i64 0) (.slice none 0 0)
    exact ⟨bareI b 126 0 [], _, rfl, hgo _ _ (got_tail1 (g4.and (f := fun k => if k = 64 then Pr.val k else (pKind k).and fun _ => Pr.val k) (by first | exact Got.val _ _ | (rw [if_pos rfl]; exact Got.val _ _) | (rw [if_neg (by decide)]; exact Got.and (p := pKind 126) (x := 126) (by unfold pKind; rw [if_pos (by decide)]; exact Got.val _ _) (Got.val _ _))))), hl.1, hl.2, insNew_nil _ _ _ _ _ (by unfold inI64; omega) (by unfold inI64; omega) (by unfold inI64; omega)⟩
set_option maxRecDepth 100000 in
set_option maxHeartbeats 8000000 in
theorem q_ins_s1_no {w0 : World} {B : Nat} {s : ByteArray} {n : Nat} {r : RV} {w : World} (h : QAt w0 B s n r w) (b : Int) (r1 : RV) (hb : 0 ≤ b ∧ b < 256) (g1 : Got pOne r r1 b) (he1 : r1.e = 0)
    (c1 : ∀ w, QAt w0 B s n r w → Calls Tryz.prog 53 #[.pointer (some ⟨B, 0, none⟩)] w fun e w' => e = .returned (.int .i64 b) ∧ QAt w0 B s n r1 w' ∧ Mov B B w w') (rc : Int) (rn rp rr : ByteArray) (hR : byCode b = some ⟨rc, rn, 1, rp, rr⟩) (k : Int) (r4 : RV) (k0 : 0 ≤ k) (k1 : k < 256) (g4 : Got pOne r1 r4 k) (c4 : ∀ w, QAt w0 B s n r1 w → Calls Tryz.prog 53 #[.pointer (some ⟨B, 0, none⟩)] w fun e w' => e = .returned (.int .i64 k) ∧ QAt w0 B s n r4 w' ∧ Mov B B w w') (he4 : r4.e ≠ 0) (hk : k = 0) :
    Calls Tryz.prog 63 #[.pointer (some ⟨B, 0, none⟩)] w (DidQ w0 B s n r w pIns InsV.bare InsV.val InsNew) := by
  have hb0 := hb.1
  have hb1 := hb.2
  have hlt := in_heap6 h.box
  have hw0 := h.below.size
  have n1 : w.heap.size ≠ B := by omega
  have ha := h.alloc (.cells #[.int .i64 0, .int .i64 0, .int .i64 0, .slice none 0 0] 46)
  have hres := heap_alloc_new w (.cells #[.int .i64 0, .int .i64 0, .int .i64 0, .slice none 0 0] 46)
  clear h
  have h6 := byCode_6 hR
  have hf : isFloat b = false := h6.1
  have h17 : ¬ b = 17 := h6.2.1
  have cf := ref_float b
  rw [hf] at cf
  have hq17 : (b == 17) = false := beq_eq_false_iff_ne.2 h17
  have co := fun W => ref_of b W
  rw [hR] at co
  rw [show infoVal (some ⟨rc, rn, 1, rp, rr⟩) = .agg #[.string rn, .int .i64 1, .string rp, .string rr] from rfl, show (some (⟨rc, rn, 1, rp, rr⟩ : Rw)).isSome = true from rfl] at co
  have hgo : ∀ (r2 : RV) (x : InsV), Got (pTail 1 b) r1 r2 x → Got pIns r r2 x := fun r2 x hg => g1.and (by rw [if_neg (by rw [hf]; simp; exact h17), hR]; exact hg)
  clear h6 hR h17 g1
  go_enter Tryz.func63, Tryz.ntmps63
  go_wp2_with fail
  refine (c1 _ ha).mono ?_
  rintro e w1 ⟨rfl, h1, m1⟩
  have mm1 := ((Mov.refl B B w).alloc (.cells #[.int .i64 0, .int .i64 0, .int .i64 0, .slice none 0 0] 46)).trans m1
  have hr1 := (m1.block w.heap.size (by simp) n1 n1).trans hres
  obtain ⟨x0, x1, x2, x3, y0, y1, y2, y3⟩ := h1.reads
  obtain ⟨_, _, _, _, t0, t1, t2, t3, f0, f1, f2, f3⟩ := box_at hr1
  have hls := in_heap6 hr1
  clear c1 ha hres m1
  rw [he1] at x3
  go_wp2_with (first
    | (go_at_call 154; (with_reducible refine (cf _).mono ?_); rintro e w2 ⟨rfl, rfl⟩)
    | (go_at_call 119; (with_reducible refine (co _).mono ?_); rintro e w3 ⟨rfl, hb3⟩; have S := QSt.start h1 mm1 hr1 hlt hw0 hb3 (.cells #[.string rn, .int .i64 1, .string rp, .string rr] 182) b; clear x0 x1 x2 x3 y0 y1 y2 y3 t0 t1 t2 t3 f0 f1 f2 f3 hr1 h1 mm1 co cf; obtain ⟨⟨t0, t1, t2, t3, f0, f1, f2, f3⟩, e0, e1, e2, e3, z0, z1, z2, z3, nb, hlW⟩ := S.facts; obtain ⟨x0, x1, x2, x3, y0, y1, y2, y3⟩ := S.rd.reads; rw [he1] at x3))
  subst hk
  refine (c4 _ S.rd).mono ?_
  rintro e w4 ⟨rfl, h4, m4⟩
  have S4 := S.call m4 h4
  clear c4
  clear x0 x1 x2 x3 y0 y1 y2 y3 t0 t1 t2 t3 f0 f1 f2 f3 e0 e1 e2 e3 z0 z1 z2 z3 nb hlW
  obtain ⟨⟨t0, t1, t2, t3, f0, f1, f2, f3⟩, e0, e1, e2, e3, z0, z1, z2, z3, nb, hlW⟩ := S4.facts
  obtain ⟨x0, x1, x2, x3, y0, y1, y2, y3⟩ := S4.rd.reads
  have hq : (r4.e == 0) = false := beq_eq_false_iff_ne.2 he4
  have hx : r4.bad 2 = r4 := RV.bad_not he4 2
  have HE := Lib.hid he4
  clear he4
  go_wp2_with fail
  refine (q_fails S4.rd 2).mono ?_
  rw [hx]
  rintro e w5 ⟨rfl, h5, m5⟩
  have S5 := S4.call m5 h5
  clear x0 x1 x2 x3 y0 y1 y2 y3 t0 t1 t2 t3 f0 f1 f2 f3 e0 e1 e2 e3 z0 z1 z2 z3 nb hlW
  obtain ⟨⟨t0, t1, t2, t3, f0, f1, f2, f3⟩, e0, e1, e2, e3, z0, z1, z2, z3, nb, hlW⟩ := S5.facts
  obtain ⟨x0, x1, x2, x3, y0, y1, y2, y3⟩ := S5.rd.reads
  go_wp2
  refine bodyPost_ret (v := .agg #[.int .i64 b, .int .i64 0, .int .i64 0, .slice none 0 0]) ?_ rfl ?_
  · rw [results_one_cell rfl]; go_simp
  · have hl := ((S5.set (.int .i64 0)).1).done (.int .i64 b) (.int .i64 0) (.int .i64 0) (.slice none 0 0)
    exact ⟨bareI b 0 0 [], _, rfl, hgo _ _ (got_tail1 (g4.bad _ (fun k hk => and_bad hk) HE.out)), hl.1, hl.2, insNew_nil _ _ _ _ _ (by unfold inI64; omega) (by unfold inI64; omega) (by unfold inI64; omega)⟩
set_option maxRecDepth 100000 in
set_option maxHeartbeats 8000000 in
theorem q_ins_s1_125 {w0 : World} {B : Nat} {s : ByteArray} {n : Nat} {r : RV} {w : World} (h : QAt w0 B s n r w) (b : Int) (r1 : RV) (hb : 0 ≤ b ∧ b < 256) (g1 : Got pOne r r1 b) (he1 : r1.e = 0)
    (c1 : ∀ w, QAt w0 B s n r w → Calls Tryz.prog 53 #[.pointer (some ⟨B, 0, none⟩)] w fun e w' => e = .returned (.int .i64 b) ∧ QAt w0 B s n r1 w' ∧ Mov B B w w') (rc : Int) (rn rp rr : ByteArray) (hR : byCode b = some ⟨rc, rn, 1, rp, rr⟩) (k : Int) (r4 : RV) (k0 : 0 ≤ k) (k1 : k < 256) (g4 : Got pOne r1 r4 k) (c4 : ∀ w, QAt w0 B s n r1 w → Calls Tryz.prog 53 #[.pointer (some ⟨B, 0, none⟩)] w fun e w' => e = .returned (.int .i64 k) ∧ QAt w0 B s n r4 w' ∧ Mov B B w w') (he4 : r4.e = 0) (hk : k = 125) :
    Calls Tryz.prog 63 #[.pointer (some ⟨B, 0, none⟩)] w (DidQ w0 B s n r w pIns InsV.bare InsV.val InsNew) := by
  have hb0 := hb.1
  have hb1 := hb.2
  have hlt := in_heap6 h.box
  have hw0 := h.below.size
  have n1 : w.heap.size ≠ B := by omega
  have ha := h.alloc (.cells #[.int .i64 0, .int .i64 0, .int .i64 0, .slice none 0 0] 46)
  have hres := heap_alloc_new w (.cells #[.int .i64 0, .int .i64 0, .int .i64 0, .slice none 0 0] 46)
  clear h
  have h6 := byCode_6 hR
  have hf : isFloat b = false := h6.1
  have h17 : ¬ b = 17 := h6.2.1
  have cf := ref_float b
  rw [hf] at cf
  have hq17 : (b == 17) = false := beq_eq_false_iff_ne.2 h17
  have co := fun W => ref_of b W
  rw [hR] at co
  rw [show infoVal (some ⟨rc, rn, 1, rp, rr⟩) = .agg #[.string rn, .int .i64 1, .string rp, .string rr] from rfl, show (some (⟨rc, rn, 1, rp, rr⟩ : Rw)).isSome = true from rfl] at co
  have hgo : ∀ (r2 : RV) (x : InsV), Got (pTail 1 b) r1 r2 x → Got pIns r r2 x := fun r2 x hg => g1.and (by rw [if_neg (by rw [hf]; simp; exact h17), hR]; exact hg)
  clear h6 hR h17 g1
  go_enter Tryz.func63, Tryz.ntmps63
  go_wp2_with fail
  refine (c1 _ ha).mono ?_
  rintro e w1 ⟨rfl, h1, m1⟩
  have mm1 := ((Mov.refl B B w).alloc (.cells #[.int .i64 0, .int .i64 0, .int .i64 0, .slice none 0 0] 46)).trans m1
  have hr1 := (m1.block w.heap.size (by simp) n1 n1).trans hres
  obtain ⟨x0, x1, x2, x3, y0, y1, y2, y3⟩ := h1.reads
  obtain ⟨_, _, _, _, t0, t1, t2, t3, f0, f1, f2, f3⟩ := box_at hr1
  have hls := in_heap6 hr1
  clear c1 ha hres m1
  rw [he1] at x3
  go_wp2_with (first
    | (go_at_call 154; (with_reducible refine (cf _).mono ?_); rintro e w2 ⟨rfl, rfl⟩)
    | (go_at_call 119; (with_reducible refine (co _).mono ?_); rintro e w3 ⟨rfl, hb3⟩; have S := QSt.start h1 mm1 hr1 hlt hw0 hb3 (.cells #[.string rn, .int .i64 1, .string rp, .string rr] 182) b; clear x0 x1 x2 x3 y0 y1 y2 y3 t0 t1 t2 t3 f0 f1 f2 f3 hr1 h1 mm1 co cf; obtain ⟨⟨t0, t1, t2, t3, f0, f1, f2, f3⟩, e0, e1, e2, e3, z0, z1, z2, z3, nb, hlW⟩ := S.facts; obtain ⟨x0, x1, x2, x3, y0, y1, y2, y3⟩ := S.rd.reads; rw [he1] at x3))
  subst hk
  refine (c4 _ S.rd).mono ?_
  rintro e w4 ⟨rfl, h4, m4⟩
  have S4 := S.call m4 h4
  clear c4
  clear x0 x1 x2 x3 y0 y1 y2 y3 t0 t1 t2 t3 f0 f1 f2 f3 e0 e1 e2 e3 z0 z1 z2 z3 nb hlW
  obtain ⟨⟨t0, t1, t2, t3, f0, f1, f2, f3⟩, e0, e1, e2, e3, z0, z1, z2, z3, nb, hlW⟩ := S4.facts
  obtain ⟨x0, x1, x2, x3, y0, y1, y2, y3⟩ := S4.rd.reads
  rw [he4] at x3
  have hx : (⟨r4.s, r4.pos, 3⟩ : RV).bad 2 = ⟨r4.s, r4.pos, 3⟩ := RV.bad_not (by show (3 : Int) ≠ 0; decide) 2
  have hy : r4.bad 3 = ⟨r4.s, r4.pos, 3⟩ := RV.bad_zero he4 3
  have HE := Lib.hid he4
  have S5 := S4.err 3
  clear he4
  go_wp2_with fail
  generalize w4.setCell ⟨B, 3, none⟩ (.int .i64 3) = W5 at *
  refine (q_fails S5.rd 2).mono ?_
  rw [hx]
  rintro e w6 ⟨rfl, h6, m6⟩
  have S6 := S5.call m6 h6
  clear x0 x1 x2 x3 y0 y1 y2 y3 t0 t1 t2 t3 f0 f1 f2 f3 e0 e1 e2 e3 z0 z1 z2 z3 nb hlW
  obtain ⟨⟨t0, t1, t2, t3, f0, f1, f2, f3⟩, e0, e1, e2, e3, z0, z1, z2, z3, nb, hlW⟩ := S6.facts
  obtain ⟨x0, x1, x2, x3, y0, y1, y2, y3⟩ := S6.rd.reads
  go_wp2
  refine bodyPost_ret (v := .agg #[.int .i64 b, .int .i64 125, .int .i64 0, .slice none 0 0]) ?_ rfl ?_
  · rw [results_one_cell rfl]; go_simp
  · have hl := ((S6.set (.int .i64 125)).1).done (.int .i64 b) (.int .i64 125) (.int .i64 0) (.slice none 0 0)
    exact ⟨bareI b 125 0 [], _, rfl, hgo _ _ (got_tail1 (g4.and (f := fun k => if k = 64 then Pr.val k else (pKind k).and fun _ => Pr.val k) (by rw [if_neg (by decide), ← hy]; exact Got.and (p := pKind 125) (x := 125) (by unfold pKind; rw [if_neg (by decide), if_pos (by decide)]; exact Got.no (by decide) _ _) (Got.val _ _)))), hl.1, hl.2, insNew_nil _ _ _ _ _ (by unfold inI64; omega) (by unfold inI64; omega) (by unfold inI64; omega)⟩
set_option maxRecDepth 100000 in
set_option maxHeartbeats 8000000 in
theorem q_ins_s1_124 {w0 : World} {B : Nat} {s : ByteArray} {n : Nat} {r : RV} {w : World} (h : QAt w0 B s n r w) (b : Int) (r1 : RV) (hb : 0 ≤ b ∧ b < 256) (g1 : Got pOne r r1 b) (he1 : r1.e = 0)
    (c1 : ∀ w, QAt w0 B s n r w → Calls Tryz.prog 53 #[.pointer (some ⟨B, 0, none⟩)] w fun e w' => e = .returned (.int .i64 b) ∧ QAt w0 B s n r1 w' ∧ Mov B B w w') (rc : Int) (rn rp rr : ByteArray) (hR : byCode b = some ⟨rc, rn, 1, rp, rr⟩) (k : Int) (r4 : RV) (k0 : 0 ≤ k) (k1 : k < 256) (g4 : Got pOne r1 r4 k) (c4 : ∀ w, QAt w0 B s n r1 w → Calls Tryz.prog 53 #[.pointer (some ⟨B, 0, none⟩)] w fun e w' => e = .returned (.int .i64 k) ∧ QAt w0 B s n r4 w' ∧ Mov B B w w') (he4 : r4.e = 0) (hk : k = 124) :
    Calls Tryz.prog 63 #[.pointer (some ⟨B, 0, none⟩)] w (DidQ w0 B s n r w pIns InsV.bare InsV.val InsNew) := by
  have hb0 := hb.1
  have hb1 := hb.2
  have hlt := in_heap6 h.box
  have hw0 := h.below.size
  have n1 : w.heap.size ≠ B := by omega
  have ha := h.alloc (.cells #[.int .i64 0, .int .i64 0, .int .i64 0, .slice none 0 0] 46)
  have hres := heap_alloc_new w (.cells #[.int .i64 0, .int .i64 0, .int .i64 0, .slice none 0 0] 46)
  clear h
  have h6 := byCode_6 hR
  have hf : isFloat b = false := h6.1
  have h17 : ¬ b = 17 := h6.2.1
  have cf := ref_float b
  rw [hf] at cf
  have hq17 : (b == 17) = false := beq_eq_false_iff_ne.2 h17
  have co := fun W => ref_of b W
  rw [hR] at co
  rw [show infoVal (some ⟨rc, rn, 1, rp, rr⟩) = .agg #[.string rn, .int .i64 1, .string rp, .string rr] from rfl, show (some (⟨rc, rn, 1, rp, rr⟩ : Rw)).isSome = true from rfl] at co
  have hgo : ∀ (r2 : RV) (x : InsV), Got (pTail 1 b) r1 r2 x → Got pIns r r2 x := fun r2 x hg => g1.and (by rw [if_neg (by rw [hf]; simp; exact h17), hR]; exact hg)
  clear h6 hR h17 g1
  go_enter Tryz.func63, Tryz.ntmps63
  go_wp2_with fail
  refine (c1 _ ha).mono ?_
  rintro e w1 ⟨rfl, h1, m1⟩
  have mm1 := ((Mov.refl B B w).alloc (.cells #[.int .i64 0, .int .i64 0, .int .i64 0, .slice none 0 0] 46)).trans m1
  have hr1 := (m1.block w.heap.size (by simp) n1 n1).trans hres
  obtain ⟨x0, x1, x2, x3, y0, y1, y2, y3⟩ := h1.reads
  obtain ⟨_, _, _, _, t0, t1, t2, t3, f0, f1, f2, f3⟩ := box_at hr1
  have hls := in_heap6 hr1
  clear c1 ha hres m1
  rw [he1] at x3
  go_wp2_with (first
    | (go_at_call 154; (with_reducible refine (cf _).mono ?_); rintro e w2 ⟨rfl, rfl⟩)
    | (go_at_call 119; (with_reducible refine (co _).mono ?_); rintro e w3 ⟨rfl, hb3⟩; have S := QSt.start h1 mm1 hr1 hlt hw0 hb3 (.cells #[.string rn, .int .i64 1, .string rp, .string rr] 182) b; clear x0 x1 x2 x3 y0 y1 y2 y3 t0 t1 t2 t3 f0 f1 f2 f3 hr1 h1 mm1 co cf; obtain ⟨⟨t0, t1, t2, t3, f0, f1, f2, f3⟩, e0, e1, e2, e3, z0, z1, z2, z3, nb, hlW⟩ := S.facts; obtain ⟨x0, x1, x2, x3, y0, y1, y2, y3⟩ := S.rd.reads; rw [he1] at x3))
  subst hk
  refine (c4 _ S.rd).mono ?_
  rintro e w4 ⟨rfl, h4, m4⟩
  have S4 := S.call m4 h4
  clear c4
  clear x0 x1 x2 x3 y0 y1 y2 y3 t0 t1 t2 t3 f0 f1 f2 f3 e0 e1 e2 e3 z0 z1 z2 z3 nb hlW
  obtain ⟨⟨t0, t1, t2, t3, f0, f1, f2, f3⟩, e0, e1, e2, e3, z0, z1, z2, z3, nb, hlW⟩ := S4.facts
  obtain ⟨x0, x1, x2, x3, y0, y1, y2, y3⟩ := S4.rd.reads
  rw [he4] at x3
  have hx : (⟨r4.s, r4.pos, 3⟩ : RV).bad 2 = ⟨r4.s, r4.pos, 3⟩ := RV.bad_not (by show (3 : Int) ≠ 0; decide) 2
  have hy : r4.bad 3 = ⟨r4.s, r4.pos, 3⟩ := RV.bad_zero he4 3
  have HE := Lib.hid he4
  have S5 := S4.err 3
  clear he4
  go_wp2_with fail
  generalize w4.setCell ⟨B, 3, none⟩ (.int .i64 3) = W5 at *
  refine (q_fails S5.rd 2).mono ?_
  rw [hx]
  rintro e w6 ⟨rfl, h6, m6⟩
  have S6 := S5.call m6 h6
  clear x0 x1 x2 x3 y0 y1 y2 y3 t0 t1 t2 t3 f0 f1 f2 f3 e0 e1 e2 e3 z0 z1 z2 z3 nb hlW
  obtain ⟨⟨t0, t1, t2, t3, f0, f1, f2, f3⟩, e0, e1, e2, e3, z0, z1, z2, z3, nb, hlW⟩ := S6.facts
  obtain ⟨x0, x1, x2, x3, y0, y1, y2, y3⟩ := S6.rd.reads
  go_wp2
  refine bodyPost_ret (v := .agg #[.int .i64 b, .int .i64 124, .int .i64 0, .slice none 0 0]) ?_ rfl ?_
  · rw [results_one_cell rfl]; go_simp
  · have hl := ((S6.set (.int .i64 124)).1).done (.int .i64 b) (.int .i64 124) (.int .i64 0) (.slice none 0 0)
    exact ⟨bareI b 124 0 [], _, rfl, hgo _ _ (got_tail1 (g4.and (f := fun k => if k = 64 then Pr.val k else (pKind k).and fun _ => Pr.val k) (by rw [if_neg (by decide), ← hy]; exact Got.and (p := pKind 124) (x := 124) (by unfold pKind; rw [if_neg (by decide), if_pos (by decide)]; exact Got.no (by decide) _ _) (Got.val _ _)))), hl.1, hl.2, insNew_nil _ _ _ _ _ (by unfold inI64; omega) (by unfold inI64; omega) (by unfold inI64; omega)⟩
set_option maxRecDepth 100000 in
set_option maxHeartbeats 8000000 in
theorem q_ins_s1_any {w0 : World} {B : Nat} {s : ByteArray} {n : Nat} {r : RV} {w : World} (h : QAt w0 B s n r w) (b : Int) (r1 : RV) (hb : 0 ≤ b ∧ b < 256) (g1 : Got pOne r r1 b) (he1 : r1.e = 0)
    (c1 : ∀ w, QAt w0 B s n r w → Calls Tryz.prog 53 #[.pointer (some ⟨B, 0, none⟩)] w fun e w' => e = .returned (.int .i64 b) ∧ QAt w0 B s n r1 w' ∧ Mov B B w w') (rc : Int) (rn rp rr : ByteArray) (hR : byCode b = some ⟨rc, rn, 1, rp, rr⟩) (k : Int) (r4 : RV) (k0 : 0 ≤ k) (k1 : k < 256) (g4 : Got pOne r1 r4 k) (c4 : ∀ w, QAt w0 B s n r1 w → Calls Tryz.prog 53 #[.pointer (some ⟨B, 0, none⟩)] w fun e w' => e = .returned (.int .i64 k) ∧ QAt w0 B s n r4 w' ∧ Mov B B w w') (he4 : r4.e = 0) (h64 : k ≠ 64) (h127 : k ≠ 127) (h126 : k ≠ 126) (h125 : k ≠ 125) (h124 : k ≠ 124) :
    Calls Tryz.prog 63 #[.pointer (some ⟨B, 0, none⟩)] w (DidQ w0 B s n r w pIns InsV.bare InsV.val InsNew) := by
  have hb0 := hb.1
  have hb1 := hb.2
  have hlt := in_heap6 h.box
  have hw0 := h.below.size
  have n1 : w.heap.size ≠ B := by omega
  have ha := h.alloc (.cells #[.int .i64 0, .int .i64 0, .int .i64 0, .slice none 0 0] 46)
  have hres := heap_alloc_new w (.cells #[.int .i64 0, .int .i64 0, .int .i64 0, .slice none 0 0] 46)
  clear h
  have h6 := byCode_6 hR
  have hf : isFloat b = false := h6.1
  have h17 : ¬ b = 17 := h6.2.1
  have cf := ref_float b
  rw [hf] at cf
  have hq17 : (b == 17) = false := beq_eq_false_iff_ne.2 h17
  have co := fun W => ref_of b W
  rw [hR] at co
  rw [show infoVal (some ⟨rc, rn, 1, rp, rr⟩) = .agg #[.string rn, .int .i64 1, .string rp, .string rr] from rfl, show (some (⟨rc, rn, 1, rp, rr⟩ : Rw)).isSome = true from rfl] at co
  have hgo : ∀ (r2 : RV) (x : InsV), Got (pTail 1 b) r1 r2 x → Got pIns r r2 x := fun r2 x hg => g1.and (by rw [if_neg (by rw [hf]; simp; exact h17), hR]; exact hg)
  have q0 : (k != 64) = true := by simpa using h64
  have q1 : (k != 127) = true := by simpa using h127
  have q2 : (k != 126) = true := by simpa using h126
  have q3 : (k == 125) = false := beq_eq_false_iff_ne.2 h125
  have q4 : (k == 124) = false := beq_eq_false_iff_ne.2 h124
  have HK : Hid (¬ k = 64 ∧ ¬ (k = 127 ∨ k = 126) ∧ ¬ (k = 125 ∨ k = 124)) := Lib.hid (by omega)
  clear h64 h127 h126 h125 h124
  clear h6 hR h17 g1
  go_enter Tryz.func63, Tryz.ntmps63
  go_wp2_with fail
  refine (c1 _ ha).mono ?_
  rintro e w1 ⟨rfl, h1, m1⟩
  have mm1 := ((Mov.refl B B w).alloc (.cells #[.int .i64 0, .int .i64 0, .int .i64 0, .slice none 0 0] 46)).trans m1
  have hr1 := (m1.block w.heap.size (by simp) n1 n1).trans hres
  obtain ⟨x0, x1, x2, x3, y0, y1, y2, y3⟩ := h1.reads
  obtain ⟨_, _, _, _, t0, t1, t2, t3, f0, f1, f2, f3⟩ := box_at hr1
  have hls := in_heap6 hr1
  clear c1 ha hres m1
  rw [he1] at x3
  go_wp2_with (first
    | (go_at_call 154; (with_reducible refine (cf _).mono ?_); rintro e w2 ⟨rfl, rfl⟩)
    | (go_at_call 119; (with_reducible refine (co _).mono ?_); rintro e w3 ⟨rfl, hb3⟩; have S := QSt.start h1 mm1 hr1 hlt hw0 hb3 (.cells #[.string rn, .int .i64 1, .string rp, .string rr] 182) b; clear x0 x1 x2 x3 y0 y1 y2 y3 t0 t1 t2 t3 f0 f1 f2 f3 hr1 h1 mm1 co cf; obtain ⟨⟨t0, t1, t2, t3, f0, f1, f2, f3⟩, e0, e1, e2, e3, z0, z1, z2, z3, nb, hlW⟩ := S.facts; obtain ⟨x0, x1, x2, x3, y0, y1, y2, y3⟩ := S.rd.reads; rw [he1] at x3))
  refine (c4 _ S.rd).mono ?_
  rintro e w4 ⟨rfl, h4, m4⟩
  have S4 := S.call m4 h4
  clear c4
  clear x0 x1 x2 x3 y0 y1 y2 y3 t0 t1 t2 t3 f0 f1 f2 f3 e0 e1 e2 e3 z0 z1 z2 z3 nb hlW
  obtain ⟨⟨t0, t1, t2, t3, f0, f1, f2, f3⟩, e0, e1, e2, e3, z0, z1, z2, z3, nb, hlW⟩ := S4.facts
  obtain ⟨x0, x1, x2, x3, y0, y1, y2, y3⟩ := S4.rd.reads
  rw [he4] at x3
  have HE := Lib.hid he4
  clear he4
  go_wp2_with fail
  refine (q_fails S4.rd 2).mono ?_
  rintro e w5 ⟨rfl, h5, m5⟩
  have S5 := S4.call m5 h5
  clear x0 x1 x2 x3 y0 y1 y2 y3 t0 t1 t2 t3 f0 f1 f2 f3 e0 e1 e2 e3 z0 z1 z2 z3 nb hlW
  obtain ⟨⟨t0, t1, t2, t3, f0, f1, f2, f3⟩, e0, e1, e2, e3, z0, z1, z2, z3, nb, hlW⟩ := S5.facts
  obtain ⟨x0, x1, x2, x3, y0, y1, y2, y3⟩ := S5.rd.reads
  go_wp2
  refine bodyPost_ret (v := .agg #[.int .i64 b, .int .i64 k, .int .i64 0, .slice none 0 0]) ?_ rfl ?_
  · rw [results_one_cell rfl]; go_simp
  · have hl := ((S5.set (.int .i64 k)).1).done (.int .i64 b) (.int .i64 k) (.int .i64 0) (.slice none 0 0)
    exact ⟨bareI b k 0 [], _, rfl, hgo _ _ (got_tail1 (g4.and (f := fun k => if k = 64 then Pr.val k else (pKind k).and fun _ => Pr.val k) (by rw [if_neg HK.out.1]; exact Got.and (p := pKind k) (x := k) (by unfold pKind; rw [if_neg HK.out.2.1, if_neg HK.out.2.2]; exact Got.no (by decide) _ _) (Got.val _ _)))), hl.1, hl.2, insNew_nil _ _ _ _ _ (by unfold inI64; omega) (by unfold inI64; omega) (by unfold inI64; omega)⟩
end Go.Proofs.YthfipknfdnfalaaGreatDoor
