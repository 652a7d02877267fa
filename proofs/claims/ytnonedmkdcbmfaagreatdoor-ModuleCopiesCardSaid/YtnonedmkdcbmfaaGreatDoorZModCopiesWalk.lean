/-
  The statement on copies, walked. Only its frame proves it.
-/
import Derived.Test.YtnonedmkdcbmfaaGreatDoorZModCopiesA
namespace Go.Proofs.YtnonedmkdcbmfaaGreatDoor
open Go.RowKit
set_option linter.unusedVariables false
set_option maxRecDepth 100000 in
set_option maxHeartbeats 8000000 in
theorem moduleCopies_walk (p : Option Addr) (c : Nat) (l : List StepV) (at0 : Int) (hat : 0 ≤ at0 ∧ at0 < 256) (w : World) (hLaid : Laid w) (hS : StepsAt w p l) :
    Calls Tryz.prog 5 #[.slice p l.length c, .int .u8 at0] w fun e w' => e = .returned (.bool true) ∧ Below w.heap.size w w' := by
  have cH := head_mod w hLaid
  have cM := fun W (hW : Below w.heap.size w W) => made_of p c l W (hS.below hW (Nat.le_refl _))
  clear hS
  simp only [madeV_val] at cM
  generalize l.length = ln at *
  go_enter Tryz.func5, Tryz.ntmps5
  go_wp2_with (first
    | (go_at_call 10; refine cH.mono ?_; rintro e w1 ⟨rfl, hB1⟩)
    | (go_at_call 21; (with_reducible refine (cM _ hB1).mono ?_); rintro e w2 ⟨H, pc, cc, code, rfl, hM, hne, hb2⟩; have hB2 := belt hB1 (Nat.le_refl _) hb2; have cC := fun W (hW : Below w2.heap.size w2 W) => mod_copy _ _ W ((hM.below hW).okMod (st := -1) ((hM.below hW).modAt (by decide) (by decide) (by decide) (by decide) (by decide)) hne); simp only [madeV_val] at cC)
    | (go_at_call 22; (with_reducible refine (cC _ ((Below.refl _ w2).alloc (Nat.le_refl _) _)).mono ?_); rintro e w3 ⟨ma, fa, a1, a2, ac, a3, a4, a5, a6, he, hla, hOa, hLa, hb3⟩; have hva := copy_val hOa hLa; unfold sevenOf at hva; rw [hva] at he; subst he; obtain ⟨_, hm3, hB3⟩ := box_mod hb3; obtain ⟨q0, q1, q2, q3, q4, q5, q6⟩ := box_alloc hm3)
    | (go_at_call 22; refine (cC _ (bel1 hB3 (Nat.le_refl _) _)).mono ?_; rintro e w4 ⟨mb, fb, z1, z2, zc, z3, z4, z5, z6, he, hlb, hOb, hLb, hb4⟩; obtain ⟨gf, gk, gd, hSec⟩ := Sec.mk0 hOb hlb (Fine.of (w := w2) (hM.modAt (st := -1) (by decide) (by decide) (by decide) (by decide) (by decide)) rfl hOb.one hLb) hLb hne; have hvb := copy_val hOb hLb; unfold sevenOf at hvb; rw [hSec.fp, hSec.dp] at hvb; rw [hvb] at he; subst he; clear q0 q1 q2 q3 q4 q5 q6; obtain ⟨_, ha4, hB4⟩ := box_mod hb4; have hm4 := ((hb4.block _ (by have := heap_in hm3; simp; omega)).trans (Below.heap_alloc w3 _ _ (heap_in hm3))).trans hm3; have hn : 0 < code.length := List.length_pos_iff.2 hne; have hq : ((code.length : Int) == 0) = false := beq_eq_false_iff_ne.2 (by omega); have hne0 : (code.length : Int) ≠ 0 := (by omega); obtain ⟨kk, hkk, hlt⟩ : ∃ kk : Nat, at0 % (code.length : Int) = kk ∧ kk < code.length := ⟨(at0 % (code.length : Int)).toNat, (by have := Int.emod_nonneg at0 hne0; omega), (by have := Int.emod_lt_of_pos at0 (show (0 : Int) < code.length by omega); omega)⟩; obtain ⟨f1, _, _, _, _, f6, f7, f8, f9, _⟩ := hSec.reads hlt; have r1 := fun o => (World.cell?_alloc_lt w4 o (⟨gf, 2, none⟩ : Addr) (by show gf < w4.heap.size; omega)).trans f1))
  have hA5 := All.start hm4 ha4 (by have := heap_in hm3; omega) (by simp) hSec hB4 (by simp) #[.slice mb.tp 1 mb.tc, .slice (some ⟨gf, 0, none⟩) 1 mb.fc, .slice mb.mp 1 mb.mc, .slice mb.gp 2 mb.gc, .slice mb.ep 1 mb.ec, .int .i64 (-1), .slice (some ⟨gd, 0, none⟩) 1 mb.dc]
  have hone := hSec.one
  have hdat := hSec.data
  have hFa := Fine.of (w := w2) (hM.modAt (st := -1) (by decide) (by decide) (by decide) (by decide) (by decide)) rfl hOa.one hLa
  have hmv := fun (W : World) (hW : Below w3.heap.size w3 W) => (hM.below (belt hB3 (Nat.le_refl _) hW)).modAt (st := -1) (by decide) (by decide) (by decide) (by decide) (by decide)
  have cAM : ∀ W, Below w3.heap.size w3 W → Calls Tryz.prog 19 #[.agg #[.slice ma.tp 1 ma.tc, .slice ma.fp 1 ma.fc, .slice ma.mp 1 ma.mc, .slice ma.gp 2 ma.gc, .slice ma.ep 1 ma.ec, .int .i64 (-1), .slice ma.dp 1 ma.dc], .agg #[.slice (some ⟨H, 0, none⟩) 1 1, .slice (some ⟨H + 1, 0, none⟩) 1 1, .slice (some ⟨H + 2, 0, none⟩) 1 1, .slice (some ⟨H + 3, 0, none⟩) 2 2, .slice (some ⟨H + 4, 0, none⟩) 1 1, .int .i64 (-1), .slice (some ⟨H + 5, 0, none⟩) 1 1]] W fun e w' => e = .returned (.bool true) ∧ Below W.heap.size W w' := fun W hW => by
    have h := mod_same ma (madeV H pc cc code 2 5 (-5) 0 (-1)) W ((hOa.below hW).modAt hFa) (hmv W hW)
    rw [hva, madeV_val, hLa.symm.same hOa.one rfl] at h
    exact h
  have cRM : ∀ W, Below w3.heap.size w3 W → Calls Tryz.prog 11 #[.agg #[.slice (some ⟨H, 0, none⟩) 1 1, .slice (some ⟨H + 1, 0, none⟩) 1 1, .slice (some ⟨H + 2, 0, none⟩) 1 1, .slice (some ⟨H + 3, 0, none⟩) 2 2, .slice (some ⟨H + 4, 0, none⟩) 1 1, .int .i64 (-1), .slice (some ⟨H + 5, 0, none⟩) 1 1]] W fun e w' => e = .returned (.bool true) ∧ Below W.heap.size W w' := fun W hW => made_right (hLaid.below hB2) hM (belt hB3 (Nat.le_refl _) hW)
  clear r1 f1 hSec hb4 hm4 ha4 hlb cC
  generalize w4.alloc (.cells #[.slice mb.tp 1 mb.tc, .slice (some ⟨gf, 0, none⟩) 1 mb.fc, .slice mb.mp 1 mb.mc, .slice mb.gp 2 mb.gc, .slice mb.ep 1 mb.ec, .int .i64 (-1), .slice (some ⟨gd, 0, none⟩) 1 mb.dc] 29) = X5 at *
  obtain ⟨⟨m0, m1, m2, m3, m4, m5, m6⟩, ⟨n0, n1, n2, n3, n4, n5, n6⟩, ⟨b0, b1, b2, b3, b4, b5, b6⟩, g1, ⟨x, hx, g2, hxa⟩, g3, _, _⟩ := hA5.cells hlt
  obtain ⟨y1, hy1, hyi, hyn, hyb⟩ : ∃ y1, IntKind.i64.wrap (x.a + 1) = y1 ∧ inI64 y1 ∧ y1 ≠ x.a ∧ IntKind.i64.wrap (y1 - 1) = x.a := turn_num hxa
  go_region
  have hA6 := (hA5.turn hlt hx y1 hyi).drew
  clear m0 m1 m2 m3 m4 m5 m6 n0 n1 n2 n3 n4 n5 n6 b0 b1 b2 b3 b4 b5 b6 g1 g2 g3 hA5
  generalize (X5.setCell ⟨gk, kk * 4 + 1, none⟩ (.int .i64 y1)).drew = X6 at *
  obtain ⟨⟨m0, m1, m2, m3, m4, m5, m6⟩, ⟨n0, n1, n2, n3, n4, n5, n6⟩, ⟨b0, b1, b2, b3, b4, b5, b6⟩, _⟩ := hA6.cells hlt
  have cBM1 := fun W (h : All w3 w2.heap.size w3.heap.size w4.heap.size #[.slice (some ⟨H, 0, none⟩) 1 1, .slice (some ⟨H + 1, 0, none⟩) 1 1, .slice (some ⟨H + 2, 0, none⟩) 1 1, .slice (some ⟨H + 3, 0, none⟩) 2 2, .slice (some ⟨H + 4, 0, none⟩) 1 1, .int .i64 (-1), .slice (some ⟨H + 5, 0, none⟩) 1 1] #[.slice ma.tp 1 ma.tc, .slice ma.fp 1 ma.fc, .slice ma.mp 1 ma.mc, .slice ma.gp 2 ma.gc, .slice ma.ep 1 ma.ec, .int .i64 (-1), .slice ma.dp 1 ma.dc] #[.slice mb.tp 1 mb.tc, .slice (some ⟨gf, 0, none⟩) 1 mb.fc, .slice mb.mp 1 mb.mc, .slice mb.gp 2 mb.gc, .slice mb.ep 1 mb.ec, .int .i64 (-1), .slice (some ⟨gd, 0, none⟩) 1 mb.dc] W (w3.alloc (.cells #[.slice ma.tp 1 ma.tc, .slice ma.fp 1 ma.fc, .slice ma.mp 1 ma.mc, .slice ma.gp 2 ma.gc, .slice ma.ep 1 ma.ec, .int .i64 (-1), .slice ma.dp 1 ma.dc] 29)).heap.size w4.heap.size { mb with funcs := [turned fb kk x y1] } (turned fb kk x y1) gf gk gd code.length) => (mod_same { mb with funcs := [turned fb kk x y1] } (madeV H pc cc code 2 5 (-5) 0 (-1)) W h.sec.at (hmv W h.low))
  rw [val_turned hone, hvb, madeV_val, same_turned hLb hx hyn] at cBM1
  have cBM2 := fun W (h : All w3 w2.heap.size w3.heap.size w4.heap.size #[.slice (some ⟨H, 0, none⟩) 1 1, .slice (some ⟨H + 1, 0, none⟩) 1 1, .slice (some ⟨H + 2, 0, none⟩) 1 1, .slice (some ⟨H + 3, 0, none⟩) 2 2, .slice (some ⟨H + 4, 0, none⟩) 1 1, .int .i64 (-1), .slice (some ⟨H + 5, 0, none⟩) 1 1] #[.slice ma.tp 1 ma.tc, .slice ma.fp 1 ma.fc, .slice ma.mp 1 ma.mc, .slice ma.gp 2 ma.gc, .slice ma.ep 1 ma.ec, .int .i64 (-1), .slice ma.dp 1 ma.dc] #[.slice mb.tp 1 mb.tc, .slice (some ⟨gf, 0, none⟩) 1 mb.fc, .slice mb.mp 1 mb.mc, .slice mb.gp 2 mb.gc, .slice mb.ep 1 mb.ec, .int .i64 (-1), .slice (some ⟨gd, 0, none⟩) 1 mb.dc] W (w3.alloc (.cells #[.slice ma.tp 1 ma.tc, .slice ma.fp 1 ma.fc, .slice ma.mp 1 ma.mc, .slice ma.gp 2 ma.gc, .slice ma.ep 1 ma.ec, .int .i64 (-1), .slice ma.dp 1 ma.dc] 29)).heap.size w4.heap.size mb fb gf gk gd code.length) => (mod_same mb (madeV H pc cc code 2 5 (-5) 0 (-1)) W h.sec.at (hmv W h.low))
  rw [hvb, madeV_val, hLb.symm.same hone rfl] at cBM2
  have cBA := fun W (h : All w3 w2.heap.size w3.heap.size w4.heap.size #[.slice (some ⟨H, 0, none⟩) 1 1, .slice (some ⟨H + 1, 0, none⟩) 1 1, .slice (some ⟨H + 2, 0, none⟩) 1 1, .slice (some ⟨H + 3, 0, none⟩) 2 2, .slice (some ⟨H + 4, 0, none⟩) 1 1, .int .i64 (-1), .slice (some ⟨H + 5, 0, none⟩) 1 1] #[.slice ma.tp 1 ma.tc, .slice ma.fp 1 ma.fc, .slice ma.mp 1 ma.mc, .slice ma.gp 2 ma.gc, .slice ma.ep 1 ma.ec, .int .i64 (-1), .slice ma.dp 1 ma.dc] #[.slice mb.tp 1 mb.tc, .slice (some ⟨gf, 0, none⟩) 1 mb.fc, .slice mb.mp 1 mb.mc, .slice mb.gp 2 mb.gc, .slice mb.ep 1 mb.ec, .int .i64 (-1), .slice (some ⟨gd, 0, none⟩) 1 mb.dc] W (w3.alloc (.cells #[.slice ma.tp 1 ma.tc, .slice ma.fp 1 ma.fc, .slice ma.mp 1 ma.mc, .slice ma.gp 2 ma.gc, .slice ma.ep 1 ma.ec, .int .i64 (-1), .slice ma.dp 1 ma.dc] 29)).heap.size w4.heap.size mb fb gf gk gd code.length) (hg : w3.heap.size ≤ gd) => (mod_same { mb with data := [⟨7, someBytes⟩] } ma (W.setCell ⟨gd, 0, none⟩ (.int .i64 7)) h.sec.offset ((hOa.below (h.low.setCell (by show w3.heap.size ≤ gd; exact hg) _)).modAt hFa))
  rw [val_data hdat, hvb, hva, same_data7 hLa.data] at cBA
  go_wp2_with (first
    | (go_at_call 19; (with_reducible refine (cAM X6 hA6.low).mono ?_); rintro e w7 ⟨rfl, hb7⟩; have hA7 := hA6.below hb7; clear m0 m1 m2 m3 m4 m5 m6 n0 n1 n2 n3 n4 n5 n6 b0 b1 b2 b3 b4 b5 b6; obtain ⟨⟨m0, m1, m2, m3, m4, m5, m6⟩, ⟨n0, n1, n2, n3, n4, n5, n6⟩, ⟨b0, b1, b2, b3, b4, b5, b6⟩, _⟩ := hA7.cells hlt)
    | (go_at_call 19; (with_reducible refine (cBM1 w7 hA7).mono ?_); rintro e w8 ⟨rfl, hb8⟩; have hA8 := hA7.below hb8; clear m0 m1 m2 m3 m4 m5 m6 n0 n1 n2 n3 n4 n5 n6 b0 b1 b2 b3 b4 b5 b6; obtain ⟨⟨m0, m1, m2, m3, m4, m5, m6⟩, ⟨n0, n1, n2, n3, n4, n5, n6⟩, ⟨b0, b1, b2, b3, b4, b5, b6⟩, _⟩ := hA8.cells hlt; obtain ⟨g2, g1, g3⟩ := hA8.turned_x hlt hx))
  go_region
  have hA9 := (hA8.back hlt hone hx hxa).drew
  clear m0 m1 m2 m3 m4 m5 m6 n0 n1 n2 n3 n4 n5 n6 b0 b1 b2 b3 b4 b5 b6 g1 g2 g3 hA8 hA7 hA6
  generalize (w8.setCell ⟨gk, kk * 4 + 1, none⟩ (.int .i64 x.a)).drew = X9 at *
  obtain ⟨⟨m0, m1, m2, m3, m4, m5, m6⟩, ⟨n0, n1, n2, n3, n4, n5, n6⟩, ⟨b0, b1, b2, b3, b4, b5, b6⟩, _⟩ := hA9.cells hlt
  go_wp2_with (first
    | (go_at_call 19; (with_reducible refine (cBM2 X9 hA9).mono ?_); rintro e w10 ⟨rfl, hb10⟩; have hA10 := hA9.below hb10; clear m0 m1 m2 m3 m4 m5 m6 n0 n1 n2 n3 n4 n5 n6 b0 b1 b2 b3 b4 b5 b6; obtain ⟨⟨m0, m1, m2, m3, m4, m5, m6⟩, ⟨n0, n1, n2, n3, n4, n5, n6⟩, ⟨b0, b1, b2, b3, b4, b5, b6⟩, _, _, _, g4, g5⟩ := hA10.cells hlt; obtain ⟨_, _, _, _, _, s1, s2, s3, s4, _⟩ := hA10.sec.reads hlt; have ⟨d1, d2, d3, d4, d5, d6⟩ : (¬ gd = w2.heap.size) ∧ (¬ gd = w3.heap.size) ∧ (¬ gd = w4.heap.size) ∧ (¬ w2.heap.size = gd) ∧ (¬ w3.heap.size = gd) ∧ (¬ w4.heap.size = gd) := (by have := hA10.mA; have := hA10.aB; have := hA10.tZ; omega); have hgd : w3.heap.size ≤ gd := (by have := hA10.lw; omega); have hL11 := hA10.low.setCell (p := ⟨gd, 0, none⟩) (by show w3.heap.size ≤ gd; exact hgd) (.int .i64 7))
    | (go_at_call 19; (with_reducible refine (cBA w10 hA10 hgd).mono ?_); rintro e w12 ⟨rfl, hb12⟩; have hm12 := (hb12.block _ (by have := heap_in hA10.bm; simp [World.setCell]; omega)).trans ((Below.heap_setCell _ _ _ _ (by show w2.heap.size ≠ gd; omega)).trans hA10.bm); clear m0 m1 m2 m3 m4 m5 m6 n0 n1 n2 n3 n4 n5 n6 b0 b1 b2 b3 b4 b5 b6; obtain ⟨m0, m1, m2, m3, m4, m5, m6⟩ := box_seven hm12; have hL12 := belt hL11 (Nat.le_refl _) hb12)
    | (go_at_call 11; (with_reducible refine (cRM w12 hL12).mono ?_); rintro e w13 ⟨rfl, hb13⟩))
  go_ret
  exact ⟨rfl, belt (belt (belt hB2 (Nat.le_refl _) hB3) (Nat.le_refl _) hL12) (Nat.le_refl _) hb13⟩
end Go.Proofs.YtnonedmkdcbmfaaGreatDoor
