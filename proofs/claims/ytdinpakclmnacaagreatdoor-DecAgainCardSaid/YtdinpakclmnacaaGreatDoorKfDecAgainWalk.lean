/-
  The statement on what is read of any bytes, and written again, walked. Only its frame proves it.
-/
import Derived.Test.YtdinpakclmnacaaGreatDoorKfDecBackWalk
import Derived.Test.YtdinpakclmnacaaGreatDoorKfDecBroken
namespace Go.Proofs.YtdinpakclmnacaaGreatDoor
set_option maxRecDepth 100000
set_option maxHeartbeats 16000000
open Go.RowKit
set_option linter.unusedVariables false
theorem again_key (S : List UInt8) : ((modAns S).2 = 0 → rightMod (modAns S).1 = true) ∧ ((modAns S).2 ≠ 0 → (modAns S).1 = zeroM) := by
  unfold modAns
  cases h : mod6 S with
  | bad e => exact ⟨fun _ => (by decide : rightMod zeroM = true), fun _ => rfl⟩
  | ok m r => exact ⟨fun _ => (mod6_of h).1, fun hne => absurd rfl hne⟩
theorem ans5_two {m : MoV} (h : rightMod m = true) : ans5 m = ([], 5) ∨ (ans5 m = (mod5 m, 0) ∧ (mod5 m).length ≤ 1048576) := by
  unfold ans5
  rw [if_pos h]
  split
  · exact .inl rfl
  · exact .inr ⟨rfl, by omega⟩
theorem dec_again {m : MoV} (h : rightMod m = true) (hf : Fits6 m) (hl : (mod5 m).length ≤ 1048576) (W : World) (hL : Laid W) : Calls Tryz.prog 13 #[.string (bs (mod5 m))] W fun e w' => ∃ n : MoV, e = .returned (.tuple #[n.val, .int .i64 0]) ∧ n.bare = m.bare ∧ ModAt w' n ∧ Below W.heap.size W w' := by
  refine (dec_any (mod5 m) W hL).mono ?_
  rintro e w' ⟨n, rfl, h1, h2, h3⟩
  have e1 : modAns (mod5 m) = (m.bare, 0) := by unfold modAns; rw [mod6_put h hf hl]
  rw [e1] at h1 ⊢
  exact ⟨n, rfl, h1, h2, h3⟩
theorem decAgain_walk (s : ByteArray) (hs : s.size ≤ 140737488351232) (own : Bool) (p : Option Addr) (c : Nat) (l : List StepV) (ap : Option Addr) (ac : Nat) (al : List Int) (bp : Option Addr) (bc : Nat) (bl : List Int) (w : World) (hLaid : Laid w) (hS : StepsAt w p l)
    (hA : IntsAt w ap al) (hAi : ∀ n ∈ al, inI64 n) (hAl : al.length ≤ 17592186044416) (hB : BytesAt w bp bl) :
    Calls Tryz.prog 6 #[.string s, .bool own, .slice p l.length c, .slice ap al.length ac, .slice bp bl.length bc] w fun e w' => e = .returned (.bool true) ∧ Below w.heap.size w w' := by
  have cH := examples6 w hLaid
  have cM := fun W (hW : Below w.heap.size w W) => made_fn p c l W (hS.below hW (Nat.le_refl _))
  have cR := fun (t : ByteArray) (ht : t.size ≤ 140737488355328) W (hW : Below w.heap.size w W) => broken_of t ht ap ac al bp bc bl W (hA.below hW (Nat.le_refl _)) hAi hAl ⟨hB.rows.below hW (Nat.le_refl _), hB.within, hB.most⟩
  clear hS hA hAi hAl hB
  generalize codeF l = code at *
  generalize l.length = ln at *
  generalize al.length = an at *
  generalize bl.length = bn at *
  simp only [madeV_val6] at cM
  go_enter Tryz.func6, Tryz.ntmps6
  go_upto_if 25 with (go_at_call 9; (with_reducible refine cH.mono ?_); rintro e w1 ⟨rfl, hB1⟩)
  go_cut [0] from 22 (fun s0 W => ∃ t : ByteArray, s0 = .string t ∧ Below w.heap.size w W)
  case first =>
    cases own
    · go_wp2
      go_meet
      exact ⟨s, rfl, hB1⟩
    · go_wp2_with fail
      refine (cM _ hB1).mono ?_
      rintro e w2 ⟨H, pc, cc, rfl, hM, hb2⟩
      have hB2 := belt hB1 (Nat.le_refl _) hb2
      obtain ⟨S, P, Q, hS, hPl, hQl, hAl, hP⟩ := made_ans hM
      have hMA := hM.modAt (mx := 2) (i0 := 5) (i1 := -5) (ix := 0) (st := -1) ⟨by decide, by decide⟩ ⟨by decide, by decide⟩ ⟨by decide, by decide⟩ ⟨by decide, by decide⟩ ⟨by decide, by decide⟩
      have cE := enc_mod _ _ (hLaid.below hB2) hMA
      rw [hP, madeV_val6] at cE
      have hhi : S.length ≤ 230000 := by rw [hS]; simp only [List.length_append]; omega
      clear hM hMA hP hB1 hb2 hS
      go_wp2_with fail
      refine cE.mono ?_
      rintro e w3 ⟨rfl, hb3⟩
      have hB3 := belt hB2 (Nat.le_refl _) hb3
      have cR3 := cR (bs S) (by rw [bs_size6]; omega) w3 hB3
      clear cE hB2 hb3
      go_wp2_with fail
      refine cR3.mono ?_
      rintro e w4 ⟨t, rfl, _, hb4⟩
      have hB4 := belt hB3 (Nat.le_refl _) hb4
      clear cR3 cR hB3 hb4
      go_wp2
      go_meet
      exact ⟨t, rfl, hB4⟩
  case rest =>
    obtain ⟨t, rfl, hBc⟩ := hcut
    clear cH cM cR hB1 hs
    have hLc := hLaid.below hBc
    have cD := dec_mod t wc hLc
    obtain ⟨k0, k1⟩ := again_key t.data.toList
    unfold AnsMod at cD
    obtain ⟨X, hX⟩ : ∃ X, modAns t.data.toList = X := ⟨_, rfl⟩
    obtain ⟨X1, X2⟩ := X
    rw [hX] at cD k0 k1
    simp only at cD k0 k1
    clear hX
    go_wp2_with fail
    refine cD.mono ?_
    rintro e w2 ⟨m, rfl, hm, hmN, hb2⟩
    have hmA := hmN.at7
    clear hmN
    have hB2 := belt hBc (Nat.le_refl _) hb2
    clear cD
    by_cases he : X2 = 0
    · subst he
      have hr : rightMod m = true := by rw [← rightMod_bare, hm]; exact k0 rfl
      have hf := hmA.fits
      clear k0 k1 hm
      obtain ⟨tp, tc, types, fp, fc, funcs, mp, mc, memory, gp, gc, globals, ep, ec, exports, start, dp, dc, data⟩ := m
      have hbM : Below w2.heap.size w2 (w2.alloc (.cells #[.slice tp types.length tc, .slice fp funcs.length fc, .slice mp memory.length mc, .slice gp globals.length gc, .slice ep exports.length ec, .int .i64 start, .slice dp data.length dc] 35)) := (Below.refl _ w2).alloc (Nat.le_refl _) _
      have hB2a := hB2.alloc hB2.size (.cells #[.slice tp types.length tc, .slice fp funcs.length fc, .slice mp memory.length mc, .slice gp globals.length gc, .slice ep exports.length ec, .int .i64 start, .slice dp data.length dc] 35)
      have hmAa := hmA.below hbM (Nat.le_refl _)
      have cR := mod_right _ _ (hLaid.below hB2a) hmAa
      rw [hr] at cR
      simp only [MoV.val] at cR ⊢
      clear hmA hbM hb2 hLc hBc hB2
      go_wp2_with fail
      refine cR.mono ?_
      rintro e w3 ⟨rfl, hb3⟩
      have hm3 := (hb3.block w2.heap.size (by simp)).trans (heap_alloc_new w2 (.cells #[.slice tp types.length tc, .slice fp funcs.length fc, .slice mp memory.length mc, .slice gp globals.length gc, .slice ep exports.length ec, .int .i64 start, .slice dp data.length dc] 35))
      have hB3 := belt6 hB2a (Nat.le_refl _) hb3
      have hmA3 := hmAa.below hb3 (Nat.le_refl _)
      have cE := enc_mod _ _ (hLaid.below hB3) hmA3
      obtain ⟨x0, x1, x2, x3, x4, x5, x6, _⟩ := reads_six hm3
      clear cR hmAa hb3 hB2a
      rcases ans5_two hr with h5 | ⟨h5, hl⟩
      all_goals
        rw [h5] at cE
        simp only [MoV.val] at cE
        go_wp2_with fail
        refine cE.mono ?_
        rintro e w4 ⟨rfl, hb4⟩
        have hm4 := (hb4.block _ (in_heap6 hm3)).trans hm3
        have hB4 := belt6 hB3 (Nat.le_refl _) hb4
        have hmA4 := hmA3.below hb4 (Nat.le_refl _)
        clear cE hmA3 hb4 hm3 hB3 h5 x0 x1 x2 x3 x4 x5 x6
      · have cD2 := dec_any [] w4 (hLaid.below hB4)
        obtain ⟨g, hg⟩ : ∃ g, (modAns []).2 = g := ⟨_, rfl⟩
        rw [hg] at cD2
        clear hg
        go_wp2_with fail
        refine cD2.mono ?_
        rintro e w5 ⟨⟨tp2, tc2, types2, fp2, fc2, funcs2, mp2, mc2, memory2, gp2, gc2, globals2, ep2, ec2, exports2, start2, dp2, dc2, data2⟩, rfl, hn1, hn2, hb5⟩
        have hm5 := (hb5.block _ (in_heap6 hm4)).trans hm4
        have hB5 := belt6 hB4 (Nat.le_refl _) hb5
        have hbN : Below w5.heap.size w5 (w5.alloc (.cells #[.slice tp2 types2.length tc2, .slice fp2 funcs2.length fc2, .slice mp2 memory2.length mc2, .slice gp2 globals2.length gc2, .slice ep2 exports2.length ec2, .int .i64 start2, .slice dp2 data2.length dc2] 35)) := (Below.refl _ w5).alloc (Nat.le_refl _) _
        have cS := mod_same _ _ (w5.alloc (.cells #[.slice tp2 types2.length tc2, .slice fp2 funcs2.length fc2, .slice mp2 memory2.length mc2, .slice gp2 globals2.length gc2, .slice ep2 exports2.length ec2, .int .i64 start2, .slice dp2 data2.length dc2] 35)) ((hmA4.below hb5 (Nat.le_refl _)).below hbN (Nat.le_refl _)) (hn2.below hbN (Nat.le_refl _))
        generalize sameMod _ _ = sm at cS
        simp only [MoV.val] at cS ⊢
        obtain ⟨a0, a1, a2, a3, a4, a5, a6, _⟩ := reads_six ((Below.heap_alloc w5 (.cells #[.slice tp2 types2.length tc2, .slice fp2 funcs2.length fc2, .slice mp2 memory2.length mc2, .slice gp2 globals2.length gc2, .slice ep2 exports2.length ec2, .int .i64 start2, .slice dp2 data2.length dc2] 35) _ (in_heap6 hm5)).trans hm5)
        obtain ⟨d0, d1, d2, d3, d4, d5, d6, _⟩ := reads_six (heap_alloc_new w5 (.cells #[.slice tp2 types2.length tc2, .slice fp2 funcs2.length fc2, .slice mp2 memory2.length mc2, .slice gp2 globals2.length gc2, .slice ep2 exports2.length ec2, .int .i64 start2, .slice dp2 data2.length dc2] 35))
        have HB5 := Lib.hid (hB5.alloc hB5.size (.cells #[.slice tp2 types2.length tc2, .slice fp2 funcs2.length fc2, .slice mp2 memory2.length mc2, .slice gp2 globals2.length gc2, .slice ep2 exports2.length ec2, .int .i64 start2, .slice dp2 data2.length dc2] 35))
        clear hn1 hn2 hb5 hmA4 hm4 hm5 hbN hB4 hB5 cD2 hr hf
        go_wp2_with fail
        refine cS.mono ?_
        rintro e w6 ⟨rfl, hb6⟩
        clear cS a0 a1 a2 a3 a4 a5 a6 d0 d1 d2 d3 d4 d5 d6
        go_wp2
        go_ret
        exact ⟨rfl, belt6 HB5.out (Nat.le_refl _) hb6⟩
      · have cD2 := dec_again hr hf hl w4 (hLaid.below hB4)
        go_wp2_with fail
        refine cD2.mono ?_
        rintro e w5 ⟨⟨tp2, tc2, types2, fp2, fc2, funcs2, mp2, mc2, memory2, gp2, gc2, globals2, ep2, ec2, exports2, start2, dp2, dc2, data2⟩, rfl, hn1, hn2, hb5⟩
        have hm5 := (hb5.block _ (in_heap6 hm4)).trans hm4
        have hB5 := belt6 hB4 (Nat.le_refl _) hb5
        have hbN : Below w5.heap.size w5 (w5.alloc (.cells #[.slice tp2 types2.length tc2, .slice fp2 funcs2.length fc2, .slice mp2 memory2.length mc2, .slice gp2 globals2.length gc2, .slice ep2 exports2.length ec2, .int .i64 start2, .slice dp2 data2.length dc2] 35)) := (Below.refl _ w5).alloc (Nat.le_refl _) _
        have cS := mod_same _ _ (w5.alloc (.cells #[.slice tp2 types2.length tc2, .slice fp2 funcs2.length fc2, .slice mp2 memory2.length mc2, .slice gp2 globals2.length gc2, .slice ep2 exports2.length ec2, .int .i64 start2, .slice dp2 data2.length dc2] 35)) ((hmA4.below hb5 (Nat.le_refl _)).below hbN (Nat.le_refl _)) (hn2.below hbN (Nat.le_refl _))
        rw [same_bare hn1.symm] at cS
        simp only [MoV.val] at cS ⊢
        obtain ⟨a0, a1, a2, a3, a4, a5, a6, _⟩ := reads_six ((Below.heap_alloc w5 (.cells #[.slice tp2 types2.length tc2, .slice fp2 funcs2.length fc2, .slice mp2 memory2.length mc2, .slice gp2 globals2.length gc2, .slice ep2 exports2.length ec2, .int .i64 start2, .slice dp2 data2.length dc2] 35) _ (in_heap6 hm5)).trans hm5)
        obtain ⟨d0, d1, d2, d3, d4, d5, d6, _⟩ := reads_six (heap_alloc_new w5 (.cells #[.slice tp2 types2.length tc2, .slice fp2 funcs2.length fc2, .slice mp2 memory2.length mc2, .slice gp2 globals2.length gc2, .slice ep2 exports2.length ec2, .int .i64 start2, .slice dp2 data2.length dc2] 35))
        have HB5 := Lib.hid (hB5.alloc hB5.size (.cells #[.slice tp2 types2.length tc2, .slice fp2 funcs2.length fc2, .slice mp2 memory2.length mc2, .slice gp2 globals2.length gc2, .slice ep2 exports2.length ec2, .int .i64 start2, .slice dp2 data2.length dc2] 35))
        clear hn1 hn2 hb5 hmA4 hm4 hm5 hbN hB4 hB5 cD2 hr hf
        go_wp2_with fail
        refine cS.mono ?_
        rintro e w6 ⟨rfl, hb6⟩
        clear cS a0 a1 a2 a3 a4 a5 a6 d0 d1 d2 d3 d4 d5 d6
        go_wp2
        go_ret
        exact ⟨rfl, belt6 HB5.out (Nat.le_refl _) hb6⟩
    · have hq : (X2 != 0) = true := by simpa using he
      obtain ⟨tp, tc, fp, fc, mp, mc, gp, gc, ep, ec, dp, dc, rfl⟩ := bare_none (hm.trans (k1 he))
      have HB2 := Lib.hid hB2
      simp only [MoV.val]
      clear hm k0 k1 he hmA hb2 hB2
      go_wp2
      go_ret
      exact ⟨rfl, HB2.out.alloc HB2.out.size _⟩
end Go.Proofs.YtdinpakclmnacaaGreatDoor
