/-
  Which modules are the same, by the document's own answer (chapter 4): walked. A contract that the proofs call; no statement is proved here.
-/
import Derived.Test.YtnonedmkdcbmfaaGreatDoorZModRefSameF
import Derived.Deep.QuietTactic
import Derived.BigQuiet
namespace Go.Proofs.YtnonedmkdcbmfaaGreatDoor
open Go.RowKit

set_option maxRecDepth 100000 in
set_option maxHeartbeats 4000000 in
theorem ref_same_ne (tp1 fp1 mp1 gp1 ep1 dp1 tp2 fp2 mp2 gp2 ep2 dp2 : Option Addr) (tc1 fc1 mc1 gc1 ec1 dc1 tc2 fc2 mc2 gc2 ec2 dc2 : Nat) (nt1 nf1 nm1 ng1 ne1 nd1 nt2 nf2 nm2 ng2 ne2 nd2 : Nat) (st1 st2 : Int) (h : ¬ (nt1 = nt2 ∧ nf1 = nf2 ∧ nm1 = nm2 ∧ ng1 = ng2 ∧ ne1 = ne2 ∧ nd1 = nd2 ∧ st1 = st2)) (w : World) :
    Calls Tryz.prog 20 #[.agg #[.slice tp1 nt1 tc1, .slice fp1 nf1 fc1, .slice mp1 nm1 mc1, .slice gp1 ng1 gc1, .slice ep1 ne1 ec1, .int .i64 st1, .slice dp1 nd1 dc1], .agg #[.slice tp2 nt2 tc2, .slice fp2 nf2 fc2, .slice mp2 nm2 mc2, .slice gp2 ng2 gc2, .slice ep2 ne2 ec2, .int .i64 st2, .slice dp2 nd2 dc2]] w fun e w' => e = .returned (.bool false) ∧ Below w.heap.size w w' := by
  have hB := ((Below.refl w.heap.size w).alloc (Nat.le_refl _) (.cells #[.slice tp1 nt1 tc1, .slice fp1 nf1 fc1, .slice mp1 nm1 mc1, .slice gp1 ng1 gc1, .slice ep1 ne1 ec1, .int .i64 st1, .slice dp1 nd1 dc1] 29)).alloc (by simp) (.cells #[.slice tp2 nt2 tc2, .slice fp2 nf2 fc2, .slice mp2 nm2 mc2, .slice gp2 ng2 gc2, .slice ep2 ne2 ec2, .int .i64 st2, .slice dp2 nd2 dc2] 29)
  by_cases h0 : nt1 = nt2
  · subst h0
    by_cases h1 : nf1 = nf2
    · subst h1
      by_cases h2 : nm1 = nm2
      · subst h2
        by_cases h3 : ng1 = ng2
        · subst h3
          by_cases h4 : ne1 = ne2
          · subst h4
            by_cases h5 : nd1 = nd2
            · subst h5
              have g : (st1 != st2) = true := by have : st1 ≠ st2 := fun e => h ⟨rfl, rfl, rfl, rfl, rfl, rfl, e⟩; simpa using this
              clear h
              go_enter Tryz.func20, Tryz.ntmps20
              go_wp2
              go_ret
              exact ⟨rfl, hB⟩
            · have g : ((nd1 : Int) != (nd2 : Int)) = true := by simp; omega
              clear h
              go_enter Tryz.func20, Tryz.ntmps20
              go_wp2
              go_ret
              exact ⟨rfl, hB⟩
          · have g : ((ne1 : Int) != (ne2 : Int)) = true := by simp; omega
            clear h
            go_enter Tryz.func20, Tryz.ntmps20
            go_wp2
            go_ret
            exact ⟨rfl, hB⟩
        · have g : ((ng1 : Int) != (ng2 : Int)) = true := by simp; omega
          clear h
          go_enter Tryz.func20, Tryz.ntmps20
          go_wp2
          go_ret
          exact ⟨rfl, hB⟩
      · have g : ((nm1 : Int) != (nm2 : Int)) = true := by simp; omega
        clear h
        go_enter Tryz.func20, Tryz.ntmps20
        go_wp2
        go_ret
        exact ⟨rfl, hB⟩
    · have g : ((nf1 : Int) != (nf2 : Int)) = true := by simp; omega
      clear h
      go_enter Tryz.func20, Tryz.ntmps20
      go_wp2
      go_ret
      exact ⟨rfl, hB⟩
  · have g : ((nt1 : Int) != (nt2 : Int)) = true := by simp; omega
    clear h
    go_enter Tryz.func20, Tryz.ntmps20
    go_wp2
    go_ret
    exact ⟨rfl, hB⟩

set_option maxRecDepth 100000 in
set_option maxHeartbeats 16000000 in
theorem ref_same_eq (tp1 fp1 mp1 gp1 ep1 dp1 tp2 fp2 mp2 gp2 ep2 dp2 : Option Addr) (tc1 fc1 mc1 gc1 ec1 dc1 tc2 fc2 mc2 gc2 ec2 dc2 : Nat) (ty1 ty2 : List TyV) (fn1 fn2 : List FnV) (me1 me2 : List MemV) (gl1 gl2 : List GlobV) (ex1 ex2 : List ExpV) (da1 da2 : List DatV) (st : Int) (nt nf nm ng ne nd : Nat)
    (ht : ty1.length = nt ∧ ty2.length = nt) (hf : fn1.length = nf ∧ fn2.length = nf) (hm : me1.length = nm ∧ me2.length = nm) (hg : gl1.length = ng ∧ gl2.length = ng) (he : ex1.length = ne ∧ ex2.length = ne) (hd : da1.length = nd ∧ da2.length = nd)
    (w : World) (hM1 : ModAt w ⟨tp1, tc1, ty1, fp1, fc1, fn1, mp1, mc1, me1, gp1, gc1, gl1, ep1, ec1, ex1, st, dp1, dc1, da1⟩) (hM2 : ModAt w ⟨tp2, tc2, ty2, fp2, fc2, fn2, mp2, mc2, me2, gp2, gc2, gl2, ep2, ec2, ex2, st, dp2, dc2, da2⟩) :
    Calls Tryz.prog 20 #[.agg #[.slice tp1 nt tc1, .slice fp1 nf fc1, .slice mp1 nm mc1, .slice gp1 ng gc1, .slice ep1 ne ec1, .int .i64 st, .slice dp1 nd dc1], .agg #[.slice tp2 nt tc2, .slice fp2 nf fc2, .slice mp2 nm mc2, .slice gp2 ng gc2, .slice ep2 ne ec2, .int .i64 st, .slice dp2 nd dc2]] w fun e w' => e = .returned (.bool (sameL sameTy ty1 ty2 && (sameL sameFn fn1 fn2 && (sameL sameMem me1 me2 && (sameL sameGlob gl1 gl2 && (sameL sameExp ex1 ex2 && sameL sameDat da1 da2)))))) ∧ Below w.heap.size w w' := by
  have z0 : nt ≤ mostThings := ht.1 ▸ hM1.typesMost
  have z1 : nf ≤ mostThings := hf.1 ▸ hM1.funcsMost
  have z2 : nm ≤ mostThings := hm.1 ▸ hM1.memoryMost
  have z3 : ng ≤ mostThings := hg.1 ▸ hM1.globalsMost
  have z4 : ne ≤ mostThings := he.1 ▸ hM1.exportsMost
  have z5 : nd ≤ mostThings := hd.1 ▸ hM1.dataMost
  unfold mostThings at z0 z1 z2 z3 z4 z5
  have HM1 := Lib.hid hM1
  have HM2 := Lib.hid hM2
  have HN := Lib.hid (And.intro ht (And.intro hf (And.intro hm (And.intro hg (And.intro he hd)))))
  clear hM1 hM2 ht hf hm hg he hd
  obtain ⟨R, hR⟩ : ∃ R, R = (sameL sameTy ty1 ty2 && (sameL sameFn fn1 fn2 && (sameL sameMem me1 me2 && (sameL sameGlob gl1 gl2 && (sameL sameExp ex1 ex2 && sameL sameDat da1 da2))))) := ⟨_, rfl⟩
  rw [← hR]
  have HR : Hid (R = (true && (sameL sameTy (ty1.drop 0) (ty2.drop 0) && (sameL sameFn fn1 fn2 && (sameL sameMem me1 me2 && (sameL sameGlob gl1 gl2 && (sameL sameExp ex1 ex2 && sameL sameDat da1 da2))))))) := Lib.hid hR
  clear hR
  have hB0 := ((Below.refl w.heap.size w).alloc (Nat.le_refl _) (.cells #[.slice tp1 nt tc1, .slice fp1 nf fc1, .slice mp1 nm mc1, .slice gp1 ng gc1, .slice ep1 ne ec1, .int .i64 st, .slice dp1 nd dc1] 29)).alloc (by simp) (.cells #[.slice tp2 nt tc2, .slice fp2 nf fc2, .slice mp2 nm mc2, .slice gp2 ng gc2, .slice ep2 ne ec2, .int .i64 st, .slice dp2 nd dc2] 29)
  have hB := Below.refl (w.heap.size + 1 + 1) ((w.alloc (.cells #[.slice tp1 nt tc1, .slice fp1 nf fc1, .slice mp1 nm mc1, .slice gp1 ng gc1, .slice ep1 ne ec1, .int .i64 st, .slice dp1 nd dc1] 29)).alloc (.cells #[.slice tp2 nt tc2, .slice fp2 nf fc2, .slice mp2 nm mc2, .slice gp2 ng gc2, .slice ep2 ne ec2, .int .i64 st, .slice dp2 nd dc2] 29))
  have hs : w.heap.size + 1 + 1 ≤ ((w.alloc (.cells #[.slice tp1 nt tc1, .slice fp1 nf fc1, .slice mp1 nm mc1, .slice gp1 ng gc1, .slice ep1 ne ec1, .int .i64 st, .slice dp1 nd dc1] 29)).alloc (.cells #[.slice tp2 nt tc2, .slice fp2 nf fc2, .slice mp2 nm mc2, .slice gp2 ng gc2, .slice ep2 ne ec2, .int .i64 st, .slice dp2 nd dc2] 29)).heap.size := by simp
  go_enter Tryz.func20, Tryz.ntmps20
  go_wp2
  go_loopw [5, 6] (fun f i wr => ∃ (k : Nat) (F : Bool), k ≤ nt ∧ f = .bool F ∧ i = .int .i64 k ∧ Below (w.heap.size + 1 + 1) ((w.alloc (.cells #[.slice tp1 nt tc1, .slice fp1 nf fc1, .slice mp1 nm mc1, .slice gp1 ng gc1, .slice ep1 ne ec1, .int .i64 st, .slice dp1 nd dc1] 29)).alloc (.cells #[.slice tp2 nt tc2, .slice fp2 nf fc2, .slice mp2 nm mc2, .slice gp2 ng gc2, .slice ep2 ne ec2, .int .i64 st, .slice dp2 nd dc2] 29)) wr ∧ w.heap.size + 1 + 1 ≤ wr.heap.size ∧ Hid (R = (F && (sameL sameTy (ty1.drop k) (ty2.drop k) && (sameL sameFn fn1 fn2 && (sameL sameMem me1 me2 && (sameL sameGlob gl1 gl2 && (sameL sameExp ex1 ex2 && sameL sameDat da1 da2)))))))) (fun _ i _ => nt - (intOf i).toNat)
  case atStart => exact ⟨0, _, by omega, rfl, rfl, hB, hs, HR⟩
  case round =>
    clear HR hB hs
    obtain ⟨k, F, hk, rfl, rfl, hB, hs, HK⟩ := hrel
    have ⟨⟨c0, c1, c2, c3, c4, c5, c6⟩, d0, d1, d2, d3, d4, d5, d6⟩ := boxMM hB
    have hBw : Below w.heap.size w wr := hB0.trans (hB.mono (by omega))
    by_cases hlt : k < nt
    · have h1 : k < ty1.length := by have := HN.out; omega
      have h2 : k < ty2.length := by have := HN.out; omega
      have hr1 := HM1.out.types.below hBw (Nat.le_refl _)
      have hr2 := HM2.out.types.below hBw (Nat.le_refl _)
      simp only at hr1 hr2
      obtain ⟨b1, o1, e1, hb1', x0⟩ := hr1 k h1 0 _ rfl
      obtain ⟨b2, o2, e2, hb2', y0⟩ := hr2 k h2 0 _ rfl
      subst e1 e2
      have x1 := hr1.cell h1 1 rfl
      have y1 := hr2.cell h2 1 rfl
      have hD := HK.out
      rw [sameL_drop h1 h2] at hD
      clear hr1 hr2 HK
      generalize ty1[k] = u at *
      generalize ty2[k] = v at *
      obtain ⟨ua, ub⟩ := u
      obtain ⟨va, vb⟩ := v
      simp only [Nat.add_zero] at x0 y0 x1 y1
      simp only [sameTy] at hD
      cases F with
      | false =>
        have HD := Lib.hid (show R = (false && true) by rw [hD]; simp)
        clear hD
        go_wp2
        go_quiet (fail)
        go_wp2
        go_roundw
        case rel => exact ⟨k + 1, _, by omega, rfl, by go_num, bdrewN hB _, hs, Lib.hid (by have hq := HD.out; simpa using hq)⟩
        case measure => simp [intOf]; omega
      | true =>
        by_cases ea : ua = va
        · subst ea
          by_cases eb : ub = vb
          · subst eb
            simp only [and_self, decide_true, Bool.true_and] at hD
            have HD := Lib.hid hD
            clear hD
            go_wp2
            go_quiet (fail)
            go_wp2
            go_roundw
            case rel => exact ⟨k + 1, _, by omega, rfl, by go_num, bdrewN hB _, hs, Lib.hid (by have hq := HD.out; simpa using hq)⟩
            case measure => simp [intOf]; omega
          · have nb : (ub.toList == vb.toList) = false := name_ne eb
            have HD := Lib.hid (show R = (false && true) by rw [hD]; simp [eb])
            clear hD
            go_wp2
            go_quiet (fail)
            go_wp2
            go_roundw
            case rel => exact ⟨k + 1, _, by omega, rfl, by go_num, bdrewN hB _, hs, Lib.hid (by have hq := HD.out; simpa using hq)⟩
            case measure => simp [intOf]; omega
        · have na : (ua.toList == va.toList) = false := name_ne ea
          have HD := Lib.hid (show R = (false && true) by rw [hD]; simp [ea])
          clear hD
          go_wp2
          go_quiet (fail)
          go_wp2
          go_roundw
          case rel => exact ⟨k + 1, _, by omega, rfl, by go_num, bdrewN hB _, hs, Lib.hid (by have hq := HD.out; simpa using hq)⟩
          case measure => simp [intOf]; omega
    · have hk' : ty1.length ≤ k ∧ ty2.length ≤ k := by have := HN.out; omega
      have hD := HK.out
      rw [List.drop_eq_nil_of_le hk'.1, List.drop_eq_nil_of_le hk'.2, sameL, Bool.true_and] at hD
      have HR := Lib.hid hD
      clear hD HK
      have HR : Hid (R = (F && (sameL sameFn (fn1.drop 0) (fn2.drop 0) && (sameL sameMem me1 me2 && (sameL sameGlob gl1 gl2 && (sameL sameExp ex1 ex2 && sameL sameDat da1 da2)))))) := HR
      go_wp2
      clear hk' hk hlt c0 c1 c2 c3 c4 c5 c6 d0 d1 d2 d3 d4 d5 d6 hBw
      go_loopw [5, 7] (fun f i wr => ∃ (k : Nat) (F : Bool), k ≤ nf ∧ f = .bool F ∧ i = .int .i64 k ∧ Below (w.heap.size + 1 + 1) ((w.alloc (.cells #[.slice tp1 nt tc1, .slice fp1 nf fc1, .slice mp1 nm mc1, .slice gp1 ng gc1, .slice ep1 ne ec1, .int .i64 st, .slice dp1 nd dc1] 29)).alloc (.cells #[.slice tp2 nt tc2, .slice fp2 nf fc2, .slice mp2 nm mc2, .slice gp2 ng gc2, .slice ep2 ne ec2, .int .i64 st, .slice dp2 nd dc2] 29)) wr ∧ w.heap.size + 1 + 1 ≤ wr.heap.size ∧ Hid (R = (F && (sameL sameFn (fn1.drop k) (fn2.drop k) && (sameL sameMem me1 me2 && (sameL sameGlob gl1 gl2 && (sameL sameExp ex1 ex2 && sameL sameDat da1 da2))))))) (fun _ i _ => nf - (intOf i).toNat)
      case atStart => exact ⟨0, _, by omega, rfl, rfl, hB, hs, HR⟩
      case round =>
        clear HR hB hs
        obtain ⟨k, F, hk, rfl, rfl, hB, hs, HK⟩ := hrel
        have ⟨⟨c0, c1, c2, c3, c4, c5, c6⟩, d0, d1, d2, d3, d4, d5, d6⟩ := boxMM hB
        have hBw : Below w.heap.size w wr := hB0.trans (hB.mono (by omega))
        by_cases hlt : k < nf
        · have h1 : k < fn1.length := by have := HN.out; omega
          have h2 : k < fn2.length := by have := HN.out; omega
          have hr1 := HM1.out.funcs.below hBw (Nat.le_refl _)
          have hr2 := HM2.out.funcs.below hBw (Nat.le_refl _)
          simp only at hr1 hr2
          obtain ⟨b1, o1, e1, hb1', x0⟩ := hr1 k h1 0 _ rfl
          obtain ⟨b2, o2, e2, hb2', y0⟩ := hr2 k h2 0 _ rfl
          subst e1 e2
          have x1 := hr1.cell h1 1 rfl
          have y1 := hr2.cell h2 1 rfl
          have x2 := hr1.cell h1 2 rfl
          have y2 := hr2.cell h2 2 rfl
          have hin1 := HM1.out.funcsIn fn1[k] (List.getElem_mem h1)
          have hin2 := HM2.out.funcsIn fn2[k] (List.getElem_mem h2)
          have hD := HK.out
          rw [sameL_drop h1 h2] at hD
          clear hr1 hr2 HK
          generalize fn1[k] = u at *
          generalize fn2[k] = v at *
          obtain ⟨ua, ub, up, uc, ul⟩ := u
          obtain ⟨va, vb, vp, vc, vl⟩ := v
          simp only [Nat.add_zero] at x0 y0 x1 y1 x2 y2
          have cf := fun W (hW : Below wr.heap.size wr W) => ref_sameFn ⟨ua, ub, up, uc, ul⟩ ⟨va, vb, vp, vc, vl⟩ W ((hin1.below hBw (Nat.le_refl _)).below hW (Nat.le_refl _)) ((hin2.below hBw (Nat.le_refl _)).below hW (Nat.le_refl _))
          simp only [FnV.val] at cf
          generalize sameFn ⟨ua, ub, up, uc, ul⟩ ⟨va, vb, vp, vc, vl⟩ = B1 at cf hD
          generalize ul.length = nu at *
          generalize vl.length = nv at *
          have HD := Lib.hid hD
          clear hD hin1 hin2
          go_wp2_with fail
          go_region_with (go_at_call 67; refine (cf _ ?_).mono ?_; (first | exact (Below.refl _ _).drew | exact Below.refl _ _); rintro e w1 ⟨rfl, hb1⟩)
          all_goals
            have hB2 := hB.drew.trans (hb1.mono (by show _ ≤ wr.heap.size; omega))
            have hs2 : w.heap.size + 1 + 1 ≤ w1.heap.size := Nat.le_trans hs hb1.size
            clear hB hs hb1 cf
            cases F
            all_goals
              go_wp2
              go_roundw
              case rel => exact ⟨k + 1, _, by omega, rfl, by go_num, hB2, hs2, Lib.hid (by have hq := HD.out; first | exact hq | (rw [hq]; simp; done) | (rw [hq]; simp [Bool.and_assoc]))⟩
              case measure => simp [intOf]; omega
        · have hk' : fn1.length ≤ k ∧ fn2.length ≤ k := by have := HN.out; omega
          have hD := HK.out
          rw [List.drop_eq_nil_of_le hk'.1, List.drop_eq_nil_of_le hk'.2, sameL, Bool.true_and] at hD
          have HR := Lib.hid hD
          clear hD HK
          have HR : Hid (R = (F && (sameL sameMem (me1.drop 0) (me2.drop 0) && (sameL sameGlob gl1 gl2 && (sameL sameExp ex1 ex2 && sameL sameDat da1 da2))))) := HR
          go_wp2
          clear hk' hk hlt c0 c1 c2 c3 c4 c5 c6 d0 d1 d2 d3 d4 d5 d6 hBw
          go_loopw [5, 9] (fun f i wr => ∃ (k : Nat) (F : Bool), k ≤ nm ∧ f = .bool F ∧ i = .int .i64 k ∧ Below (w.heap.size + 1 + 1) ((w.alloc (.cells #[.slice tp1 nt tc1, .slice fp1 nf fc1, .slice mp1 nm mc1, .slice gp1 ng gc1, .slice ep1 ne ec1, .int .i64 st, .slice dp1 nd dc1] 29)).alloc (.cells #[.slice tp2 nt tc2, .slice fp2 nf fc2, .slice mp2 nm mc2, .slice gp2 ng gc2, .slice ep2 ne ec2, .int .i64 st, .slice dp2 nd dc2] 29)) wr ∧ w.heap.size + 1 + 1 ≤ wr.heap.size ∧ Hid (R = (F && (sameL sameMem (me1.drop k) (me2.drop k) && (sameL sameGlob gl1 gl2 && (sameL sameExp ex1 ex2 && sameL sameDat da1 da2)))))) (fun _ i _ => nm - (intOf i).toNat)
          case atStart => exact ⟨0, _, by omega, rfl, rfl, hB, hs, HR⟩
          case round =>
            clear HR hB hs
            obtain ⟨k, F, hk, rfl, rfl, hB, hs, HK⟩ := hrel
            have ⟨⟨c0, c1, c2, c3, c4, c5, c6⟩, d0, d1, d2, d3, d4, d5, d6⟩ := boxMM hB
            have hBw : Below w.heap.size w wr := hB0.trans (hB.mono (by omega))
            by_cases hlt : k < nm
            · have h1 : k < me1.length := by have := HN.out; omega
              have h2 : k < me2.length := by have := HN.out; omega
              have hr1 := HM1.out.memory.below hBw (Nat.le_refl _)
              have hr2 := HM2.out.memory.below hBw (Nat.le_refl _)
              simp only at hr1 hr2
              obtain ⟨b1, o1, e1, hb1', x0⟩ := hr1 k h1 0 _ rfl
              obtain ⟨b2, o2, e2, hb2', y0⟩ := hr2 k h2 0 _ rfl
              subst e1 e2
              have x1 := hr1.cell h1 1 rfl
              have y1 := hr2.cell h2 1 rfl
              have hD := HK.out
              rw [sameL_drop h1 h2] at hD
              clear hr1 hr2 HK
              generalize me1[k] = u at *
              generalize me2[k] = v at *
              obtain ⟨ua, ub⟩ := u
              obtain ⟨va, vb⟩ := v
              simp only [Nat.add_zero] at x0 y0 x1 y1
              simp only [sameMem] at hD
              cases F with
              | false =>
                have HD := Lib.hid (show R = (false && true) by rw [hD]; simp)
                clear hD
                go_wp2
                go_quiet (fail)
                go_wp2
                go_roundw
                case rel => exact ⟨k + 1, _, by omega, rfl, by go_num, bdrewN hB _, hs, Lib.hid (by have hq := HD.out; simpa using hq)⟩
                case measure => simp [intOf]; omega
              | true =>
                by_cases ea : ua = va
                · subst ea
                  by_cases eb : ub = vb
                  · subst eb
                    simp only [and_self, decide_true, Bool.true_and] at hD
                    have HD := Lib.hid hD
                    clear hD
                    go_wp2
                    go_quiet (fail)
                    go_wp2
                    go_roundw
                    case rel => exact ⟨k + 1, _, by omega, rfl, by go_num, bdrewN hB _, hs, Lib.hid (by have hq := HD.out; simpa using hq)⟩
                    case measure => simp [intOf]; omega
                  · have nb : (ub == vb) = false := (by simpa using eb : (ub == vb) = false)
                    have HD := Lib.hid (show R = (false && true) by rw [hD]; simp [eb])
                    clear hD
                    go_wp2
                    go_quiet (fail)
                    go_wp2
                    go_roundw
                    case rel => exact ⟨k + 1, _, by omega, rfl, by go_num, bdrewN hB _, hs, Lib.hid (by have hq := HD.out; simpa using hq)⟩
                    case measure => simp [intOf]; omega
                · have na : (ua == va) = false := (by simpa using ea : (ua == va) = false)
                  have HD := Lib.hid (show R = (false && true) by rw [hD]; simp [ea])
                  clear hD
                  go_wp2
                  go_quiet (fail)
                  go_wp2
                  go_roundw
                  case rel => exact ⟨k + 1, _, by omega, rfl, by go_num, bdrewN hB _, hs, Lib.hid (by have hq := HD.out; simpa using hq)⟩
                  case measure => simp [intOf]; omega
            · have hk' : me1.length ≤ k ∧ me2.length ≤ k := by have := HN.out; omega
              have hD := HK.out
              rw [List.drop_eq_nil_of_le hk'.1, List.drop_eq_nil_of_le hk'.2, sameL, Bool.true_and] at hD
              have HR := Lib.hid hD
              clear hD HK
              have HR : Hid (R = (F && (sameL sameGlob (gl1.drop 0) (gl2.drop 0) && (sameL sameExp ex1 ex2 && sameL sameDat da1 da2)))) := HR
              go_wp2
              clear hk' hk hlt c0 c1 c2 c3 c4 c5 c6 d0 d1 d2 d3 d4 d5 d6 hBw
              go_loopw [5, 10] (fun f i wr => ∃ (k : Nat) (F : Bool), k ≤ ng ∧ f = .bool F ∧ i = .int .i64 k ∧ Below (w.heap.size + 1 + 1) ((w.alloc (.cells #[.slice tp1 nt tc1, .slice fp1 nf fc1, .slice mp1 nm mc1, .slice gp1 ng gc1, .slice ep1 ne ec1, .int .i64 st, .slice dp1 nd dc1] 29)).alloc (.cells #[.slice tp2 nt tc2, .slice fp2 nf fc2, .slice mp2 nm mc2, .slice gp2 ng gc2, .slice ep2 ne ec2, .int .i64 st, .slice dp2 nd dc2] 29)) wr ∧ w.heap.size + 1 + 1 ≤ wr.heap.size ∧ Hid (R = (F && (sameL sameGlob (gl1.drop k) (gl2.drop k) && (sameL sameExp ex1 ex2 && sameL sameDat da1 da2))))) (fun _ i _ => ng - (intOf i).toNat)
              case atStart => exact ⟨0, _, by omega, rfl, rfl, hB, hs, HR⟩
              case round =>
                clear HR hB hs
                obtain ⟨k, F, hk, rfl, rfl, hB, hs, HK⟩ := hrel
                have ⟨⟨c0, c1, c2, c3, c4, c5, c6⟩, d0, d1, d2, d3, d4, d5, d6⟩ := boxMM hB
                have hBw : Below w.heap.size w wr := hB0.trans (hB.mono (by omega))
                by_cases hlt : k < ng
                · have h1 : k < gl1.length := by have := HN.out; omega
                  have h2 : k < gl2.length := by have := HN.out; omega
                  have hr1 := HM1.out.globals.below hBw (Nat.le_refl _)
                  have hr2 := HM2.out.globals.below hBw (Nat.le_refl _)
                  simp only at hr1 hr2
                  obtain ⟨b1, o1, e1, hb1', x0⟩ := hr1 k h1 0 _ rfl
                  obtain ⟨b2, o2, e2, hb2', y0⟩ := hr2 k h2 0 _ rfl
                  subst e1 e2
                  have x1 := hr1.cell h1 1 rfl
                  have y1 := hr2.cell h2 1 rfl
                  have x2 := hr1.cell h1 2 rfl
                  have y2 := hr2.cell h2 2 rfl
                  have hD := HK.out
                  rw [sameL_drop h1 h2] at hD
                  clear hr1 hr2 HK
                  generalize gl1[k] = u at *
                  generalize gl2[k] = v at *
                  obtain ⟨ua, uc, ub⟩ := u
                  obtain ⟨va, vc, vb⟩ := v
                  simp only [Nat.add_zero] at x0 y0 x1 y1 x2 y2
                  simp only [sameGlob] at hD
                  cases F with
                  | false =>
                    have HD := Lib.hid (show R = (false && true) by rw [hD]; simp)
                    clear hD
                    go_wp2
                    go_quiet (fail)
                    go_wp2
                    go_roundw
                    case rel => exact ⟨k + 1, _, by omega, rfl, by go_num, bdrewN hB _, hs, Lib.hid (by have hq := HD.out; simpa using hq)⟩
                    case measure => simp [intOf]; omega
                  | true =>
                    by_cases ea : ua = va
                    · subst ea
                      by_cases ec : uc = vc
                      · subst ec
                        by_cases eb : ub = vb
                        · subst eb
                          simp only [and_self, decide_true, Bool.true_and] at hD
                          have HD := Lib.hid hD
                          clear hD
                          go_wp2
                          go_quiet (fail)
                          go_wp2
                          go_roundw
                          case rel => exact ⟨k + 1, _, by omega, rfl, by go_num, bdrewN hB _, hs, Lib.hid (by have hq := HD.out; simpa using hq)⟩
                          case measure => simp [intOf]; omega
                        · have nb : (ub == vb) = false := (by simpa using eb : (ub == vb) = false)
                          have HD := Lib.hid (show R = (false && true) by rw [hD]; simp [eb])
                          clear hD
                          go_wp2
                          go_quiet (fail)
                          go_wp2
                          go_roundw
                          case rel => exact ⟨k + 1, _, by omega, rfl, by go_num, bdrewN hB _, hs, Lib.hid (by have hq := HD.out; simpa using hq)⟩
                          case measure => simp [intOf]; omega
                      · have nc : (uc == vc) = false := (by simpa using ec : (uc == vc) = false)
                        have HD := Lib.hid (show R = (false && true) by rw [hD]; simp [ec])
                        clear hD
                        go_wp2
                        go_quiet (fail)
                        go_wp2
                        go_roundw
                        case rel => exact ⟨k + 1, _, by omega, rfl, by go_num, bdrewN hB _, hs, Lib.hid (by have hq := HD.out; simpa using hq)⟩
                        case measure => simp [intOf]; omega
                    · have na : (ua == va) = false := (by simpa using ea : (ua == va) = false)
                      have HD := Lib.hid (show R = (false && true) by rw [hD]; simp [ea])
                      clear hD
                      go_wp2
                      go_quiet (fail)
                      go_wp2
                      go_roundw
                      case rel => exact ⟨k + 1, _, by omega, rfl, by go_num, bdrewN hB _, hs, Lib.hid (by have hq := HD.out; simpa using hq)⟩
                      case measure => simp [intOf]; omega
                · have hk' : gl1.length ≤ k ∧ gl2.length ≤ k := by have := HN.out; omega
                  have hD := HK.out
                  rw [List.drop_eq_nil_of_le hk'.1, List.drop_eq_nil_of_le hk'.2, sameL, Bool.true_and] at hD
                  have HR := Lib.hid hD
                  clear hD HK
                  have HR : Hid (R = (F && (sameL sameExp (ex1.drop 0) (ex2.drop 0) && sameL sameDat da1 da2))) := HR
                  go_wp2
                  clear hk' hk hlt c0 c1 c2 c3 c4 c5 c6 d0 d1 d2 d3 d4 d5 d6 hBw
                  go_loopw [5, 11] (fun f i wr => ∃ (k : Nat) (F : Bool), k ≤ ne ∧ f = .bool F ∧ i = .int .i64 k ∧ Below (w.heap.size + 1 + 1) ((w.alloc (.cells #[.slice tp1 nt tc1, .slice fp1 nf fc1, .slice mp1 nm mc1, .slice gp1 ng gc1, .slice ep1 ne ec1, .int .i64 st, .slice dp1 nd dc1] 29)).alloc (.cells #[.slice tp2 nt tc2, .slice fp2 nf fc2, .slice mp2 nm mc2, .slice gp2 ng gc2, .slice ep2 ne ec2, .int .i64 st, .slice dp2 nd dc2] 29)) wr ∧ w.heap.size + 1 + 1 ≤ wr.heap.size ∧ Hid (R = (F && (sameL sameExp (ex1.drop k) (ex2.drop k) && sameL sameDat da1 da2)))) (fun _ i _ => ne - (intOf i).toNat)
                  case atStart => exact ⟨0, _, by omega, rfl, rfl, hB, hs, HR⟩
                  case round =>
                    clear HR hB hs
                    obtain ⟨k, F, hk, rfl, rfl, hB, hs, HK⟩ := hrel
                    have ⟨⟨c0, c1, c2, c3, c4, c5, c6⟩, d0, d1, d2, d3, d4, d5, d6⟩ := boxMM hB
                    have hBw : Below w.heap.size w wr := hB0.trans (hB.mono (by omega))
                    by_cases hlt : k < ne
                    · have h1 : k < ex1.length := by have := HN.out; omega
                      have h2 : k < ex2.length := by have := HN.out; omega
                      have hr1 := HM1.out.exports.below hBw (Nat.le_refl _)
                      have hr2 := HM2.out.exports.below hBw (Nat.le_refl _)
                      simp only at hr1 hr2
                      obtain ⟨b1, o1, e1, hb1', x0⟩ := hr1 k h1 0 _ rfl
                      obtain ⟨b2, o2, e2, hb2', y0⟩ := hr2 k h2 0 _ rfl
                      subst e1 e2
                      have x1 := hr1.cell h1 1 rfl
                      have y1 := hr2.cell h2 1 rfl
                      have x2 := hr1.cell h1 2 rfl
                      have y2 := hr2.cell h2 2 rfl
                      have hD := HK.out
                      rw [sameL_drop h1 h2] at hD
                      clear hr1 hr2 HK
                      generalize ex1[k] = u at *
                      generalize ex2[k] = v at *
                      obtain ⟨ua, ub, uc⟩ := u
                      obtain ⟨va, vb, vc⟩ := v
                      simp only [Nat.add_zero] at x0 y0 x1 y1 x2 y2
                      simp only [sameExp] at hD
                      cases F with
                      | false =>
                        have HD := Lib.hid (show R = (false && true) by rw [hD]; simp)
                        clear hD
                        go_wp2
                        go_quiet (fail)
                        go_wp2
                        go_roundw
                        case rel => exact ⟨k + 1, _, by omega, rfl, by go_num, bdrewN hB _, hs, Lib.hid (by have hq := HD.out; simpa using hq)⟩
                        case measure => simp [intOf]; omega
                      | true =>
                        by_cases ea : ua = va
                        · subst ea
                          by_cases eb : ub = vb
                          · subst eb
                            by_cases ec : uc = vc
                            · subst ec
                              simp only [and_self, decide_true, Bool.true_and] at hD
                              have HD := Lib.hid hD
                              clear hD
                              go_wp2
                              go_quiet (fail)
                              go_wp2
                              go_roundw
                              case rel => exact ⟨k + 1, _, by omega, rfl, by go_num, bdrewN hB _, hs, Lib.hid (by have hq := HD.out; simpa using hq)⟩
                              case measure => simp [intOf]; omega
                            · have nc : (uc == vc) = false := (by simpa using ec : (uc == vc) = false)
                              have HD := Lib.hid (show R = (false && true) by rw [hD]; simp [ec])
                              clear hD
                              go_wp2
                              go_quiet (fail)
                              go_wp2
                              go_roundw
                              case rel => exact ⟨k + 1, _, by omega, rfl, by go_num, bdrewN hB _, hs, Lib.hid (by have hq := HD.out; simpa using hq)⟩
                              case measure => simp [intOf]; omega
                          · have nb : (ub == vb) = false := (by simpa using eb : (ub == vb) = false)
                            have HD := Lib.hid (show R = (false && true) by rw [hD]; simp [eb])
                            clear hD
                            go_wp2
                            go_quiet (fail)
                            go_wp2
                            go_roundw
                            case rel => exact ⟨k + 1, _, by omega, rfl, by go_num, bdrewN hB _, hs, Lib.hid (by have hq := HD.out; simpa using hq)⟩
                            case measure => simp [intOf]; omega
                        · have na : (ua.toList == va.toList) = false := name_ne ea
                          have HD := Lib.hid (show R = (false && true) by rw [hD]; simp [ea])
                          clear hD
                          go_wp2
                          go_quiet (fail)
                          go_wp2
                          go_roundw
                          case rel => exact ⟨k + 1, _, by omega, rfl, by go_num, bdrewN hB _, hs, Lib.hid (by have hq := HD.out; simpa using hq)⟩
                          case measure => simp [intOf]; omega
                    · have hk' : ex1.length ≤ k ∧ ex2.length ≤ k := by have := HN.out; omega
                      have hD := HK.out
                      rw [List.drop_eq_nil_of_le hk'.1, List.drop_eq_nil_of_le hk'.2, sameL, Bool.true_and] at hD
                      have HR := Lib.hid hD
                      clear hD HK
                      have HR : Hid (R = (F && (sameL sameDat (da1.drop 0) (da2.drop 0) && true))) := Lib.hid (by have hq := HR.out; simpa using hq)
                      go_wp2
                      clear hk' hk hlt c0 c1 c2 c3 c4 c5 c6 d0 d1 d2 d3 d4 d5 d6 hBw
                      go_loopw [5, 12] (fun f i wr => ∃ (k : Nat) (F : Bool), k ≤ nd ∧ f = .bool F ∧ i = .int .i64 k ∧ Below (w.heap.size + 1 + 1) ((w.alloc (.cells #[.slice tp1 nt tc1, .slice fp1 nf fc1, .slice mp1 nm mc1, .slice gp1 ng gc1, .slice ep1 ne ec1, .int .i64 st, .slice dp1 nd dc1] 29)).alloc (.cells #[.slice tp2 nt tc2, .slice fp2 nf fc2, .slice mp2 nm mc2, .slice gp2 ng gc2, .slice ep2 ne ec2, .int .i64 st, .slice dp2 nd dc2] 29)) wr ∧ w.heap.size + 1 + 1 ≤ wr.heap.size ∧ Hid (R = (F && (sameL sameDat (da1.drop k) (da2.drop k) && true)))) (fun _ i _ => nd - (intOf i).toNat)
                      case atStart => exact ⟨0, _, by omega, rfl, rfl, hB, hs, HR⟩
                      case round =>
                        clear HR hB hs
                        obtain ⟨k, F, hk, rfl, rfl, hB, hs, HK⟩ := hrel
                        have ⟨⟨c0, c1, c2, c3, c4, c5, c6⟩, d0, d1, d2, d3, d4, d5, d6⟩ := boxMM hB
                        have hBw : Below w.heap.size w wr := hB0.trans (hB.mono (by omega))
                        by_cases hlt : k < nd
                        · have h1 : k < da1.length := by have := HN.out; omega
                          have h2 : k < da2.length := by have := HN.out; omega
                          have hr1 := HM1.out.data.below hBw (Nat.le_refl _)
                          have hr2 := HM2.out.data.below hBw (Nat.le_refl _)
                          simp only at hr1 hr2
                          obtain ⟨b1, o1, e1, hb1', x0⟩ := hr1 k h1 0 _ rfl
                          obtain ⟨b2, o2, e2, hb2', y0⟩ := hr2 k h2 0 _ rfl
                          subst e1 e2
                          have x1 := hr1.cell h1 1 rfl
                          have y1 := hr2.cell h2 1 rfl
                          have hD := HK.out
                          rw [sameL_drop h1 h2] at hD
                          clear hr1 hr2 HK
                          generalize da1[k] = u at *
                          generalize da2[k] = v at *
                          obtain ⟨ua, ub⟩ := u
                          obtain ⟨va, vb⟩ := v
                          simp only [Nat.add_zero] at x0 y0 x1 y1
                          simp only [sameDat] at hD
                          cases F with
                          | false =>
                            have HD := Lib.hid (show R = (false && true) by rw [hD]; simp)
                            clear hD
                            go_wp2
                            go_quiet (fail)
                            go_wp2
                            go_roundw
                            case rel => exact ⟨k + 1, _, by omega, rfl, by go_num, bdrewN hB _, hs, Lib.hid (by have hq := HD.out; simpa using hq)⟩
                            case measure => simp [intOf]; omega
                          | true =>
                            by_cases ea : ua = va
                            · subst ea
                              by_cases eb : ub = vb
                              · subst eb
                                simp only [and_self, decide_true, Bool.true_and] at hD
                                have HD := Lib.hid hD
                                clear hD
                                go_wp2
                                go_quiet (fail)
                                go_wp2
                                go_roundw
                                case rel => exact ⟨k + 1, _, by omega, rfl, by go_num, bdrewN hB _, hs, Lib.hid (by have hq := HD.out; simpa using hq)⟩
                                case measure => simp [intOf]; omega
                              · have nb : (ub.toList == vb.toList) = false := name_ne eb
                                have HD := Lib.hid (show R = (false && true) by rw [hD]; simp [eb])
                                clear hD
                                go_wp2
                                go_quiet (fail)
                                go_wp2
                                go_roundw
                                case rel => exact ⟨k + 1, _, by omega, rfl, by go_num, bdrewN hB _, hs, Lib.hid (by have hq := HD.out; simpa using hq)⟩
                                case measure => simp [intOf]; omega
                            · have na : (ua == va) = false := (by simpa using ea : (ua == va) = false)
                              have HD := Lib.hid (show R = (false && true) by rw [hD]; simp [ea])
                              clear hD
                              go_wp2
                              go_quiet (fail)
                              go_wp2
                              go_roundw
                              case rel => exact ⟨k + 1, _, by omega, rfl, by go_num, bdrewN hB _, hs, Lib.hid (by have hq := HD.out; simpa using hq)⟩
                              case measure => simp [intOf]; omega
                        · have hk' : da1.length ≤ k ∧ da2.length ≤ k := by have := HN.out; omega
                          have hD := HK.out
                          rw [List.drop_eq_nil_of_le hk'.1, List.drop_eq_nil_of_le hk'.2, sameL, Bool.true_and] at hD
                          have HR := Lib.hid hD
                          clear hD HK
                          go_wp2
                          go_ret
                          exact ⟨ret_bool (by have hq := HR.out; simpa using hq), hBw⟩

/-- The document's own answer, whole. -/
theorem ref_same (a b : MoV) (w : World) (hA : ModAt w a) (hB : ModAt w b) :
    Calls Tryz.prog 20 #[a.val, b.val] w fun e w' => e = .returned (.bool (sameMod a b)) ∧ Below w.heap.size w w' := by
  obtain ⟨tp1, tc1, ty1, fp1, fc1, fn1, mp1, mc1, me1, gp1, gc1, gl1, ep1, ec1, ex1, st1, dp1, dc1, da1⟩ := a
  obtain ⟨tp2, tc2, ty2, fp2, fc2, fn2, mp2, mc2, me2, gp2, gc2, gl2, ep2, ec2, ex2, st2, dp2, dc2, da2⟩ := b
  simp only [MoV.val]
  by_cases h : ty1.length = ty2.length ∧ fn1.length = fn2.length ∧ me1.length = me2.length ∧ gl1.length = gl2.length ∧ ex1.length = ex2.length ∧ da1.length = da2.length ∧ st1 = st2
  · obtain ⟨h0, h1, h2, h3, h4, h5, h6⟩ := h
    subst h6
    have c := ref_same_eq tp1 fp1 mp1 gp1 ep1 dp1 tp2 fp2 mp2 gp2 ep2 dp2 tc1 fc1 mc1 gc1 ec1 dc1 tc2 fc2 mc2 gc2 ec2 dc2 ty1 ty2 fn1 fn2 me1 me2 gl1 gl2 ex1 ex2 da1 da2 st1 _ _ _ _ _ _ ⟨rfl, h0.symm⟩ ⟨rfl, h1.symm⟩ ⟨rfl, h2.symm⟩ ⟨rfl, h3.symm⟩ ⟨rfl, h4.symm⟩ ⟨rfl, h5.symm⟩ w hA hB
    rw [← h0, ← h1, ← h2, ← h3, ← h4, ← h5]
    simpa [sameMod] using c
  · have c := ref_same_ne tp1 fp1 mp1 gp1 ep1 dp1 tp2 fp2 mp2 gp2 ep2 dp2 tc1 fc1 mc1 gc1 ec1 dc1 tc2 fc2 mc2 gc2 ec2 dc2 _ _ _ _ _ _ _ _ _ _ _ _ st1 st2 h w
    have e : sameMod ⟨tp1, tc1, ty1, fp1, fc1, fn1, mp1, mc1, me1, gp1, gc1, gl1, ep1, ec1, ex1, st1, dp1, dc1, da1⟩ ⟨tp2, tc2, ty2, fp2, fc2, fn2, mp2, mc2, me2, gp2, gc2, gl2, ep2, ec2, ex2, st2, dp2, dc2, da2⟩ = false := by
      unfold sameMod
      by_cases h6 : st1 = st2
      · by_cases h0 : ty1.length = ty2.length
        · by_cases h1 : fn1.length = fn2.length
          · by_cases h2 : me1.length = me2.length
            · by_cases h3 : gl1.length = gl2.length
              · by_cases h4 : ex1.length = ex2.length
                · rw [sameL_len (l := da1) (m := da2) (fun e => h ⟨h0, h1, h2, h3, h4, e, h6⟩)]; simp
                · rw [sameL_len (l := ex1) (m := ex2) h4]; simp
              · rw [sameL_len (l := gl1) (m := gl2) h3]; simp
            · rw [sameL_len (l := me1) (m := me2) h2]; simp
          · rw [sameL_len (l := fn1) (m := fn2) h1]; simp
        · rw [sameL_len (l := ty1) (m := ty2) h0]; simp
      · simp [h6]
    rw [e]
    exact c
end Go.Proofs.YtnonedmkdcbmfaaGreatDoor
