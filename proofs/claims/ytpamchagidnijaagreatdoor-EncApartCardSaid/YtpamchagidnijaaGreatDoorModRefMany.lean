/-
  A module with too many things, or a Start without room, is not right, by the document's own answer (chapter 4): walked. No statement is proved here.
-/
import Derived.Test.YtpamchagidnijaaGreatDoorModAt
namespace Go.Proofs.YtpamchagidnijaaGreatDoor
open Go.RowKit

/-- A module's cells, as they were laid, behind whatever follows. -/
theorem boxM {w w1 : World} {a b c d e f g : Value} {t : TypeId} (hB : Below (w.heap.size + 1) (w.alloc (.cells #[a, b, c, d, e, f, g] t)) w1) :
    w1.cell? ⟨w.heap.size, 0, none⟩ = some a ∧ w1.cell? ⟨w.heap.size, 1, none⟩ = some b ∧ w1.cell? ⟨w.heap.size, 2, none⟩ = some c ∧ w1.cell? ⟨w.heap.size, 3, none⟩ = some d ∧ w1.cell? ⟨w.heap.size, 4, none⟩ = some e ∧ w1.cell? ⟨w.heap.size, 5, none⟩ = some f ∧ w1.cell? ⟨w.heap.size, 6, none⟩ = some g := by
  have h : ∀ j, w1.cell? ⟨w.heap.size, j, none⟩ = #[a, b, c, d, e, f, g][j]? := fun j => by rw [hB.cell (p := ⟨w.heap.size, j, none⟩) (by show w.heap.size < _; omega), World.cell?_alloc_new]
  exact ⟨h 0, h 1, h 2, h 3, h 4, h 5, h 6⟩

set_option maxRecDepth 100000 in
set_option maxHeartbeats 4000000 in
theorem ref_many (tp fp mp gp ep dp : Option Addr) (tc fc mc gc ec dc : Nat) (nt nf nm ng ne nd : Nat) (st : Int) (h : ¬ (nt ≤ 4096 ∧ nf ≤ 4096 ∧ nm ≤ 4096 ∧ ng ≤ 4096 ∧ ne ≤ 4096 ∧ nd ≤ 4096 ∧ (st = -1 ∨ word4 st = true))) (w : World) :
    Calls Tryz.prog 34 #[.agg #[.slice tp nt tc, .slice fp nf fc, .slice mp nm mc, .slice gp ng gc, .slice ep ne ec, .int .i64 st, .slice dp nd dc]] w fun e w' => e = .returned (.bool false) ∧ Below w.heap.size w w' := by
  have hB := (Below.refl w.heap.size w).alloc (Nat.le_refl _) (.cells #[.slice tp nt tc, .slice fp nf fc, .slice mp nm mc, .slice gp ng gc, .slice ep ne ec, .int .i64 st, .slice dp nd dc] 31)
  have cw := ref_word4 st
  by_cases h0 : nt ≤ 4096
  · have g0 : (nt : Int) ≤ 4096 := by omega
    by_cases h1 : nf ≤ 4096
    · have g1 : (nf : Int) ≤ 4096 := by omega
      by_cases h2 : nm ≤ 4096
      · have g2 : (nm : Int) ≤ 4096 := by omega
        by_cases h3 : ng ≤ 4096
        · have g3 : (ng : Int) ≤ 4096 := by omega
          by_cases h4 : ne ≤ 4096
          · have g4 : (ne : Int) ≤ 4096 := by omega
            by_cases h5 : nd ≤ 4096
            · have g5 : (nd : Int) ≤ 4096 := by omega
              have hs : st ≠ -1 ∧ word4 st = false := by
                refine ⟨fun e => h ⟨h0, h1, h2, h3, h4, h5, .inl e⟩, ?_⟩
                cases hw : word4 st with
                | false => rfl
                | true => exact absurd ⟨h0, h1, h2, h3, h4, h5, .inr hw⟩ h
              rw [hs.2] at cw
              have n1 : (st != -1) = true := by simpa using hs.1
              clear h hs
              go_enter Tryz.func34, Tryz.ntmps34
              go_wp2_with (go_at_call 118; (with_reducible refine (cw _).mono ?_); rintro e w' ⟨rfl, rfl⟩)
              go_ret
              exact ⟨rfl, hB⟩
            · have g5 : (4096 : Int) < nd := by omega
              clear h cw
              go_enter Tryz.func34, Tryz.ntmps34
              go_wp2
              go_ret
              exact ⟨rfl, hB⟩
          · have g4 : (4096 : Int) < ne := by omega
            clear h cw
            go_enter Tryz.func34, Tryz.ntmps34
            go_wp2
            go_ret
            exact ⟨rfl, hB⟩
        · have g3 : (4096 : Int) < ng := by omega
          clear h cw
          go_enter Tryz.func34, Tryz.ntmps34
          go_wp2
          go_ret
          exact ⟨rfl, hB⟩
      · have g2 : (4096 : Int) < nm := by omega
        clear h cw
        go_enter Tryz.func34, Tryz.ntmps34
        go_wp2
        go_ret
        exact ⟨rfl, hB⟩
    · have g1 : (4096 : Int) < nf := by omega
      clear h cw
      go_enter Tryz.func34, Tryz.ntmps34
      go_wp2
      go_ret
      exact ⟨rfl, hB⟩
  · have g0 : (4096 : Int) < nt := by omega
    clear h cw
    go_enter Tryz.func34, Tryz.ntmps34
    go_wp2
    go_ret
    exact ⟨rfl, hB⟩
end Go.Proofs.YtpamchagidnijaaGreatDoor

namespace Go.Proofs.YtpamchagidnijaaGreatDoor
open Go.RowKit


set_option maxRecDepth 100000 in
set_option maxHeartbeats 16000000 in
theorem ref_rightMod_none (tp fp mp gp ep dp : Option Addr) (tc fc mc gc ec dc : Nat) (ty : List TyV) (fn : List FnV) (me : List MemV) (gl : List GlobV) (ex : List ExpV) (da : List DatV) (st : Int) (hst : st = -1) (nt nf nm ng ne nd : Nat) (ht : ty.length = nt) (hf : fn.length = nf) (hm : me.length = nm) (hg : gl.length = ng) (he : ex.length = ne) (hd : da.length = nd) (g0 : nt ≤ 4096) (g1 : nf ≤ 4096) (g2 : nm ≤ 4096) (g3 : ng ≤ 4096) (g4 : ne ≤ 4096) (g5 : nd ≤ 4096) (w : World) (hM : ModAt w ⟨tp, tc, ty, fp, fc, fn, mp, mc, me, gp, gc, gl, ep, ec, ex, st, dp, dc, da⟩) :
    Calls Tryz.prog 34 #[.agg #[.slice tp nt tc, .slice fp nf fc, .slice mp nm mc, .slice gp ng gc, .slice ep ne ec, .int .i64 st, .slice dp nd dc]] w fun e w' => e = .returned (.bool (ty.all rightTy && (fn.all rightFn && (me.all rightMem && (gl.all rightGlob && (ex.all rightExp && da.all rightDat)))))) ∧ Below w.heap.size w w' := by
  have HM := Lib.hid hM
  have HN := Lib.hid (And.intro ht (And.intro hf (And.intro hm (And.intro hg (And.intro he hd)))))
  clear hM ht hf hm hg he hd
  obtain ⟨R, hR⟩ : ∃ R, R = (ty.all rightTy && (fn.all rightFn && (me.all rightMem && (gl.all rightGlob && (ex.all rightExp && da.all rightDat))))) := ⟨_, rfl⟩
  rw [← hR]
  have HR : Hid (R = (true && ((ty.drop 0).all rightTy && (fn.all rightFn && (me.all rightMem && (gl.all rightGlob && (ex.all rightExp && da.all rightDat))))))) := Lib.hid hR
  clear hR
  have hB := Below.refl (w.heap.size + 1) (w.alloc (.cells #[.slice tp nt tc, .slice fp nf fc, .slice mp nm mc, .slice gp ng gc, .slice ep ne ec, .int .i64 st, .slice dp nd dc] 31))
  have hs : w.heap.size + 1 ≤ (w.alloc (.cells #[.slice tp nt tc, .slice fp nf fc, .slice mp nm mc, .slice gp ng gc, .slice ep ne ec, .int .i64 st, .slice dp nd dc] 31)).heap.size := by simp
  have n1 : (st != -1) = false := by simp [hst]
  clear hst
  go_enter Tryz.func34, Tryz.ntmps34
  go_wp2
  go_loopw [3, 4] (fun f i wr => ∃ (k : Nat) (F : Bool), k ≤ nt ∧ f = .bool F ∧ i = .int .i64 k ∧ Below (w.heap.size + 1) (w.alloc (.cells #[.slice tp nt tc, .slice fp nf fc, .slice mp nm mc, .slice gp ng gc, .slice ep ne ec, .int .i64 st, .slice dp nd dc] 31)) wr ∧ w.heap.size + 1 ≤ wr.heap.size ∧ Hid (R = (F && ((ty.drop k).all rightTy && (fn.all rightFn && (me.all rightMem && (gl.all rightGlob && (ex.all rightExp && da.all rightDat)))))))) (fun _ i _ => nt - (intOf i).toNat)
  case atStart => exact ⟨0, _, by omega, rfl, rfl, hB, hs, HR⟩
  case round =>
    clear HR hB hs
    obtain ⟨k, F, hk, rfl, rfl, hB, hs, HK⟩ := hrel
    have ⟨c0, c1, c2, c3, c4, c5, c6⟩ := boxM hB
    have hBw : Below w.heap.size w wr := ((Below.refl _ w).alloc (Nat.le_refl _) _).trans (hB.mono (by omega))
    by_cases hlt : k < nt
    · have hlt' : k < ty.length := by have := HN.out; omega
      have hrows := HM.out.types.below hBw (Nat.le_refl _)
      simp only at hrows
      obtain ⟨b, o, e, hb, x0⟩ := hrows k hlt' 0 _ rfl
      subst e
      have x1 := hrows.cell hlt' 1 rfl
      have hin := HM.out.typesIn ty[k] (List.getElem_mem hlt')
      have hD := HK.out
      rw [List.drop_eq_getElem_cons hlt', List.all_cons] at hD
      clear hrows HK
      generalize ty[k] = t at *
      obtain ⟨ta, tb⟩ := t
      simp only [Nat.add_zero] at x0 x1 hin
      have ca := ref_types ta 4096 hin.1
      have cb := ref_types tb 1 hin.2
      simp only [rightTy] at hD
      generalize vtypes ta.data.toList 4096 = B1 at ca hD
      generalize vtypes tb.data.toList 1 = B2 at cb hD
      have HD := Lib.hid hD
      clear hD hin
      cases F
      · go_wp2
        go_roundw
        case rel => exact ⟨k + 1, _, by omega, rfl, by go_num, hB, hs, Lib.hid (by have hq := HD.out; first | exact hq | (rw [hq]; simp; done) | (rw [hq]; simp [Bool.and_assoc]))⟩
        case measure => simp [intOf]; omega
      · cases B1
        · go_wp2_with (first  | (go_at_call 119; (with_reducible refine (ca _).mono ?_); rintro e w' ⟨rfl, rfl⟩))
          go_roundw
          case rel => exact ⟨k + 1, _, by omega, rfl, by go_num, hB, hs, Lib.hid (by have hq := HD.out; first | exact hq | (rw [hq]; simp; done) | (rw [hq]; simp [Bool.and_assoc]))⟩
          case measure => simp [intOf]; omega
        · go_wp2_with (first  | (go_at_call 119; (with_reducible refine (ca _).mono ?_); rintro e w' ⟨rfl, rfl⟩) | (go_at_call 119; (with_reducible refine (cb _).mono ?_); rintro e w' ⟨rfl, rfl⟩))
          go_roundw
          case rel => exact ⟨k + 1, _, by omega, rfl, by go_num, hB, hs, Lib.hid (by have hq := HD.out; first | exact hq | (rw [hq]; simp; done) | (rw [hq]; simp [Bool.and_assoc]))⟩
          case measure => simp [intOf]; omega
    · have hk' : ty.length ≤ k := by have := HN.out; omega
      have hD := HK.out
      rw [List.drop_eq_nil_of_le hk', List.all_nil, Bool.true_and] at hD
      have HR := Lib.hid hD
      clear hD HK
      have HR : Hid (R = (F && ((fn.drop 0).all rightFn && (me.all rightMem && (gl.all rightGlob && (ex.all rightExp && da.all rightDat)))))) := HR
      go_wp2
      clear hk' hk hlt c0 c1 c2 c3 c4 c5 c6 hBw
      go_loopw [3, 5] (fun f i wr => ∃ (k : Nat) (F : Bool), k ≤ nf ∧ f = .bool F ∧ i = .int .i64 k ∧ Below (w.heap.size + 1) (w.alloc (.cells #[.slice tp nt tc, .slice fp nf fc, .slice mp nm mc, .slice gp ng gc, .slice ep ne ec, .int .i64 st, .slice dp nd dc] 31)) wr ∧ w.heap.size + 1 ≤ wr.heap.size ∧ Hid (R = (F && ((fn.drop k).all rightFn && (me.all rightMem && (gl.all rightGlob && (ex.all rightExp && da.all rightDat))))))) (fun _ i _ => nf - (intOf i).toNat)
      case atStart => exact ⟨0, _, by omega, rfl, rfl, hB, hs, HR⟩
      case round =>
        clear HR hB hs
        obtain ⟨k, F, hk, rfl, rfl, hB, hs, HK⟩ := hrel
        have ⟨c0, c1, c2, c3, c4, c5, c6⟩ := boxM hB
        have hBw : Below w.heap.size w wr := ((Below.refl _ w).alloc (Nat.le_refl _) _).trans (hB.mono (by omega))
        by_cases hlt : k < nf
        · have hlt' : k < fn.length := by have := HN.out; omega
          have hrows := HM.out.funcs.below hBw (Nat.le_refl _)
          simp only at hrows
          obtain ⟨b, o, e, hb, x0⟩ := hrows k hlt' 0 _ rfl
          subst e
          have x1 := hrows.cell hlt' 1 rfl
          have x2 := hrows.cell hlt' 2 rfl
          have hin := HM.out.funcsIn fn[k] (List.getElem_mem hlt')
          have hD := HK.out
          rw [List.drop_eq_getElem_cons hlt', List.all_cons] at hD
          clear hrows HK
          generalize fn[k] = t at *
          obtain ⟨ta, tb, tp2, tc2, tl⟩ := t
          simp only [Nat.add_zero] at x0 x1 x2 hin
          have cf := ref_function ⟨ta, tb, tp2, tc2, tl⟩ wr (hin.below hBw (Nat.le_refl _))
          simp only [FnV.val] at cf
          generalize rightFn ⟨ta, tb, tp2, tc2, tl⟩ = B1 at cf hD
          generalize tl.length = nl at *
          have HD := Lib.hid hD
          clear hD hin
          cases F
          all_goals
            go_wp2_with (go_at_call 120; (with_reducible refine cf.mono ?_); rintro e w1 ⟨rfl, hb1⟩)
            have hB2 := bnextR hB hs hb1
            have hs2 := Nat.le_trans hs hb1.size
            clear hB hs hb1 cf
            go_roundw
            case rel => exact ⟨k + 1, _, by omega, rfl, by go_num, hB2, hs2, Lib.hid (by have hq := HD.out; first | exact hq | (rw [hq]; simp; done) | (rw [hq]; simp [Bool.and_assoc]))⟩
            case measure => simp [intOf]; omega
        · have hk' : fn.length ≤ k := by have := HN.out; omega
          have hD := HK.out
          rw [List.drop_eq_nil_of_le hk', List.all_nil, Bool.true_and] at hD
          have HR := Lib.hid hD
          clear hD HK
          have HR : Hid (R = (F && ((me.drop 0).all rightMem && (gl.all rightGlob && (ex.all rightExp && da.all rightDat))))) := HR
          go_wp2
          clear hk' hk hlt c0 c1 c2 c3 c4 c5 c6 hBw
          go_loopw [3, 7] (fun f i wr => ∃ (k : Nat) (F : Bool), k ≤ nm ∧ f = .bool F ∧ i = .int .i64 k ∧ Below (w.heap.size + 1) (w.alloc (.cells #[.slice tp nt tc, .slice fp nf fc, .slice mp nm mc, .slice gp ng gc, .slice ep ne ec, .int .i64 st, .slice dp nd dc] 31)) wr ∧ w.heap.size + 1 ≤ wr.heap.size ∧ Hid (R = (F && ((me.drop k).all rightMem && (gl.all rightGlob && (ex.all rightExp && da.all rightDat)))))) (fun _ i _ => nm - (intOf i).toNat)
          case atStart => exact ⟨0, _, by omega, rfl, rfl, hB, hs, HR⟩
          case round =>
            clear HR hB hs
            obtain ⟨k, F, hk, rfl, rfl, hB, hs, HK⟩ := hrel
            have ⟨c0, c1, c2, c3, c4, c5, c6⟩ := boxM hB
            have hBw : Below w.heap.size w wr := ((Below.refl _ w).alloc (Nat.le_refl _) _).trans (hB.mono (by omega))
            by_cases hlt : k < nm
            · have hlt' : k < me.length := by have := HN.out; omega
              have hrows := HM.out.memory.below hBw (Nat.le_refl _)
              simp only at hrows
              obtain ⟨b, o, e, hb, x0⟩ := hrows k hlt' 0 _ rfl
              subst e
              have x1 := hrows.cell hlt' 1 rfl
              have hin := HM.out.memoryIn me[k] (List.getElem_mem hlt')
              have hD := HK.out
              rw [List.drop_eq_getElem_cons hlt', List.all_cons] at hD
              clear hrows HK
              generalize me[k] = t at *
              obtain ⟨ta, tb⟩ := t
              simp only [Nat.add_zero] at x0 x1 hin
              have ca := ref_word4 ta
              have cb := ref_word4 tb
              simp only [rightMem] at hD
              generalize word4 ta = B1 at ca hD
              generalize word4 tb = B2 at cb hD
              by_cases h1 : tb = -1
              · subst h1
                simp only [decide_true, Bool.true_or, Bool.and_true] at hD
                have HD := Lib.hid hD
                clear hD hin
                cases F
                · go_wp2
                  go_roundw
                  case rel => exact ⟨k + 1, _, by omega, rfl, by go_num, hB, hs, Lib.hid (by have hq := HD.out; first | exact hq | (rw [hq]; simp; done) | (rw [hq]; simp [Bool.and_assoc]))⟩
                  case measure => simp [intOf]; omega
                · cases B1
                  all_goals
                    go_wp2_with (first  | (go_at_call 118; (with_reducible refine (ca _).mono ?_); rintro e w' ⟨rfl, rfl⟩))
                    go_roundw
                    case rel => exact ⟨k + 1, _, by omega, rfl, by go_num, hB, hs, Lib.hid (by have hq := HD.out; first | exact hq | (rw [hq]; simp; done) | (rw [hq]; simp [Bool.and_assoc]))⟩
                    case measure => simp [intOf]; omega
              · have n1 : (tb == -1) = false := by simpa using h1
                simp only [decide_eq_false h1, Bool.false_or] at hD
                have HD := Lib.hid hD
                clear hD hin
                cases F
                · go_wp2
                  go_roundw
                  case rel => exact ⟨k + 1, _, by omega, rfl, by go_num, hB, hs, Lib.hid (by have hq := HD.out; first | exact hq | (rw [hq]; simp; done) | (rw [hq]; simp [Bool.and_assoc]))⟩
                  case measure => simp [intOf]; omega
                · cases B1
                  all_goals
                    go_wp2_with (first  | (go_at_call 118; (with_reducible refine (ca _).mono ?_); rintro e w' ⟨rfl, rfl⟩) | (go_at_call 118; (with_reducible refine (cb _).mono ?_); rintro e w' ⟨rfl, rfl⟩))
                    go_roundw
                    case rel => exact ⟨k + 1, _, by omega, rfl, by go_num, hB, hs, Lib.hid (by have hq := HD.out; first | exact hq | (rw [hq]; simp; done) | (rw [hq]; simp [Bool.and_assoc]))⟩
                    case measure => simp [intOf]; omega
            · have hk' : me.length ≤ k := by have := HN.out; omega
              have hD := HK.out
              rw [List.drop_eq_nil_of_le hk', List.all_nil, Bool.true_and] at hD
              have HR := Lib.hid hD
              clear hD HK
              have HR : Hid (R = (F && ((gl.drop 0).all rightGlob && (ex.all rightExp && da.all rightDat)))) := HR
              go_wp2
              clear hk' hk hlt c0 c1 c2 c3 c4 c5 c6 hBw
              go_loopw [3, 8] (fun f i wr => ∃ (k : Nat) (F : Bool), k ≤ ng ∧ f = .bool F ∧ i = .int .i64 k ∧ Below (w.heap.size + 1) (w.alloc (.cells #[.slice tp nt tc, .slice fp nf fc, .slice mp nm mc, .slice gp ng gc, .slice ep ne ec, .int .i64 st, .slice dp nd dc] 31)) wr ∧ w.heap.size + 1 ≤ wr.heap.size ∧ Hid (R = (F && ((gl.drop k).all rightGlob && (ex.all rightExp && da.all rightDat))))) (fun _ i _ => ng - (intOf i).toNat)
              case atStart => exact ⟨0, _, by omega, rfl, rfl, hB, hs, HR⟩
              case round =>
                clear HR hB hs
                obtain ⟨k, F, hk, rfl, rfl, hB, hs, HK⟩ := hrel
                have ⟨c0, c1, c2, c3, c4, c5, c6⟩ := boxM hB
                have hBw : Below w.heap.size w wr := ((Below.refl _ w).alloc (Nat.le_refl _) _).trans (hB.mono (by omega))
                by_cases hlt : k < ng
                · have hlt' : k < gl.length := by have := HN.out; omega
                  have hrows := HM.out.globals.below hBw (Nat.le_refl _)
                  simp only at hrows
                  obtain ⟨b, o, e, hb, x0⟩ := hrows k hlt' 0 _ rfl
                  subst e
                  have x1 := hrows.cell hlt' 1 rfl
                  have x2 := hrows.cell hlt' 2 rfl
                  have hin := HM.out.globalsIn gl[k] (List.getElem_mem hlt')
                  have hD := HK.out
                  rw [List.drop_eq_getElem_cons hlt', List.all_cons] at hD
                  clear hrows HK
                  generalize gl[k] = t at *
                  obtain ⟨ta, tm, tb⟩ := t
                  simp only [Nat.add_zero] at x0 x1 x2 hin
                  have ca := ref_small4 tb
                  simp only [rightGlob] at hD
                  generalize small4 tb = B1 at ca hD
                  have hB1 := hB.alloc hs (.cells #[.int .i64 ta, .bool tm, .int .i64 tb] 90)
                  have hs1 : w.heap.size + 1 ≤ (wr.alloc (.cells #[.int .i64 ta, .bool tm, .int .i64 tb] 90)).heap.size := by simp; omega
                  by_cases h1 : ta = 126
                  · subst h1
                    simp only [decide_true, Bool.true_or, Bool.true_and] at hD
                    have HD := Lib.hid hD
                    clear hD hin
                    cases F
                    all_goals
                      go_wp2
                      go_roundw
                      case rel => exact ⟨k + 1, _, by omega, rfl, by go_num, hB1, hs1, Lib.hid (by have hq := HD.out; first | exact hq | (rw [hq]; simp; done) | (rw [hq]; simp [Bool.and_assoc]))⟩
                      case measure => simp [intOf]; omega
                  · have n1 : (ta == 126) = false := by simpa using h1
                    by_cases h2 : ta = 127
                    · subst h2
                      simp only [decide_eq_false h1, Bool.false_or, decide_true, Bool.true_and] at hD
                      have HD := Lib.hid hD
                      clear hD hin
                      cases F
                      all_goals
                        go_wp2_with (first  | (go_at_call 121; (with_reducible refine (ca _).mono ?_); rintro e w' ⟨rfl, rfl⟩))
                        go_roundw
                        case rel => exact ⟨k + 1, _, by omega, rfl, by go_num, hB1, hs1, Lib.hid (by have hq := HD.out; first | exact hq | (rw [hq]; simp; done) | (rw [hq]; simp [Bool.and_assoc]))⟩
                        case measure => simp [intOf]; omega
                    · have n2 : (ta == 127) = false := by simpa using h2
                      simp only [decide_eq_false h1, decide_eq_false h2, Bool.false_and, Bool.or_false] at hD
                      have HD := Lib.hid hD
                      clear hD hin
                      cases F
                      all_goals
                        go_wp2
                        go_roundw
                        case rel => exact ⟨k + 1, _, by omega, rfl, by go_num, hB1, hs1, Lib.hid (by have hq := HD.out; first | exact hq | (rw [hq]; simp; done) | (rw [hq]; simp [Bool.and_assoc]))⟩
                        case measure => simp [intOf]; omega
                · have hk' : gl.length ≤ k := by have := HN.out; omega
                  have hD := HK.out
                  rw [List.drop_eq_nil_of_le hk', List.all_nil, Bool.true_and] at hD
                  have HR := Lib.hid hD
                  clear hD HK
                  have HR : Hid (R = (F && ((ex.drop 0).all rightExp && da.all rightDat))) := HR
                  go_wp2
                  clear hk' hk hlt c0 c1 c2 c3 c4 c5 c6 hBw
                  go_loopw [3, 10] (fun f i wr => ∃ (k : Nat) (F : Bool), k ≤ ne ∧ f = .bool F ∧ i = .int .i64 k ∧ Below (w.heap.size + 1) (w.alloc (.cells #[.slice tp nt tc, .slice fp nf fc, .slice mp nm mc, .slice gp ng gc, .slice ep ne ec, .int .i64 st, .slice dp nd dc] 31)) wr ∧ w.heap.size + 1 ≤ wr.heap.size ∧ Hid (R = (F && ((ex.drop k).all rightExp && da.all rightDat)))) (fun _ i _ => ne - (intOf i).toNat)
                  case atStart => exact ⟨0, _, by omega, rfl, rfl, hB, hs, HR⟩
                  case round =>
                    clear HR hB hs
                    obtain ⟨k, F, hk, rfl, rfl, hB, hs, HK⟩ := hrel
                    have ⟨c0, c1, c2, c3, c4, c5, c6⟩ := boxM hB
                    have hBw : Below w.heap.size w wr := ((Below.refl _ w).alloc (Nat.le_refl _) _).trans (hB.mono (by omega))
                    by_cases hlt : k < ne
                    · have hlt' : k < ex.length := by have := HN.out; omega
                      have hrows := HM.out.exports.below hBw (Nat.le_refl _)
                      simp only at hrows
                      obtain ⟨b, o, e, hb, x0⟩ := hrows k hlt' 0 _ rfl
                      subst e
                      have x1 := hrows.cell hlt' 1 rfl
                      have x2 := hrows.cell hlt' 2 rfl
                      have hin := HM.out.exportsIn ex[k] (List.getElem_mem hlt')
                      have hD := HK.out
                      rw [List.drop_eq_getElem_cons hlt', List.all_cons] at hD
                      clear hrows HK
                      generalize ex[k] = t at *
                      obtain ⟨ta, tb, tc2⟩ := t
                      simp only [Nat.add_zero] at x0 x1 x2 hin
                      have ca := ref_name ta hin.1
                      have cb := ref_word4 tc2
                      simp only [rightExp] at hD
                      generalize isName ta.data.toList = B1 at ca hD
                      generalize word4 tc2 = B2 at cb hD
                      have hB1 := hB.alloc hs (.cells #[.string ta, .int .i64 tb, .int .i64 tc2] 43)
                      have hs1 : w.heap.size + 1 ≤ (wr.alloc (.cells #[.string ta, .int .i64 tb, .int .i64 tc2] 43)).heap.size := by simp; omega
                      by_cases h1 : tb = 0 ∨ tb = 2 ∨ tb = 3
                      · simp only [decide_eq_true h1, Bool.true_and] at hD
                        have HD := Lib.hid hD
                        clear hD hin
                        rcases h1 with rfl | rfl | rfl
                        all_goals
                          cases F
                          all_goals
                            cases B1
                            all_goals
                              go_wp2_with (first  | (go_at_call 122; (with_reducible refine (ca _).mono ?_); rintro e w' ⟨rfl, rfl⟩) | (go_at_call 118; (with_reducible refine (cb _).mono ?_); rintro e w' ⟨rfl, rfl⟩))
                              go_roundw
                              case rel => exact ⟨k + 1, _, by omega, rfl, by go_num, hB1, hs1, Lib.hid (by have hq := HD.out; first | exact hq | (rw [hq]; simp; done) | (rw [hq]; simp [Bool.and_assoc]))⟩
                              case measure => simp [intOf]; omega
                      · have n0 : (tb == 0) = false := by have : tb ≠ 0 := fun e => h1 (.inl e); simpa using this
                        have n2 : (tb == 2) = false := by have : tb ≠ 2 := fun e => h1 (.inr (.inl e)); simpa using this
                        have n3 : (tb == 3) = false := by have : tb ≠ 3 := fun e => h1 (.inr (.inr e)); simpa using this
                        simp only [decide_eq_false h1, Bool.false_and, Bool.and_false] at hD
                        have HD := Lib.hid hD
                        clear hD hin
                        cases F
                        all_goals
                          cases B1
                          all_goals
                            go_wp2_with (first  | (go_at_call 122; (with_reducible refine (ca _).mono ?_); rintro e w' ⟨rfl, rfl⟩))
                            go_roundw
                            case rel => exact ⟨k + 1, _, by omega, rfl, by go_num, hB1, hs1, Lib.hid (by have hq := HD.out; first | exact hq | (rw [hq]; simp; done) | (rw [hq]; simp [Bool.and_assoc]))⟩
                            case measure => simp [intOf]; omega
                    · have hk' : ex.length ≤ k := by have := HN.out; omega
                      have hD := HK.out
                      rw [List.drop_eq_nil_of_le hk', List.all_nil, Bool.true_and] at hD
                      have HR := Lib.hid hD
                      clear hD HK
                      have HR : Hid (R = (F && ((da.drop 0).all rightDat && true))) := Lib.hid (by simpa using HR.out)
                      go_wp2
                      clear hk' hk hlt c0 c1 c2 c3 c4 c5 c6 hBw
                      go_loopw [3, 13] (fun f i wr => ∃ (k : Nat) (F : Bool), k ≤ nd ∧ f = .bool F ∧ i = .int .i64 k ∧ Below (w.heap.size + 1) (w.alloc (.cells #[.slice tp nt tc, .slice fp nf fc, .slice mp nm mc, .slice gp ng gc, .slice ep ne ec, .int .i64 st, .slice dp nd dc] 31)) wr ∧ w.heap.size + 1 ≤ wr.heap.size ∧ Hid (R = (F && ((da.drop k).all rightDat && true)))) (fun _ i _ => nd - (intOf i).toNat)
                      case atStart => exact ⟨0, _, by omega, rfl, rfl, hB, hs, HR⟩
                      case round =>
                        clear HR hB hs
                        obtain ⟨k, F, hk, rfl, rfl, hB, hs, HK⟩ := hrel
                        have ⟨c0, c1, c2, c3, c4, c5, c6⟩ := boxM hB
                        have hBw : Below w.heap.size w wr := ((Below.refl _ w).alloc (Nat.le_refl _) _).trans (hB.mono (by omega))
                        by_cases hlt : k < nd
                        · have hlt' : k < da.length := by have := HN.out; omega
                          have hrows := HM.out.data.below hBw (Nat.le_refl _)
                          simp only at hrows
                          obtain ⟨b, o, e, hb, x0⟩ := hrows k hlt' 0 _ rfl
                          subst e
                          have x1 := hrows.cell hlt' 1 rfl
                          have hin := HM.out.dataIn da[k] (List.getElem_mem hlt')
                          have hD := HK.out
                          rw [List.drop_eq_getElem_cons hlt', List.all_cons] at hD
                          clear hrows HK
                          generalize da[k] = t at *
                          obtain ⟨ta, tb⟩ := t
                          simp only [Nat.add_zero] at x0 x1 hin
                          have ca := ref_small4 ta
                          simp only [rightDat] at hD
                          generalize small4 ta = B1 at ca hD
                          have HD := Lib.hid hD
                          clear hD hin
                          cases F
                          all_goals
                            go_wp2_with (first  | (go_at_call 121; (with_reducible refine (ca _).mono ?_); rintro e w' ⟨rfl, rfl⟩))
                            go_roundw
                            case rel => exact ⟨k + 1, _, by omega, rfl, by go_num, hB, hs, Lib.hid (by have hq := HD.out; first | exact hq | (rw [hq]; simp; done) | (rw [hq]; simp [Bool.and_assoc]))⟩
                            case measure => simp [intOf]; omega
                        · have hk' : da.length ≤ k := by have := HN.out; omega
                          have hD := HK.out
                          rw [List.drop_eq_nil_of_le hk', List.all_nil, Bool.true_and] at hD
                          have HR := Lib.hid hD
                          clear hD HK
                          go_wp2
                          go_ret
                          exact ⟨ret_bool (by simpa using HR.out), ((Below.refl _ w).alloc (Nat.le_refl _) _).trans (hB.mono (by omega))⟩
end Go.Proofs.YtpamchagidnijaaGreatDoor

namespace Go.Proofs.YtpamchagidnijaaGreatDoor
open Go.RowKit


set_option maxRecDepth 100000 in
set_option maxHeartbeats 16000000 in
theorem ref_rightMod_some (tp fp mp gp ep dp : Option Addr) (tc fc mc gc ec dc : Nat) (ty : List TyV) (fn : List FnV) (me : List MemV) (gl : List GlobV) (ex : List ExpV) (da : List DatV) (st : Int) (hst : st ≠ -1 ∧ word4 st = true) (nt nf nm ng ne nd : Nat) (ht : ty.length = nt) (hf : fn.length = nf) (hm : me.length = nm) (hg : gl.length = ng) (he : ex.length = ne) (hd : da.length = nd) (g0 : nt ≤ 4096) (g1 : nf ≤ 4096) (g2 : nm ≤ 4096) (g3 : ng ≤ 4096) (g4 : ne ≤ 4096) (g5 : nd ≤ 4096) (w : World) (hM : ModAt w ⟨tp, tc, ty, fp, fc, fn, mp, mc, me, gp, gc, gl, ep, ec, ex, st, dp, dc, da⟩) :
    Calls Tryz.prog 34 #[.agg #[.slice tp nt tc, .slice fp nf fc, .slice mp nm mc, .slice gp ng gc, .slice ep ne ec, .int .i64 st, .slice dp nd dc]] w fun e w' => e = .returned (.bool (ty.all rightTy && (fn.all rightFn && (me.all rightMem && (gl.all rightGlob && (ex.all rightExp && da.all rightDat)))))) ∧ Below w.heap.size w w' := by
  have HM := Lib.hid hM
  have HN := Lib.hid (And.intro ht (And.intro hf (And.intro hm (And.intro hg (And.intro he hd)))))
  clear hM ht hf hm hg he hd
  obtain ⟨R, hR⟩ : ∃ R, R = (ty.all rightTy && (fn.all rightFn && (me.all rightMem && (gl.all rightGlob && (ex.all rightExp && da.all rightDat))))) := ⟨_, rfl⟩
  rw [← hR]
  have HR : Hid (R = (true && ((ty.drop 0).all rightTy && (fn.all rightFn && (me.all rightMem && (gl.all rightGlob && (ex.all rightExp && da.all rightDat))))))) := Lib.hid hR
  clear hR
  have hB := Below.refl (w.heap.size + 1) (w.alloc (.cells #[.slice tp nt tc, .slice fp nf fc, .slice mp nm mc, .slice gp ng gc, .slice ep ne ec, .int .i64 st, .slice dp nd dc] 31))
  have hs : w.heap.size + 1 ≤ (w.alloc (.cells #[.slice tp nt tc, .slice fp nf fc, .slice mp nm mc, .slice gp ng gc, .slice ep ne ec, .int .i64 st, .slice dp nd dc] 31)).heap.size := by simp
  have cst := ref_word4 st
  rw [hst.2] at cst
  have n1 : (st != -1) = true := by simpa using hst.1
  clear hst
  go_enter Tryz.func34, Tryz.ntmps34
  go_wp2_with (first  | (go_at_call 118; (with_reducible refine (cst _).mono ?_); rintro e w' ⟨rfl, rfl⟩))
  go_loopw [3, 4] (fun f i wr => ∃ (k : Nat) (F : Bool), k ≤ nt ∧ f = .bool F ∧ i = .int .i64 k ∧ Below (w.heap.size + 1) (w.alloc (.cells #[.slice tp nt tc, .slice fp nf fc, .slice mp nm mc, .slice gp ng gc, .slice ep ne ec, .int .i64 st, .slice dp nd dc] 31)) wr ∧ w.heap.size + 1 ≤ wr.heap.size ∧ Hid (R = (F && ((ty.drop k).all rightTy && (fn.all rightFn && (me.all rightMem && (gl.all rightGlob && (ex.all rightExp && da.all rightDat)))))))) (fun _ i _ => nt - (intOf i).toNat)
  case atStart => exact ⟨0, _, by omega, rfl, rfl, hB, hs, HR⟩
  case round =>
    clear HR hB hs
    obtain ⟨k, F, hk, rfl, rfl, hB, hs, HK⟩ := hrel
    have ⟨c0, c1, c2, c3, c4, c5, c6⟩ := boxM hB
    have hBw : Below w.heap.size w wr := ((Below.refl _ w).alloc (Nat.le_refl _) _).trans (hB.mono (by omega))
    by_cases hlt : k < nt
    · have hlt' : k < ty.length := by have := HN.out; omega
      have hrows := HM.out.types.below hBw (Nat.le_refl _)
      simp only at hrows
      obtain ⟨b, o, e, hb, x0⟩ := hrows k hlt' 0 _ rfl
      subst e
      have x1 := hrows.cell hlt' 1 rfl
      have hin := HM.out.typesIn ty[k] (List.getElem_mem hlt')
      have hD := HK.out
      rw [List.drop_eq_getElem_cons hlt', List.all_cons] at hD
      clear hrows HK
      generalize ty[k] = t at *
      obtain ⟨ta, tb⟩ := t
      simp only [Nat.add_zero] at x0 x1 hin
      have ca := ref_types ta 4096 hin.1
      have cb := ref_types tb 1 hin.2
      simp only [rightTy] at hD
      generalize vtypes ta.data.toList 4096 = B1 at ca hD
      generalize vtypes tb.data.toList 1 = B2 at cb hD
      have HD := Lib.hid hD
      clear hD hin
      cases F
      · go_wp2
        go_roundw
        case rel => exact ⟨k + 1, _, by omega, rfl, by go_num, hB, hs, Lib.hid (by have hq := HD.out; first | exact hq | (rw [hq]; simp; done) | (rw [hq]; simp [Bool.and_assoc]))⟩
        case measure => simp [intOf]; omega
      · cases B1
        · go_wp2_with (first  | (go_at_call 119; (with_reducible refine (ca _).mono ?_); rintro e w' ⟨rfl, rfl⟩))
          go_roundw
          case rel => exact ⟨k + 1, _, by omega, rfl, by go_num, hB, hs, Lib.hid (by have hq := HD.out; first | exact hq | (rw [hq]; simp; done) | (rw [hq]; simp [Bool.and_assoc]))⟩
          case measure => simp [intOf]; omega
        · go_wp2_with (first  | (go_at_call 119; (with_reducible refine (ca _).mono ?_); rintro e w' ⟨rfl, rfl⟩) | (go_at_call 119; (with_reducible refine (cb _).mono ?_); rintro e w' ⟨rfl, rfl⟩))
          go_roundw
          case rel => exact ⟨k + 1, _, by omega, rfl, by go_num, hB, hs, Lib.hid (by have hq := HD.out; first | exact hq | (rw [hq]; simp; done) | (rw [hq]; simp [Bool.and_assoc]))⟩
          case measure => simp [intOf]; omega
    · have hk' : ty.length ≤ k := by have := HN.out; omega
      have hD := HK.out
      rw [List.drop_eq_nil_of_le hk', List.all_nil, Bool.true_and] at hD
      have HR := Lib.hid hD
      clear hD HK
      have HR : Hid (R = (F && ((fn.drop 0).all rightFn && (me.all rightMem && (gl.all rightGlob && (ex.all rightExp && da.all rightDat)))))) := HR
      go_wp2
      clear hk' hk hlt c0 c1 c2 c3 c4 c5 c6 hBw
      go_loopw [3, 5] (fun f i wr => ∃ (k : Nat) (F : Bool), k ≤ nf ∧ f = .bool F ∧ i = .int .i64 k ∧ Below (w.heap.size + 1) (w.alloc (.cells #[.slice tp nt tc, .slice fp nf fc, .slice mp nm mc, .slice gp ng gc, .slice ep ne ec, .int .i64 st, .slice dp nd dc] 31)) wr ∧ w.heap.size + 1 ≤ wr.heap.size ∧ Hid (R = (F && ((fn.drop k).all rightFn && (me.all rightMem && (gl.all rightGlob && (ex.all rightExp && da.all rightDat))))))) (fun _ i _ => nf - (intOf i).toNat)
      case atStart => exact ⟨0, _, by omega, rfl, rfl, hB, hs, HR⟩
      case round =>
        clear HR hB hs
        obtain ⟨k, F, hk, rfl, rfl, hB, hs, HK⟩ := hrel
        have ⟨c0, c1, c2, c3, c4, c5, c6⟩ := boxM hB
        have hBw : Below w.heap.size w wr := ((Below.refl _ w).alloc (Nat.le_refl _) _).trans (hB.mono (by omega))
        by_cases hlt : k < nf
        · have hlt' : k < fn.length := by have := HN.out; omega
          have hrows := HM.out.funcs.below hBw (Nat.le_refl _)
          simp only at hrows
          obtain ⟨b, o, e, hb, x0⟩ := hrows k hlt' 0 _ rfl
          subst e
          have x1 := hrows.cell hlt' 1 rfl
          have x2 := hrows.cell hlt' 2 rfl
          have hin := HM.out.funcsIn fn[k] (List.getElem_mem hlt')
          have hD := HK.out
          rw [List.drop_eq_getElem_cons hlt', List.all_cons] at hD
          clear hrows HK
          generalize fn[k] = t at *
          obtain ⟨ta, tb, tp2, tc2, tl⟩ := t
          simp only [Nat.add_zero] at x0 x1 x2 hin
          have cf := ref_function ⟨ta, tb, tp2, tc2, tl⟩ wr (hin.below hBw (Nat.le_refl _))
          simp only [FnV.val] at cf
          generalize rightFn ⟨ta, tb, tp2, tc2, tl⟩ = B1 at cf hD
          generalize tl.length = nl at *
          have HD := Lib.hid hD
          clear hD hin
          cases F
          all_goals
            go_wp2_with (go_at_call 120; (with_reducible refine cf.mono ?_); rintro e w1 ⟨rfl, hb1⟩)
            have hB2 := bnextR hB hs hb1
            have hs2 := Nat.le_trans hs hb1.size
            clear hB hs hb1 cf
            go_roundw
            case rel => exact ⟨k + 1, _, by omega, rfl, by go_num, hB2, hs2, Lib.hid (by have hq := HD.out; first | exact hq | (rw [hq]; simp; done) | (rw [hq]; simp [Bool.and_assoc]))⟩
            case measure => simp [intOf]; omega
        · have hk' : fn.length ≤ k := by have := HN.out; omega
          have hD := HK.out
          rw [List.drop_eq_nil_of_le hk', List.all_nil, Bool.true_and] at hD
          have HR := Lib.hid hD
          clear hD HK
          have HR : Hid (R = (F && ((me.drop 0).all rightMem && (gl.all rightGlob && (ex.all rightExp && da.all rightDat))))) := HR
          go_wp2
          clear hk' hk hlt c0 c1 c2 c3 c4 c5 c6 hBw
          go_loopw [3, 7] (fun f i wr => ∃ (k : Nat) (F : Bool), k ≤ nm ∧ f = .bool F ∧ i = .int .i64 k ∧ Below (w.heap.size + 1) (w.alloc (.cells #[.slice tp nt tc, .slice fp nf fc, .slice mp nm mc, .slice gp ng gc, .slice ep ne ec, .int .i64 st, .slice dp nd dc] 31)) wr ∧ w.heap.size + 1 ≤ wr.heap.size ∧ Hid (R = (F && ((me.drop k).all rightMem && (gl.all rightGlob && (ex.all rightExp && da.all rightDat)))))) (fun _ i _ => nm - (intOf i).toNat)
          case atStart => exact ⟨0, _, by omega, rfl, rfl, hB, hs, HR⟩
          case round =>
            clear HR hB hs
            obtain ⟨k, F, hk, rfl, rfl, hB, hs, HK⟩ := hrel
            have ⟨c0, c1, c2, c3, c4, c5, c6⟩ := boxM hB
            have hBw : Below w.heap.size w wr := ((Below.refl _ w).alloc (Nat.le_refl _) _).trans (hB.mono (by omega))
            by_cases hlt : k < nm
            · have hlt' : k < me.length := by have := HN.out; omega
              have hrows := HM.out.memory.below hBw (Nat.le_refl _)
              simp only at hrows
              obtain ⟨b, o, e, hb, x0⟩ := hrows k hlt' 0 _ rfl
              subst e
              have x1 := hrows.cell hlt' 1 rfl
              have hin := HM.out.memoryIn me[k] (List.getElem_mem hlt')
              have hD := HK.out
              rw [List.drop_eq_getElem_cons hlt', List.all_cons] at hD
              clear hrows HK
              generalize me[k] = t at *
              obtain ⟨ta, tb⟩ := t
              simp only [Nat.add_zero] at x0 x1 hin
              have ca := ref_word4 ta
              have cb := ref_word4 tb
              simp only [rightMem] at hD
              generalize word4 ta = B1 at ca hD
              generalize word4 tb = B2 at cb hD
              by_cases h1 : tb = -1
              · subst h1
                simp only [decide_true, Bool.true_or, Bool.and_true] at hD
                have HD := Lib.hid hD
                clear hD hin
                cases F
                · go_wp2
                  go_roundw
                  case rel => exact ⟨k + 1, _, by omega, rfl, by go_num, hB, hs, Lib.hid (by have hq := HD.out; first | exact hq | (rw [hq]; simp; done) | (rw [hq]; simp [Bool.and_assoc]))⟩
                  case measure => simp [intOf]; omega
                · cases B1
                  all_goals
                    go_wp2_with (first  | (go_at_call 118; (with_reducible refine (ca _).mono ?_); rintro e w' ⟨rfl, rfl⟩))
                    go_roundw
                    case rel => exact ⟨k + 1, _, by omega, rfl, by go_num, hB, hs, Lib.hid (by have hq := HD.out; first | exact hq | (rw [hq]; simp; done) | (rw [hq]; simp [Bool.and_assoc]))⟩
                    case measure => simp [intOf]; omega
              · have n1 : (tb == -1) = false := by simpa using h1
                simp only [decide_eq_false h1, Bool.false_or] at hD
                have HD := Lib.hid hD
                clear hD hin
                cases F
                · go_wp2
                  go_roundw
                  case rel => exact ⟨k + 1, _, by omega, rfl, by go_num, hB, hs, Lib.hid (by have hq := HD.out; first | exact hq | (rw [hq]; simp; done) | (rw [hq]; simp [Bool.and_assoc]))⟩
                  case measure => simp [intOf]; omega
                · cases B1
                  all_goals
                    go_wp2_with (first  | (go_at_call 118; (with_reducible refine (ca _).mono ?_); rintro e w' ⟨rfl, rfl⟩) | (go_at_call 118; (with_reducible refine (cb _).mono ?_); rintro e w' ⟨rfl, rfl⟩))
                    go_roundw
                    case rel => exact ⟨k + 1, _, by omega, rfl, by go_num, hB, hs, Lib.hid (by have hq := HD.out; first | exact hq | (rw [hq]; simp; done) | (rw [hq]; simp [Bool.and_assoc]))⟩
                    case measure => simp [intOf]; omega
            · have hk' : me.length ≤ k := by have := HN.out; omega
              have hD := HK.out
              rw [List.drop_eq_nil_of_le hk', List.all_nil, Bool.true_and] at hD
              have HR := Lib.hid hD
              clear hD HK
              have HR : Hid (R = (F && ((gl.drop 0).all rightGlob && (ex.all rightExp && da.all rightDat)))) := HR
              go_wp2
              clear hk' hk hlt c0 c1 c2 c3 c4 c5 c6 hBw
              go_loopw [3, 8] (fun f i wr => ∃ (k : Nat) (F : Bool), k ≤ ng ∧ f = .bool F ∧ i = .int .i64 k ∧ Below (w.heap.size + 1) (w.alloc (.cells #[.slice tp nt tc, .slice fp nf fc, .slice mp nm mc, .slice gp ng gc, .slice ep ne ec, .int .i64 st, .slice dp nd dc] 31)) wr ∧ w.heap.size + 1 ≤ wr.heap.size ∧ Hid (R = (F && ((gl.drop k).all rightGlob && (ex.all rightExp && da.all rightDat))))) (fun _ i _ => ng - (intOf i).toNat)
              case atStart => exact ⟨0, _, by omega, rfl, rfl, hB, hs, HR⟩
              case round =>
                clear HR hB hs
                obtain ⟨k, F, hk, rfl, rfl, hB, hs, HK⟩ := hrel
                have ⟨c0, c1, c2, c3, c4, c5, c6⟩ := boxM hB
                have hBw : Below w.heap.size w wr := ((Below.refl _ w).alloc (Nat.le_refl _) _).trans (hB.mono (by omega))
                by_cases hlt : k < ng
                · have hlt' : k < gl.length := by have := HN.out; omega
                  have hrows := HM.out.globals.below hBw (Nat.le_refl _)
                  simp only at hrows
                  obtain ⟨b, o, e, hb, x0⟩ := hrows k hlt' 0 _ rfl
                  subst e
                  have x1 := hrows.cell hlt' 1 rfl
                  have x2 := hrows.cell hlt' 2 rfl
                  have hin := HM.out.globalsIn gl[k] (List.getElem_mem hlt')
                  have hD := HK.out
                  rw [List.drop_eq_getElem_cons hlt', List.all_cons] at hD
                  clear hrows HK
                  generalize gl[k] = t at *
                  obtain ⟨ta, tm, tb⟩ := t
                  simp only [Nat.add_zero] at x0 x1 x2 hin
                  have ca := ref_small4 tb
                  simp only [rightGlob] at hD
                  generalize small4 tb = B1 at ca hD
                  have hB1 := hB.alloc hs (.cells #[.int .i64 ta, .bool tm, .int .i64 tb] 90)
                  have hs1 : w.heap.size + 1 ≤ (wr.alloc (.cells #[.int .i64 ta, .bool tm, .int .i64 tb] 90)).heap.size := by simp; omega
                  by_cases h1 : ta = 126
                  · subst h1
                    simp only [decide_true, Bool.true_or, Bool.true_and] at hD
                    have HD := Lib.hid hD
                    clear hD hin
                    cases F
                    all_goals
                      go_wp2
                      go_roundw
                      case rel => exact ⟨k + 1, _, by omega, rfl, by go_num, hB1, hs1, Lib.hid (by have hq := HD.out; first | exact hq | (rw [hq]; simp; done) | (rw [hq]; simp [Bool.and_assoc]))⟩
                      case measure => simp [intOf]; omega
                  · have n1 : (ta == 126) = false := by simpa using h1
                    by_cases h2 : ta = 127
                    · subst h2
                      simp only [decide_eq_false h1, Bool.false_or, decide_true, Bool.true_and] at hD
                      have HD := Lib.hid hD
                      clear hD hin
                      cases F
                      all_goals
                        go_wp2_with (first  | (go_at_call 121; (with_reducible refine (ca _).mono ?_); rintro e w' ⟨rfl, rfl⟩))
                        go_roundw
                        case rel => exact ⟨k + 1, _, by omega, rfl, by go_num, hB1, hs1, Lib.hid (by have hq := HD.out; first | exact hq | (rw [hq]; simp; done) | (rw [hq]; simp [Bool.and_assoc]))⟩
                        case measure => simp [intOf]; omega
                    · have n2 : (ta == 127) = false := by simpa using h2
                      simp only [decide_eq_false h1, decide_eq_false h2, Bool.false_and, Bool.or_false] at hD
                      have HD := Lib.hid hD
                      clear hD hin
                      cases F
                      all_goals
                        go_wp2
                        go_roundw
                        case rel => exact ⟨k + 1, _, by omega, rfl, by go_num, hB1, hs1, Lib.hid (by have hq := HD.out; first | exact hq | (rw [hq]; simp; done) | (rw [hq]; simp [Bool.and_assoc]))⟩
                        case measure => simp [intOf]; omega
                · have hk' : gl.length ≤ k := by have := HN.out; omega
                  have hD := HK.out
                  rw [List.drop_eq_nil_of_le hk', List.all_nil, Bool.true_and] at hD
                  have HR := Lib.hid hD
                  clear hD HK
                  have HR : Hid (R = (F && ((ex.drop 0).all rightExp && da.all rightDat))) := HR
                  go_wp2
                  clear hk' hk hlt c0 c1 c2 c3 c4 c5 c6 hBw
                  go_loopw [3, 10] (fun f i wr => ∃ (k : Nat) (F : Bool), k ≤ ne ∧ f = .bool F ∧ i = .int .i64 k ∧ Below (w.heap.size + 1) (w.alloc (.cells #[.slice tp nt tc, .slice fp nf fc, .slice mp nm mc, .slice gp ng gc, .slice ep ne ec, .int .i64 st, .slice dp nd dc] 31)) wr ∧ w.heap.size + 1 ≤ wr.heap.size ∧ Hid (R = (F && ((ex.drop k).all rightExp && da.all rightDat)))) (fun _ i _ => ne - (intOf i).toNat)
                  case atStart => exact ⟨0, _, by omega, rfl, rfl, hB, hs, HR⟩
                  case round =>
                    clear HR hB hs
                    obtain ⟨k, F, hk, rfl, rfl, hB, hs, HK⟩ := hrel
                    have ⟨c0, c1, c2, c3, c4, c5, c6⟩ := boxM hB
                    have hBw : Below w.heap.size w wr := ((Below.refl _ w).alloc (Nat.le_refl _) _).trans (hB.mono (by omega))
                    by_cases hlt : k < ne
                    · have hlt' : k < ex.length := by have := HN.out; omega
                      have hrows := HM.out.exports.below hBw (Nat.le_refl _)
                      simp only at hrows
                      obtain ⟨b, o, e, hb, x0⟩ := hrows k hlt' 0 _ rfl
                      subst e
                      have x1 := hrows.cell hlt' 1 rfl
                      have x2 := hrows.cell hlt' 2 rfl
                      have hin := HM.out.exportsIn ex[k] (List.getElem_mem hlt')
                      have hD := HK.out
                      rw [List.drop_eq_getElem_cons hlt', List.all_cons] at hD
                      clear hrows HK
                      generalize ex[k] = t at *
                      obtain ⟨ta, tb, tc2⟩ := t
                      simp only [Nat.add_zero] at x0 x1 x2 hin
                      have ca := ref_name ta hin.1
                      have cb := ref_word4 tc2
                      simp only [rightExp] at hD
                      generalize isName ta.data.toList = B1 at ca hD
                      generalize word4 tc2 = B2 at cb hD
                      have hB1 := hB.alloc hs (.cells #[.string ta, .int .i64 tb, .int .i64 tc2] 43)
                      have hs1 : w.heap.size + 1 ≤ (wr.alloc (.cells #[.string ta, .int .i64 tb, .int .i64 tc2] 43)).heap.size := by simp; omega
                      by_cases h1 : tb = 0 ∨ tb = 2 ∨ tb = 3
                      · simp only [decide_eq_true h1, Bool.true_and] at hD
                        have HD := Lib.hid hD
                        clear hD hin
                        rcases h1 with rfl | rfl | rfl
                        all_goals
                          cases F
                          all_goals
                            cases B1
                            all_goals
                              go_wp2_with (first  | (go_at_call 122; (with_reducible refine (ca _).mono ?_); rintro e w' ⟨rfl, rfl⟩) | (go_at_call 118; (with_reducible refine (cb _).mono ?_); rintro e w' ⟨rfl, rfl⟩))
                              go_roundw
                              case rel => exact ⟨k + 1, _, by omega, rfl, by go_num, hB1, hs1, Lib.hid (by have hq := HD.out; first | exact hq | (rw [hq]; simp; done) | (rw [hq]; simp [Bool.and_assoc]))⟩
                              case measure => simp [intOf]; omega
                      · have n0 : (tb == 0) = false := by have : tb ≠ 0 := fun e => h1 (.inl e); simpa using this
                        have n2 : (tb == 2) = false := by have : tb ≠ 2 := fun e => h1 (.inr (.inl e)); simpa using this
                        have n3 : (tb == 3) = false := by have : tb ≠ 3 := fun e => h1 (.inr (.inr e)); simpa using this
                        simp only [decide_eq_false h1, Bool.false_and, Bool.and_false] at hD
                        have HD := Lib.hid hD
                        clear hD hin
                        cases F
                        all_goals
                          cases B1
                          all_goals
                            go_wp2_with (first  | (go_at_call 122; (with_reducible refine (ca _).mono ?_); rintro e w' ⟨rfl, rfl⟩))
                            go_roundw
                            case rel => exact ⟨k + 1, _, by omega, rfl, by go_num, hB1, hs1, Lib.hid (by have hq := HD.out; first | exact hq | (rw [hq]; simp; done) | (rw [hq]; simp [Bool.and_assoc]))⟩
                            case measure => simp [intOf]; omega
                    · have hk' : ex.length ≤ k := by have := HN.out; omega
                      have hD := HK.out
                      rw [List.drop_eq_nil_of_le hk', List.all_nil, Bool.true_and] at hD
                      have HR := Lib.hid hD
                      clear hD HK
                      have HR : Hid (R = (F && ((da.drop 0).all rightDat && true))) := Lib.hid (by simpa using HR.out)
                      go_wp2
                      clear hk' hk hlt c0 c1 c2 c3 c4 c5 c6 hBw
                      go_loopw [3, 13] (fun f i wr => ∃ (k : Nat) (F : Bool), k ≤ nd ∧ f = .bool F ∧ i = .int .i64 k ∧ Below (w.heap.size + 1) (w.alloc (.cells #[.slice tp nt tc, .slice fp nf fc, .slice mp nm mc, .slice gp ng gc, .slice ep ne ec, .int .i64 st, .slice dp nd dc] 31)) wr ∧ w.heap.size + 1 ≤ wr.heap.size ∧ Hid (R = (F && ((da.drop k).all rightDat && true)))) (fun _ i _ => nd - (intOf i).toNat)
                      case atStart => exact ⟨0, _, by omega, rfl, rfl, hB, hs, HR⟩
                      case round =>
                        clear HR hB hs
                        obtain ⟨k, F, hk, rfl, rfl, hB, hs, HK⟩ := hrel
                        have ⟨c0, c1, c2, c3, c4, c5, c6⟩ := boxM hB
                        have hBw : Below w.heap.size w wr := ((Below.refl _ w).alloc (Nat.le_refl _) _).trans (hB.mono (by omega))
                        by_cases hlt : k < nd
                        · have hlt' : k < da.length := by have := HN.out; omega
                          have hrows := HM.out.data.below hBw (Nat.le_refl _)
                          simp only at hrows
                          obtain ⟨b, o, e, hb, x0⟩ := hrows k hlt' 0 _ rfl
                          subst e
                          have x1 := hrows.cell hlt' 1 rfl
                          have hin := HM.out.dataIn da[k] (List.getElem_mem hlt')
                          have hD := HK.out
                          rw [List.drop_eq_getElem_cons hlt', List.all_cons] at hD
                          clear hrows HK
                          generalize da[k] = t at *
                          obtain ⟨ta, tb⟩ := t
                          simp only [Nat.add_zero] at x0 x1 hin
                          have ca := ref_small4 ta
                          simp only [rightDat] at hD
                          generalize small4 ta = B1 at ca hD
                          have HD := Lib.hid hD
                          clear hD hin
                          cases F
                          all_goals
                            go_wp2_with (first  | (go_at_call 121; (with_reducible refine (ca _).mono ?_); rintro e w' ⟨rfl, rfl⟩))
                            go_roundw
                            case rel => exact ⟨k + 1, _, by omega, rfl, by go_num, hB, hs, Lib.hid (by have hq := HD.out; first | exact hq | (rw [hq]; simp; done) | (rw [hq]; simp [Bool.and_assoc]))⟩
                            case measure => simp [intOf]; omega
                        · have hk' : da.length ≤ k := by have := HN.out; omega
                          have hD := HK.out
                          rw [List.drop_eq_nil_of_le hk', List.all_nil, Bool.true_and] at hD
                          have HR := Lib.hid hD
                          clear hD HK
                          go_wp2
                          go_ret
                          exact ⟨ret_bool (by simpa using HR.out), ((Below.refl _ w).alloc (Nat.le_refl _) _).trans (hB.mono (by omega))⟩

/-- The document's own answer, whole. -/
theorem ref_rightMod (m : MoV) (w : World) (h : ModAt w m) :
    Calls Tryz.prog 34 #[m.val] w fun e w' => e = .returned (.bool (rightMod m)) ∧ Below w.heap.size w w' := by
  obtain ⟨tp, tc, ty, fp, fc, fn, mp, mc, me, gp, gc, gl, ep, ec, ex, st, dp, dc, da⟩ := m
  simp only [MoV.val]
  by_cases hfew : fewMod ⟨tp, tc, ty, fp, fc, fn, mp, mc, me, gp, gc, gl, ep, ec, ex, st, dp, dc, da⟩
  · have e : rightMod ⟨tp, tc, ty, fp, fc, fn, mp, mc, me, gp, gc, gl, ep, ec, ex, st, dp, dc, da⟩ = (ty.all rightTy && (fn.all rightFn && (me.all rightMem && (gl.all rightGlob && (ex.all rightExp && da.all rightDat))))) := by unfold rightMod; rw [decide_eq_true hfew, Bool.true_and]
    rw [e]
    obtain ⟨h0, h1, h2, h3, h4, h5, h6⟩ := hfew
    by_cases hs : st = -1
    · exact ref_rightMod_none tp fp mp gp ep dp tc fc mc gc ec dc ty fn me gl ex da st hs _ _ _ _ _ _ rfl rfl rfl rfl rfl rfl h0 h1 h2 h3 h4 h5 w h
    · exact ref_rightMod_some tp fp mp gp ep dp tc fc mc gc ec dc ty fn me gl ex da st ⟨hs, h6.resolve_left hs⟩ _ _ _ _ _ _ rfl rfl rfl rfl rfl rfl h0 h1 h2 h3 h4 h5 w h
  · have e : rightMod ⟨tp, tc, ty, fp, fc, fn, mp, mc, me, gp, gc, gl, ep, ec, ex, st, dp, dc, da⟩ = false := by unfold rightMod; rw [decide_eq_false hfew, Bool.false_and]
    rw [e]
    exact ref_many tp fp mp gp ep dp tc fc mc gc ec dc _ _ _ _ _ _ st hfew w
end Go.Proofs.YtpamchagidnijaaGreatDoor
