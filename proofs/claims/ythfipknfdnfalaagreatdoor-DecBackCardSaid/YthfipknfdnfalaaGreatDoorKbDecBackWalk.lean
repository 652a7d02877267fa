/-
  The statement on what was written, and is read again, or cut, walked. Only its frame proves it.
-/
import Derived.Test.YthfipknfdnfalaaGreatDoorKbDecSame
import Derived.Test.YthfipknfdnfalaaGreatDoorKbEncHead
import Derived.Test.YthfipknfdnfalaaGreatDoorKbDecModW
namespace Go.Proofs.YthfipknfdnfalaaGreatDoor
set_option maxRecDepth 100000
set_option maxHeartbeats 16000000
open Go.RowKit
set_option linter.unusedVariables false
theorem madeV_val6 (H : Nat) (pc : Option Addr) (cc : Nat) (code : List PI) (mx i0 i1 ix st : Int) : (madeV H pc cc code mx i0 i1 ix st).val = .agg #[.slice (some ⟨H, 0, none⟩) 1 1, .slice (some ⟨H + 1, 0, none⟩) 1 1, .slice (some ⟨H + 2, 0, none⟩) 1 1, .slice (some ⟨H + 3, 0, none⟩) 2 2, .slice (some ⟨H + 4, 0, none⟩) 1 1, .int .i64 st, .slice (some ⟨H + 5, 0, none⟩) 1 1] := rfl
def progB (code : List PI) : List UInt8 := head47 ++ codeB (allB code) ++ tailB
structure Prog6 (code : List PI) (V : MoV) : Prop where
  ans : ans5 V = (progB code, 0)
  bytes : mod5 V = progB code
  back : mod6 (progB code) = .ok V.bare []
  few : (allB code).length ≤ 220000
  lo : 75 ≤ (progB code).length
  hi : (progB code).length ≤ 230000
theorem made_prog {w : World} {lo H : Nat} {pc : Option Addr} {cc : Nat} {code : List PI} (h : MadeAt w lo H pc cc code 2 5 (-5) 0) : Prog6 code (madeV H pc cc code 2 5 (-5) 0 (-1)) := by
  have hA : (allB code).length ≤ 220000 := by
    have h1 := all_small h.right
    have h2 := h.most
    omega
  have hm : mod5 (madeV H pc cc code 2 5 (-5) 0 (-1)) = progB code := made_bytes _ _ _ _ _ _ _ _
  obtain ⟨P, Q, h1, h2, rfl⟩ := code_in (allB code) (by omega)
  have h3 := head47_len
  have h4 := code_least (A := allB code)
  have ht : tailB.length = 19 := by decide +kernel
  have h5 : (codeB (allB code)).length ≤ 220100 := by rw [h1]; simp only [List.length_append, List.length_nil]; omega
  have hlen : (progB code).length = 66 + (codeB (allB code)).length := by unfold progB; simp only [List.length_append]; omega
  have hr : rightMod (madeV H pc cc code 2 5 (-5) 0 (-1)) = true := by rw [h.rights]; decide
  refine ⟨?_, hm, ?_, hA, by omega, by omega⟩
  · unfold ans5
    rw [if_pos hr, if_neg (by rw [hm]; omega), hm]
  · rw [← hm]
    exact mod6_put hr (h.modAt ⟨by decide, by decide⟩ ⟨by decide, by decide⟩ ⟨by decide, by decide⟩ ⟨by decide, by decide⟩ ⟨by decide, by decide⟩).fits (by rw [hm]; omega)
theorem bs_take (S : List UInt8) (k : Nat) : (bs S).extract 0 k = bs (S.take k) := by
  apply ByteArray.ext
  apply Array.toList_inj.1
  rw [ByteArray.data_extract, Array.toList_extract, List.extract_eq_take_drop, bs_list9, bs_list9]
  simp
theorem bs_size6 (l : List UInt8) : (bs l).size = l.length := by simp [bs, ByteArray.size]
theorem reads_six {w : World} {B : Nat} {u0 u1 u2 u3 u4 u5 u6 : Value} {t : TypeId} (h : w.heap[B]? = some (.cells #[u0, u1, u2, u3, u4, u5, u6] t)) :
    w.cell? ⟨B, 0, none⟩ = some u0 ∧ w.cell? ⟨B, 1, none⟩ = some u1 ∧ w.cell? ⟨B, 2, none⟩ = some u2 ∧ w.cell? ⟨B, 3, none⟩ = some u3 ∧ w.cell? ⟨B, 4, none⟩ = some u4 ∧ w.cell? ⟨B, 5, none⟩ = some u5 ∧ w.cell? ⟨B, 6, none⟩ = some u6 ∧ B < w.heap.size := by
  have c : ∀ j, w.cell? ⟨B, j, none⟩ = (#[u0, u1, u2, u3, u4, u5, u6] : Array Value)[j]? := fun j => by rw [World.cell?, h]; rfl
  exact ⟨c 0, c 1, c 2, c 3, c 4, c 5, c 6, in_heap6 h⟩
theorem dec_back {code : List PI} {V : MoV} (h : Prog6 code V) (W : World) (hL : Laid W) : Calls Tryz.prog 19 #[.string (bs (progB code))] W fun e w' => ∃ n : MoV, e = .returned (.tuple #[n.val, .int .i64 0]) ∧ n.bare = V.bare ∧ ModAt w' n ∧ Below W.heap.size W w' := by
  refine (dec_mod (bs (progB code)) W hL).mono ?_
  rintro e w' ⟨n, rfl, h1, h2, h3⟩
  have e1 : modAns (bs (progB code)).data.toList = (V.bare, 0) := by rw [bs_list9]; unfold modAns; rw [h.back]
  rw [e1] at h1 ⊢
  exact ⟨n, rfl, h1, h2, h3⟩
theorem dec_any (S : List UInt8) (W : World) (hL : Laid W) : Calls Tryz.prog 19 #[.string (bs S)] W fun e w' => ∃ n : MoV, e = .returned (.tuple #[n.val, .int .i64 (modAns S).2]) ∧ n.bare = (modAns S).1 ∧ ModAt w' n ∧ Below W.heap.size W w' := by
  refine (dec_mod (bs S) W hL).mono ?_
  rintro e w' ⟨n, rfl, h1, h2, h3⟩
  rw [bs_list9] at h1 ⊢
  exact ⟨n, rfl, h1, h2, h3⟩
theorem decBack_walk (p : Option Addr) (c : Nat) (l : List StepV) (cut : Int) (hc : 0 ≤ cut ∧ cut < 65536) (w : World) (hLaid : Laid w) (hS : StepsAt w p l) :
    Calls Tryz.prog 5 #[.slice p l.length c, .int .u16 cut] w fun e w' => e = .returned (.bool true) ∧ Below w.heap.size w w' := by
  have cH := examples6 w hLaid
  have cM := fun W (hW : Below w.heap.size w W) => made_fn p c l W (hS.below hW (Nat.le_refl _))
  clear hS
  generalize codeF l = code at *
  generalize l.length = ln at *
  simp only [madeV_val6] at cM
  go_enter Tryz.func5, Tryz.ntmps5
  go_wp2_with (first
    | (go_at_call 15; (with_reducible refine cH.mono ?_); rintro e w1 ⟨rfl, hB1⟩)
    | (go_at_call 17; (with_reducible refine (cM _ hB1).mono ?_); rintro e w2 ⟨H, pc, cc, rfl, hM, hb2⟩))
  have hB2 := belt hB1 (Nat.le_refl _) hb2
  have hP := made_prog hM
  have hbA : Below w2.heap.size w2 (w2.alloc (.cells #[.slice (some ⟨H, 0, none⟩) 1 1, .slice (some ⟨H + 1, 0, none⟩) 1 1, .slice (some ⟨H + 2, 0, none⟩) 1 1, .slice (some ⟨H + 3, 0, none⟩) 2 2, .slice (some ⟨H + 4, 0, none⟩) 1 1, .int .i64 (-1), .slice (some ⟨H + 5, 0, none⟩) 1 1] 35)) := (Below.refl _ w2).alloc (Nat.le_refl _) _
  have hB2a := hB2.alloc hB2.size (.cells #[.slice (some ⟨H, 0, none⟩) 1 1, .slice (some ⟨H + 1, 0, none⟩) 1 1, .slice (some ⟨H + 2, 0, none⟩) 1 1, .slice (some ⟨H + 3, 0, none⟩) 2 2, .slice (some ⟨H + 4, 0, none⟩) 1 1, .int .i64 (-1), .slice (some ⟨H + 5, 0, none⟩) 1 1] 35)
  have hMA := (hM.below hbA).modAt (mx := 2) (i0 := 5) (i1 := -5) (ix := 0) (st := -1) ⟨by decide, by decide⟩ ⟨by decide, by decide⟩ ⟨by decide, by decide⟩ ⟨by decide, by decide⟩ ⟨by decide, by decide⟩
  have cE := enc_mod _ _ (hLaid.below hB2a) hMA
  rw [hP.ans, madeV_val6] at cE
  clear cM cH hb2 hB2 hbA
  go_wp2_with fail
  refine cE.mono ?_
  rintro e w3 ⟨rfl, hb3⟩
  have hm3 := (hb3.block w2.heap.size (by simp)).trans (heap_alloc_new w2 (.cells #[.slice (some ⟨H, 0, none⟩) 1 1, .slice (some ⟨H + 1, 0, none⟩) 1 1, .slice (some ⟨H + 2, 0, none⟩) 1 1, .slice (some ⟨H + 3, 0, none⟩) 2 2, .slice (some ⟨H + 4, 0, none⟩) 1 1, .int .i64 (-1), .slice (some ⟨H + 5, 0, none⟩) 1 1] 35))
  have hB3 := belt6 hB2a (Nat.le_refl _) hb3
  have hMA3 := hMA.below hb3 (Nat.le_refl _)
  have cD := dec_back hP w3 (hLaid.below hB3)
  clear cE hM hMA hb3 hB2a hB1
  go_wp2_with fail
  refine cD.mono ?_
  rintro e w4 ⟨⟨tp, tc, types, fp, fc, funcs, mp, mc, memory, gp, gc, globals, ep, ec, exports, start, dp, dc, data⟩, rfl, hn1, hn2, hb4⟩
  have hbN : Below w4.heap.size w4 (w4.alloc (.cells #[.slice tp types.length tc, .slice fp funcs.length fc, .slice mp memory.length mc, .slice gp globals.length gc, .slice ep exports.length ec, .int .i64 start, .slice dp data.length dc] 35)) := (Below.refl _ w4).alloc (Nat.le_refl _) _
  have hm4 := (hb4.block _ (in_heap6 hm3)).trans hm3
  have hB4 := belt6 hB3 (Nat.le_refl _) hb4
  have cS := mod_same _ _ (w4.alloc (.cells #[.slice tp types.length tc, .slice fp funcs.length fc, .slice mp memory.length mc, .slice gp globals.length gc, .slice ep exports.length ec, .int .i64 start, .slice dp data.length dc] 35)) ((hMA3.below hb4 (Nat.le_refl _)).below hbN (Nat.le_refl _)) (hn2.below hbN (Nat.le_refl _))
  rw [same_bare hn1.symm, madeV_val6] at cS
  simp only [MoV.val] at cS ⊢
  obtain ⟨a0, a1, a2, a3, a4, a5, a6, _⟩ := reads_six ((Below.heap_alloc w4 (.cells #[.slice tp types.length tc, .slice fp funcs.length fc, .slice mp memory.length mc, .slice gp globals.length gc, .slice ep exports.length ec, .int .i64 start, .slice dp data.length dc] 35) _ (in_heap6 hm4)).trans hm4)
  obtain ⟨d0, d1, d2, d3, d4, d5, d6, _⟩ := reads_six (heap_alloc_new w4 (.cells #[.slice tp types.length tc, .slice fp funcs.length fc, .slice mp memory.length mc, .slice gp globals.length gc, .slice ep exports.length ec, .int .i64 start, .slice dp data.length dc] 35))
  have hB4a := hB4.alloc hB4.size (.cells #[.slice tp types.length tc, .slice fp funcs.length fc, .slice mp memory.length mc, .slice gp globals.length gc, .slice ep exports.length ec, .int .i64 start, .slice dp data.length dc] 35)
  clear cD hn1 hn2 hb4 hMA3 hm3 hB3 hbN hB4
  go_wp2_with fail
  refine cS.mono ?_
  rintro e w5 ⟨rfl, hb5⟩
  have hB5 := belt6 hB4a (Nat.le_refl _) hb5
  clear cS a0 a1 a2 a3 a4 a5 a6 d0 d1 d2 d3 d4 d5 d6 hm4 hB4a hb5
  have hlo := hP.lo
  have hhi := hP.hi
  have hfew := hP.few
  have hbad : ∀ k, k < (progB code).length → k ≠ 8 → k ≠ 17 → 40 ≤ (progB code).length - k → (modAns ((progB code).take k)).2 = 2 := fun k h1 h2 h3 h4 => by
    unfold modAns
    rw [show mod6 ((progB code).take k) = .bad 2 from cut_ans (by omega) h1 h2 h3 h4]
  clear hP hfew
  generalize progB code = S at *
  obtain ⟨N, hN⟩ : ∃ N, S.length = N := ⟨_, rfl⟩
  have hsz : (bs S).size = N := (bs_size6 S).trans hN
  rw [hN] at hlo hhi hbad
  have q60 : ¬ (N : Int) < 60 := by omega
  have hnz : (N : Int) ≠ 0 := by omega
  obtain ⟨kk, hkk, hlt⟩ : ∃ kk : Nat, cut % (N : Int) = kk ∧ kk < N := ⟨(cut % (N : Int)).toNat, (by have := Int.emod_nonneg cut hnz; omega), (by have := Int.emod_lt_of_pos cut (show (0 : Int) < (N : Int) by omega); omega)⟩
  have hc0 := hc.1
  have hc1 := hc.2
  have z0 : (0 : Int) ≤ (kk : Int) := by omega
  have z1 : (kk : Int) ≤ (N : Int) := by omega
  have z2 : kk ≤ N := by omega
  have hnq : ((N : Int) == 0) = false := beq_eq_false_iff_ne.2 hnz
  have hb8 := hbad kk hlt
  have cG := dec_any (S.take kk) w5 (hLaid.below hB5)
  rw [← bs_take] at cG
  obtain ⟨g, hg⟩ : ∃ g, (modAns (S.take kk)).2 = g := ⟨_, rfl⟩
  rw [hg] at cG hb8
  clear hbad hg hc
  have HN := Lib.hid hN
  clear hN
  go_wp2_with fail
  refine cG.mono ?_
  rintro e w6 ⟨⟨tp6, tc6, types6, fp6, fc6, funcs6, mp6, mc6, memory6, gp6, gc6, globals6, ep6, ec6, exports6, start6, dp6, dc6, data6⟩, rfl, _, _, hb6⟩
  have HB := Lib.hid (belt6 hB5 (Nat.le_refl _) hb6)
  simp only [MoV.val]
  clear cG hB5 hb6
  by_cases g2 : g = 2
  · subst g2
    clear hb8
    go_wp2
    go_ret
    exact ⟨rfl, HB.out.alloc HB.out.size _⟩
  · have hq2 : (g == 2) = false := beq_eq_false_iff_ne.2 g2
    by_cases k8 : kk = 8
    · subst k8
      clear hb8
      go_wp2
      go_ret
      exact ⟨rfl, HB.out.alloc HB.out.size _⟩
    · have hq8 : ((kk : Int) == 8) = false := beq_eq_false_iff_ne.2 (by omega)
      by_cases k17 : kk = 17
      · subst k17
        clear hb8
        go_wp2
        go_ret
        exact ⟨rfl, HB.out.alloc HB.out.size _⟩
      · have hq17 : ((kk : Int) == 17) = false := beq_eq_false_iff_ne.2 (by omega)
        have h40 : (N : Int) - (kk : Int) < 40 := by
          have := fun h => g2 (hb8 k8 k17 h)
          omega
        clear hb8
        go_wp2
        go_ret
        exact ⟨rfl, HB.out.alloc HB.out.size _⟩
end Go.Proofs.YthfipknfdnfalaaGreatDoor
