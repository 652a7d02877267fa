/-
  Package valid's walk: a table of labels: walked. A contract that the proofs call; no statement is proved here.
-/
import Derived.Test.YtomffpibdinkaaaGreatDoorValChoose
namespace Go.Proofs.YtomffpibdinkaaaGreatDoor
open Go.RowKit
set_option linter.unusedVariables false
variable {w0 : World} {B M : Nat} {m : MoV} {lo wh : ByteArray} {s : VS} {sv ov : Value} {w : World}

def tab7 (k : List UInt8) (t : VS) (n : Int) : VS := (t.label n).2.ask ((t.label n).1 == k)
theorem tab_opens (k : List UInt8) : ∀ (l : List Int) (t : VS), (l.foldl (tab7 k) t).opens = t.opens
  | [], t => rfl
  | n :: l, t => by
    show (l.foldl (tab7 k) (tab7 k t n)).opens = _
    rw [tab_opens k l]
    show ((t.label n).2.ask _).opens = _
    rw [ask_opens, label_opens]
theorem ints_at7 {W : World} {lp : Option Addr} {ls : List Int} (h : IntsAt W lp ls) (j : Nat) (hj : j < ls.length) : ∃ b o, lp = some ⟨b, o, none⟩ ∧ W.cell? ⟨b, o + j, none⟩ = some (.int .i64 ls[j]) := by
  obtain ⟨b, o, h1, h2, h3⟩ := h j hj
  exact ⟨b, o, h1, h3⟩
set_option maxRecDepth 100000 in
set_option maxHeartbeats 8000000 in
theorem s_brTable (h : WAt w0 B M m lo wh s sv ov w) (hr : Room7 s) (x : InsV) (hx : InsAt w0 x) : Calls Tryz.prog 78 #[.pointer (some ⟨B, 0, none⟩), x.val] w (DidV w0 B M m lo wh (((x.ls.foldl (tab7 ((s.take [127]).label x.a).1) ((s.take [127]).label x.a).2).take ((s.take [127]).label x.a).1).kill) sv ov w (.tuple #[])) := by
  obtain ⟨hints, hlen, _, ha, _, hin⟩ := hx
  obtain ⟨hI, mI, nI, aI⟩ := h.boxed x
  clear h
  obtain ⟨WI, hWI⟩ : ∃ W, W = w.alloc (insObj x) := ⟨_, rfl⟩
  rw [← hWI] at hI mI nI
  obtain ⟨c0, c1, c2, c3⟩ := box_ins nI
  have ct := v_take hI hr.ne ⟨#[127]⟩ (by decide)
  rw [show (⟨#[127]⟩ : ByteArray).data.toList = [127] from rfl] at ct
  unfold insObj at hWI
  have hlen1 := take_len7 s [127]
  have hres : ∀ b ∈ (s.take [127]).opens, b.result.length ≤ 1 := by rw [take_opens]; exact hr.res
  have hne : (s.take [127]).opens ≠ [] := by rw [take_opens]; exact hr.ne
  obtain ⟨s1, hs1⟩ : ∃ s1, s.take [127] = s1 := ⟨_, rfl⟩
  rw [hs1] at ct hlen1 hres hne ⊢
  have cl := fun (W : World) (sv2 ov2 : Value) (h2 : WAt w0 B M m lo wh s1 sv2 ov2 W) => v_label h2 x.a ha
  have hs := label_short hres x.a
  have hne2 : (s1.label x.a).2.opens ≠ [] := by rw [label_opens]; exact hne
  obtain ⟨k, s2, hK⟩ : ∃ k s2, s1.label x.a = (k, s2) := ⟨_, _, rfl⟩
  rw [hK] at cl hs hne2 ⊢
  dsimp only at cl hs hne2 ⊢
  obtain ⟨xo, xa, xb, xp, xc, xl⟩ := x
  dsimp only [InsV.val] at *
  obtain ⟨R, hR⟩ : ∃ R, xl.foldl (tab7 k) s2 = R := ⟨_, rfl⟩
  rw [hR]
  have HR := Lib.hid hR
  have HI := Lib.hid hints
  have HN := Lib.hid hin
  have hneR : R.opens ≠ [] := by rw [← hR, tab_opens]; exact hne2
  clear hR hK hs1 hres hr hints hin
  obtain ⟨L, hL⟩ : ∃ L, xl.length = L := ⟨_, rfl⟩
  skip
  rw [hL] at hlen c3 hWI
  go_enter Tryz.func78, Tryz.ntmps78
  go_wp2_with fail
  rw [← hWI]
  clear hWI
  refine ct.mono ?_
  rintro e w2 ⟨sv2, ov2, rfl, h2, m2⟩
  obtain ⟨n2, a2⟩ := m2.keeps (w0 := w0) nI aI
  obtain ⟨d0, d1, d2, d3⟩ := box_ins n2
  have cl2 := cl _ _ _ h2
  clear ct cl h2 c0 c1 c2 c3
  go_wp2_with fail
  refine cl2.mono ?_
  rintro e w3 ⟨sv3, ov3, rfl, h3, m3⟩
  obtain ⟨n3, a3⟩ := m3.keeps (w0 := w0) n2 a2
  obtain ⟨e0, e1, e2, e3⟩ := box_ins n3
  dsimp only at e3
  rw [hL] at e3
  have M3 := Lib.hid ((mI.trans m2).trans m3)
  clear cl2 d0 d1 d2 d3 m3 m2 mI n2 a2 hI nI e0 e1 e2 hne
  go_wp2
  go_loopw [6, 16] (fun u i wr => ∃ (j : Nat) (sk : VS) (sv1 ov1 : Value), i = .int .i64 j ∧ j ≤ L ∧ Hid ((xl.take j).foldl (tab7 k) s2 = sk) ∧ sk.opens ≠ [] ∧ WAt w0 B M m lo wh sk sv1 ov1 wr ∧ MovV B sv ov w wr sv1 ov1) (fun _ i _ => (L : Int).toNat - (intOf i).toNat)
  case atStart => exact ⟨0, s2, sv3, ov3, rfl, Nat.zero_le _, Lib.hid rfl, hne2, h3, M3.out⟩
  case round =>
    clear h3 hne2
    obtain ⟨j, sk, sv1, ov1, rfl, hj, HK, hne, hW, hm⟩ := hrel
    by_cases hjl : j < L
    · have hjx : j < xl.length := by rw [hL]; exact hjl
      obtain ⟨bb, oo, rfl, hcell⟩ := ints_at7 (HI.out.below hW.below (Nat.le_refl _)) j hjx
      have hn := HN.out _ (List.getElem_mem hjx)
      have cl := v_label hW xl[j] hn
      obtain ⟨sn, hsn⟩ : ∃ sn, tab7 k sk xl[j] = sn := ⟨_, rfl⟩
      have HK2 : Hid ((xl.take (j + 1)).foldl (tab7 k) s2 = sn) := Lib.hid (by rw [List.take_succ_eq_append_getElem hjx, List.foldl_append, HK.out]; exact hsn)
      have hne3 : sn.opens ≠ [] := by rw [← hsn]; show ((sk.label xl[j]).2.ask _).opens ≠ []; rw [ask_opens, label_opens]; exact hne
      unfold tab7 at hsn
      obtain ⟨k4, s4, hk4⟩ : ∃ k4 s4, sk.label xl[j] = (k4, s4) := ⟨_, _, rfl⟩
      rw [hk4] at cl hsn
      dsimp only at cl hsn
      generalize xl[j] = nn at *
      have j0 : (0 : Int) ≤ (j : Int) := by omega
      have j1 : (j : Int) < (L : Int) := by omega
      have jw : IntKind.i64.wrap ((j : Int) + 1) = ((j + 1 : Nat) : Int) := by rw [show (j : Int) + 1 = ((j + 1 : Nat) : Int) by omega]; exact IntWalk.i64_in _ (by omega)
      clear hW HK hk4
      go_wp2_with fail
      refine cl.mono ?_
      rintro e w4 ⟨sv4, ov4, rfl, h4, m4⟩
      obtain ⟨v, hv⟩ : ∃ v : Bool, (k4 == k) = v := ⟨_, rfl⟩
      have ca := v_ask h4 v
      rw [hv] at hsn
      rw [hsn] at ca
      have hq : ((b7 k4).toList == (b7 k).toList) = v := by rw [ByteArray.toList_eq, ByteArray.toList_eq, b7_list, b7_list]; exact hv
      have HM := Lib.hid (hm.trans m4)
      clear cl hv hsn hm m4 h4
      go_wp2_with (go_at_call 106; (with_reducible refine ca.mono ?_); rintro e w5 ⟨sv5, ov5, rfl, h5, m5⟩)
      go_roundw
      case rel => exact ⟨j + 1, sn, sv5, ov5, by go_num, by omega, HK2, hne3, h5, HM.out.trans m5⟩
      case measure => simp [intOf]; omega
    · have hjL : j = L := by omega
      subst hjL
      have hR2 : sk = R := by rw [← HK.out, ← HR.out, ← hL, List.take_length]
      subst hR2
      have cT := v_take hW hne (b7 k) (by rw [b7_size]; omega)
      rw [b7_list] at cT
      have cK := fun (W : World) (sv2 ov2 : Value) (h2 : WAt w0 B M m lo wh (sk.take k) sv2 ov2 W) => v_kill h2 (by rw [take_opens]; exact hne)
      have HM := Lib.hid hm
      clear hW hm
      go_wp2_with fail
      refine cT.mono ?_
      rintro e w4 ⟨sv4, ov4, rfl, h4, m4⟩
      have cK2 := cK _ _ _ h4
      clear cT cK h4
      go_wp2_with (go_at_call 102; (with_reducible refine cK2.mono ?_); rintro e w5 ⟨sv5, ov5, rfl, h5, m5⟩)
      go_end0
      exact ⟨_, _, rfl, h5, (HM.out.trans m4).trans m5⟩
end Go.Proofs.YtomffpibdinkaaaGreatDoor
