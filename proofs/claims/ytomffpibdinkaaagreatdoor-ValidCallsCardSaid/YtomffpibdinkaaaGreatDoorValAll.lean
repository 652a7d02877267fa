/-
  Package valid: all functions of a module: which is too deep, whether all can be gone through: walked. Contracts that the proofs call; no statement is proved here.
-/
import Derived.Test.YtomffpibdinkaaaGreatDoorValFunc
namespace Go.Proofs.YtomffpibdinkaaaGreatDoor
open Go.RowKit Go.Maps
set_option linter.unusedVariables false
set_option linter.unusedSimpArgs false
variable {w0 : World} {B M : Nat} {m : MoV} {lo wh : ByteArray} {s : VS} {sv ov : Value} {w : World}

theorem fn_rows {W : World} {p : Option Addr} {l : List FnV} (h : RowsAt W p 3 FnV.row l) {j : Nat} (hj : j < l.length) : ∃ b o, p = some ⟨b, o, none⟩ ∧ b < W.heap.size ∧ W.cell? ⟨b, o + j * 3, none⟩ = some (.int .i64 l[j].type) ∧ W.cell? ⟨b, o + j * 3 + 1, none⟩ = some (.string l[j].locals) ∧ W.cell? ⟨b, o + j * 3 + 2, none⟩ = some (.slice l[j].cp l[j].code.length l[j].cc) := by
  obtain ⟨b, o, hp, hb⟩ := h.start hj rfl
  rw [hp] at h
  exact ⟨b, o, hp, hb, h.cell hj 0 rfl, h.cell hj 1 rfl, h.cell hj 2 rfl⟩
def Few7 (l : List FnV) : Prop := ∀ f ∈ l, f.code.length ≤ 400000
set_option maxRecDepth 100000 in
set_option maxHeartbeats 4000000 in
theorem v_contains (w : World) (p : Option Addr) (c : Nat) (l : List FnV) (hr : RowsAt w p 3 FnV.row l) (hin : ∀ f ∈ l, FnAt w f) (hfew : Few7 l) (hl : l.length ≤ 1000000) : Calls Tryz.prog 19 #[.slice p l.length c, .func (.func 20) #[] #[]] w fun e w' => e = .returned (.bool (l.any deep7)) ∧ Below w.heap.size w w' := by
  have ci : Calls Tryz.prog 52 #[.slice p l.length c, .func (.func 20) #[] #[]] w fun e w' => (∃ n : Int, e = .returned (.int .i64 n) ∧ decide (0 ≤ n) = l.any deep7) ∧ Below w.heap.size w w' := by
    obtain ⟨R, hR⟩ : ∃ R, l.any deep7 = R := ⟨_, rfl⟩
    rw [hR]
    have HR := Lib.hid hR
    have HRW := Lib.hid hr
    have HIN := Lib.hid hin
    have HF := Lib.hid hfew
    obtain ⟨L, hL⟩ : ∃ L, l.length = L := ⟨_, rfl⟩
    have HL := Lib.hid hL
    rw [hL] at hl ⊢
    clear hR hr hin hfew hL
    go_enter Tryz.func52, Tryz.ntmps52
    go_wp2
    go_loopw [5, 8] (fun u i wr => ∃ (j : Nat), i = .int .i64 j ∧ j ≤ L ∧ Hid ((l.drop j).any deep7 = R) ∧ Below w.heap.size w wr) (fun _ i _ => (L : Int).toNat - (intOf i).toNat)
    case atStart => exact ⟨0, rfl, Nat.zero_le _, HR, Below.refl _ _⟩
    case round =>
      obtain ⟨j, rfl, hj, HK, hB⟩ := hrel
      by_cases hjl : j < L
      · have hjx : j < l.length := by rw [HL.out]; exact hjl
        obtain ⟨cb, co, rfl, hcb, e0, e1, e2⟩ := fn_rows (HRW.out.below hB (Nat.le_refl _)) hjx
        have hmem := List.getElem_mem hjx
        have cd := v_deep wr l[j] ((HIN.out _ hmem).below hB (Nat.le_refl _)) (by have := HF.out _ hmem; omega)
        have HK1 : Hid ((l[j] :: l.drop (j + 1)).any deep7 = R) := Lib.hid (by rw [← List.drop_eq_getElem_cons hjx]; exact HK.out)
        generalize l[j] = f at *
        unfold FnV.val at cd
        obtain ⟨dp, hdp⟩ : ∃ dp, deep7 f = dp := ⟨_, rfl⟩
        rw [hdp] at cd
        have HD := Lib.hid hdp
        have j0 : (0 : Int) ≤ (j : Int) := by omega
        have j1 : (j : Int) < (L : Int) := by omega
        have jw : IntKind.i64.wrap ((j : Int) + 1) = ((j + 1 : Nat) : Int) := by rw [show (j : Int) + 1 = ((j + 1 : Nat) : Int) by omega]; exact IntWalk.i64_in _ (by omega)
        clear hdp hmem HK
        go_wp2_with fail
        refine cd.mono ?_
        rintro e w2 ⟨rfl, hb2⟩
        have hB2 := hB.trans (hb2.mono hB.size)
        clear cd e0 e1 e2 hb2
        cases dp with
        | true =>
          have hRt : true = R := by rw [← HK1.out, List.any_cons, HD.out]; rfl
          subst hRt
          go_wp2
          go_ret
          exact ⟨⟨_, rfl, by simp⟩, hB2⟩
        | false =>
          have HK2 : Hid ((l.drop (j + 1)).any deep7 = R) := Lib.hid (by rw [← HK1.out, List.any_cons, HD.out]; rfl)
          go_wp2
          go_roundw
          case rel => exact ⟨j + 1, by go_num, by omega, HK2, hB2⟩
          case measure => simp [intOf]; omega
      · have hjL : j = L := by omega
        subst hjL
        have hRf : false = R := by rw [← HK.out, ← HL.out, List.drop_length]; rfl
        subst hRf
        clear HK
        go_wp2
        go_ret
        exact ⟨⟨_, rfl, by decide⟩, hB⟩
  generalize l.any deep7 = R at *
  clear hr hin hfew
  go_enter Tryz.func19, Tryz.ntmps19
  go_wp2_with (go_at_call 52; (with_reducible refine ci.mono ?_); rintro e w2 ⟨⟨n, rfl, hn⟩, hb2⟩)
  go_ret
  exact ⟨by rw [← hn]; rfl, hb2⟩
set_option maxRecDepth 100000 in
set_option maxHeartbeats 8000000 in
theorem v_all (w : World) (hL : Spaces w) (m : MoV) (hm : ModAt w m) (hT : Tys7 m) (hfit : ∀ f ∈ m.funcs, Fit7 f) (hfl : m.funcs.length ≤ 1000000) : Calls Tryz.prog 21 #[m.val] w fun e w' => e = .returned (.bool (m.funcs.all (validFn m))) ∧ Below w.heap.size w w' := by
  obtain ⟨R, hR⟩ : ∃ R, m.funcs.all (validFn m) = R := ⟨_, rfl⟩
  rw [hR]
  obtain ⟨W1, hW1⟩ : ∃ W, W = w.alloc (modObj m) := ⟨_, rfl⟩
  have hB1 : Below w.heap.size w W1 := by rw [hW1]; exact (Below.refl _ _).alloc (Nat.le_refl _) _
  have hb1 : W1.heap[w.heap.size]? = some (modObj m) := by rw [hW1]; exact heap_alloc_new _ _
  have hl1 := in_heap7 hb1
  have cn := v_new m W1
  obtain ⟨q0, q1, q2, q3, q4, q5, q6⟩ := box_seven7 hb1
  have HM := Lib.hid (hm.below hB1 (Nat.le_refl _))
  have HL := Lib.hid (hL.below hB1)
  have HR := Lib.hid hR
  unfold MoV.val at cn ⊢
  unfold modObj at hW1
  clear hm hR hL
  go_enter Tryz.func21, Tryz.ntmps21
  go_wp2_with fail
  rw [← hW1]
  clear hW1
  refine cn.mono ?_
  rintro e w2 ⟨rfl, hS, hb2⟩
  have k2 := (hb2.block _ hl1).trans hb1
  obtain ⟨q0, q1, q2, q3, q4, q5, q6⟩ := box_seven7 k2
  have hB2 := hB1.trans (hb2.mono hB1.size)
  clear cn
  go_wp2
  obtain ⟨L, hLL⟩ : ∃ L, m.funcs.length = L := ⟨_, rfl⟩
  have HLL := Lib.hid hLL
  rw [hLL]
  rw [hLL] at hfl
  clear hLL
  go_loopw [5, 11] (fun u i wr => ∃ (j : Nat) (lo wh : ByteArray) (s : VS) (sv ov : Value), i = .int .i64 j ∧ j ≤ L ∧ Hid ((m.funcs.drop j).all (validFn m) = R) ∧ s.opens = [] ∧ WSt W1 (W1.heap.size + 1) (W1.heap.size + 1 + 1) m lo wh s sv ov wr) (fun _ i _ => (L : Int).toNat - (intOf i).toNat)
  case atStart => exact ⟨0, _, _, _, _, _, rfl, Nat.zero_le _, HR, rfl, hS⟩
  case round =>
    clear hS q0 q1 q2 q3 q4 q5 q6 k2 hb1
    obtain ⟨j, lo, wh, s, sv, ov, rfl, hj, HK, hs0, hW⟩ := hrel
    by_cases hjl : j < L
    · have hjx : j < m.funcs.length := by rw [HLL.out]; exact hjl
      obtain ⟨cb, co, hcp, hcb, e0, e1, e2⟩ := fn_rows (HM.out.below hW.1.below (Nat.le_refl _)).funcs hjx
      have hmem := List.getElem_mem hjx
      have hff := HM.out.funcsIn _ hmem
      have hft := hfit _ hmem
      have HK1 : Hid ((m.funcs[j] :: m.funcs.drop (j + 1)).all (validFn m) = R) := Lib.hid (by rw [← List.drop_eq_getElem_cons hjx]; exact HK.out)
      generalize m.funcs[j] = f at *
      have hX := hW.at' (w' := wr.alloc (fnObj f)) ((Below.refl _ _).alloc (Nat.le_refl _) _)
      have ct := v_through HL.out hX hs0 HM.out hT f hff hft.locals hft.code hft.ops hft.len
      obtain ⟨vf, hvf⟩ : ∃ vf, validFn m f = vf := ⟨_, rfl⟩
      rw [hvf] at ct
      have HV := Lib.hid hvf
      unfold FnV.val fnObj at ct
      have j0 : (0 : Int) ≤ (j : Int) := by omega
      have j1 : (j : Int) < (L : Int) := by omega
      have jw : IntKind.i64.wrap ((j : Int) + 1) = ((j + 1 : Nat) : Int) := by rw [show (j : Int) + 1 = ((j + 1 : Nat) : Int) by omega]; exact IntWalk.i64_in _ (by omega)
      clear hvf hmem HK hX hW
      rw [hcp]
      go_wp2_with fail
      refine ct.mono ?_
      rintro e w3 ⟨rfl, lo3, wh3, s3, sv3, ov3, hS3, ho3⟩
      clear ct e0 e1 e2
      cases vf with
      | false =>
        have hRf : false = R := by rw [← HK1.out, List.all_cons, HV.out]; rfl
        subst hRf
        go_wp2
        go_ret
        exact ⟨rfl, hB1.trans (hS3.1.below.mono hB1.size)⟩
      | true =>
        have HK2 : Hid ((m.funcs.drop (j + 1)).all (validFn m) = R) := Lib.hid (by rw [← HK1.out, List.all_cons, HV.out]; rfl)
        rw [← hcp]
        go_wp2
        go_roundw
        case rel => exact ⟨j + 1, _, _, _, _, _, by go_num, by omega, HK2, ho3 trivial, hS3⟩
        case measure => simp [intOf]; omega
    · have hjL : j = L := by omega
      subst hjL
      have hRt : true = R := by rw [← HK.out, ← HLL.out, List.drop_length]; rfl
      subst hRt
      clear HK
      go_wp2
      go_ret
      exact ⟨rfl, hB1.trans (hW.1.below.mono hB1.size)⟩
end Go.Proofs.YtomffpibdinkaaaGreatDoor
