/-
  Package valid's walk takes types, the last one first; it kills the way, opens a block, leaves one: walked. Contracts that the proofs call; no statement is proved here.
-/
import Derived.Test.YtomffpibdinkaaaGreatDoorValOps
import Derived.LoopTactic
namespace Go.Proofs.YtomffpibdinkaaaGreatDoor
open Go.RowKit
set_option linter.unusedVariables false
variable {w0 : World} {B M : Nat} {m : MoV} {lo wh : ByteArray} {s : VS} {sv ov : Value} {w : World}

theorem take_snoc7 (l : List UInt8) (j : Nat) (h : j < l.length) : (l.take (j + 1)).reverse = l[j] :: (l.take j).reverse := by
  rw [List.take_succ_eq_append_getElem h, List.reverse_append]; rfl
theorem takeL_stop {s : VS} (h : s.endless = true) (l : List UInt8) : takeL l s = s := by
  cases l with
  | nil => rfl
  | cons k l => unfold takeL; rw [if_pos h]
theorem takeL_go {s : VS} (h : s.endless = false) (k : UInt8) (l : List UInt8) : takeL (k :: l) s = takeL l ((s.takeAny.2).ask (s.takeAny.1 == k || s.takeAny.1 == 0)) := by
  show (if s.endless then s else _) = _
  rw [h]
  rfl
theorem u8_eq {a b : UInt8} : (a == b) = decide ((a.toNat : Int) = (b.toNat : Int)) := by
  rw [Bool.eq_iff_iff]
  simp only [beq_iff_eq, decide_eq_true_eq, Int.ofNat_inj]
  exact UInt8.toNat_inj.symm
set_option maxRecDepth 100000 in
set_option maxHeartbeats 4000000 in
theorem v_take (h : WAt w0 B M m lo wh s sv ov w) (h0 : s.opens ≠ []) (k : ByteArray) (hk : k.size ≤ 1000000000) : Calls Tryz.prog 104 #[.pointer (some ⟨B, 0, none⟩), .string k] w (DidV w0 B M m lo wh (s.take k.data.toList) sv ov w (.tuple #[])) := by
  have hlk : k.data.toList.length = k.size := Array.length_toList
  obtain ⟨R, hR⟩ : ∃ R, s.take k.data.toList = R := ⟨_, rfl⟩
  rw [hR]
  have hstart : (k.size = 0 ∧ s = R) ∨ (∃ j : Nat, k.size = j + 1 ∧ takeL ((k.data.toList.take (j + 1)).reverse) s = R) := by
    cases hz : k.size with
    | zero =>
      refine .inl ⟨rfl, ?_⟩
      rw [hz] at hlk
      rw [← hR, List.length_eq_zero_iff.1 hlk]
      rfl
    | succ j =>
      refine .inr ⟨j, rfl, ?_⟩
      rw [← hR, List.take_of_length_le (by omega)]
      rfl
  have HS := Lib.hid hstart
  clear hR hstart
  go_enter Tryz.func104, Tryz.ntmps104
  go_wp2
  go_loopw [4] (fun i wr => ∃ (sk : VS) (sv1 ov1 : Value), ((∃ j : Nat, i = .int .i64 j ∧ j < k.size ∧ Hid (takeL ((k.data.toList.take (j + 1)).reverse) sk = R)) ∨ (i = .int .i64 (-1) ∧ Hid (sk = R))) ∧ WAt w0 B M m lo wh sk sv1 ov1 wr ∧ MovV B sv ov w wr sv1 ov1 ∧ sk.opens ≠ []) (fun i _ => (intOf i + 1).toNat)
  case atStart =>
    refine ⟨s, sv, ov, ?_, h, MovV.refl _ _ _ _, h0⟩
    rcases HS.out with ⟨h1, h2⟩ | ⟨j, h1, h2⟩
    · exact .inr ⟨by rw [h1]; rfl, Lib.hid h2⟩
    · exact .inl ⟨j, by rw [h1]; go_num, by omega, Lib.hid h2⟩
  case round =>
    clear h h0 HS
    obtain ⟨sk, sv1, ov1, hcase, hW, hm, hne⟩ := hrel
    rcases hcase with ⟨j, rfl, hj, HT⟩ | ⟨rfl, HR⟩
    · have ce := v_endless hW hne
      cases he : sk.endless with
      | true =>
        rw [he] at ce
        have HR : Hid (sk = R) := Lib.hid (by rw [← HT.out, takeL_stop he])
        have HW := fun q => (hW.drewN q)
        have HM := fun q => hm.drewN q
        clear HT he hW hm
        go_wp2_with fail
        refine ce.mono ?_
        rintro e w1 ⟨rfl, q, rfl⟩
        clear ce
        go_wp2
        go_end0
        exact ⟨sv1, ov1, rfl, HR.out ▸ HW q, HM q⟩
      | false =>
        rw [he] at ce
        have ct := fun q => v_takeAny (hW.drewN q) hne
        have hopn := takeAny_opens sk
        have HW := fun q => hm.drewN q
        have hjl : j < k.data.toList.length := by rw [hlk]; exact hj
        have HT2 : Hid (takeL ((k.data.toList.take j).reverse) ((sk.takeAny.2).ask (sk.takeAny.1 == k[j] || sk.takeAny.1 == 0)) = R) := Lib.hid (by rw [← HT.out, take_snoc7 _ _ hjl, takeL_go he]; rfl)
        obtain ⟨t, s1, hts⟩ : ∃ t s1, sk.takeAny = (t, s1) := ⟨_, _, rfl⟩
        rw [hts] at ct hopn HT2
        have hne1 : s1.opens ≠ [] := by rw [hopn]; exact hne
        simp only at ct HT2
        have htu := UInt8.toNat_lt t
        clear HT he hW hm hts hopn hne
        go_wp2_with fail
        refine ce.mono ?_
        rintro e w1 ⟨rfl, q, rfl⟩
        clear ce
        go_wp2_with fail
        refine (ct q).mono ?_
        rintro e w2 ⟨sv2, ov2, rfl, h2, m2⟩
        clear ct
        have hku := UInt8.toNat_lt k[j]
        obtain ⟨v, hv⟩ : ∃ v : Bool, (t == k[j] || t == 0) = v := ⟨_, rfl⟩
        have ca := v_ask h2 v
        rw [hv] at HT2
        have hv2 : (decide ((t.toNat : Int) = (k[j].toNat : Int)) || decide ((t.toNat : Int) = 0)) = v := by
          rw [← hv, u8_eq, u8_eq]; rfl
        have hcs : ((t.toNat : Int) = (k[j].toNat : Int) ∧ v = true) ∨ (¬ (t.toNat : Int) = (k[j].toNat : Int) ∧ (t.toNat : Int) = 0 ∧ v = true) ∨ (¬ (t.toNat : Int) = (k[j].toNat : Int) ∧ ¬ (t.toNat : Int) = 0 ∧ v = false) := by
          by_cases e1 : (t.toNat : Int) = (k[j].toNat : Int)
          · exact .inl ⟨e1, by rw [← hv2]; simp [e1]⟩
          · by_cases e2 : (t.toNat : Int) = 0
            · exact .inr (.inl ⟨e1, e2, by rw [← hv2]; simp [e2]⟩)
            · exact .inr (.inr ⟨e1, e2, by rw [← hv2]; simp only [e1, e2, decide_false, Bool.or_self]⟩)
        have HM := Lib.hid ((HW q).trans m2)
        clear hv hv2 h2 m2 HW
        have j0 : (0 : Int) ≤ (j : Int) := by omega
        have j1 : (j : Int) < (k.size : Int) := by omega
        rcases hcs with ⟨e1, rfl⟩ | ⟨e1, e2, rfl⟩ | ⟨e1, e2, rfl⟩
        · have q1 : ((t.toNat : Int) == (k[j].toNat : Int)) = true := beq_iff_eq.2 e1
          clear e1
          go_wp2_with (go_at_call 106; (with_reducible refine ca.mono ?_); rintro e w3 ⟨sv3, ov3, rfl, h3, m3⟩)
          go_roundw
          case rel =>
            refine ⟨_, sv3, ov3, ?_, h3, HM.out.trans m3, hne1⟩
            cases j with
            | zero => exact .inr ⟨by go_num, HT2⟩
            | succ i => exact .inl ⟨i, by go_num, by omega, HT2⟩
          case measure => simp [intOf]
        · have q1 : ((t.toNat : Int) == (k[j].toNat : Int)) = false := beq_eq_false_iff_ne.2 e1
          have q2 : ((t.toNat : Int) == 0) = true := beq_iff_eq.2 e2
          clear e1 e2
          go_wp2_with (go_at_call 106; (with_reducible refine ca.mono ?_); rintro e w3 ⟨sv3, ov3, rfl, h3, m3⟩)
          go_roundw
          case rel =>
            refine ⟨_, sv3, ov3, ?_, h3, HM.out.trans m3, hne1⟩
            cases j with
            | zero => exact .inr ⟨by go_num, HT2⟩
            | succ i => exact .inl ⟨i, by go_num, by omega, HT2⟩
          case measure => simp [intOf]
        · have q1 : ((t.toNat : Int) == (k[j].toNat : Int)) = false := beq_eq_false_iff_ne.2 e1
          have q2 : ((t.toNat : Int) == 0) = false := beq_eq_false_iff_ne.2 e2
          clear e1 e2
          go_wp2_with (go_at_call 106; (with_reducible refine ca.mono ?_); rintro e w3 ⟨sv3, ov3, rfl, h3, m3⟩)
          go_roundw
          case rel =>
            refine ⟨_, sv3, ov3, ?_, h3, HM.out.trans m3, hne1⟩
            cases j with
            | zero => exact .inr ⟨by go_num, HT2⟩
            | succ i => exact .inl ⟨i, by go_num, by omega, HT2⟩
          case measure => simp [intOf]
    · go_wp2
      go_end0
      exact ⟨sv1, ov1, rfl, HR.out ▸ hW, hm⟩
end Go.Proofs.YtomffpibdinkaaaGreatDoor
