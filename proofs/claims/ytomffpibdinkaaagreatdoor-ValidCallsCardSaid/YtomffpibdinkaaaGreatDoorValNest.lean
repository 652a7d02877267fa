/-
  Package valid: how deep blocks stand in one another: walked. Contracts that the proofs call; no statement is proved here.
-/
import Derived.Test.YtomffpibdinkaaaGreatDoorValInv
import Derived.LoopTactic
namespace Go.Proofs.YtomffpibdinkaaaGreatDoor
open Go.RowKit
set_option linter.unusedVariables false
set_option linter.unusedSimpArgs false

theorem nest_open {op : Int} (l : List Int) (c g : Int) (h : op = 2 ∨ op = 3 ∨ op = 4) : nest7 (op :: l) c g = nest7 l (c + 1) (max g (c + 1)) := by rw [nest7, if_pos h]
theorem nest_shut {op : Int} (l : List Int) (c g : Int) (h : ¬ (op = 2 ∨ op = 3 ∨ op = 4)) (h2 : op = 11) : nest7 (op :: l) c g = nest7 l (c - 1) g := by rw [nest7, if_neg h, if_pos h2]
theorem nest_other {op : Int} (l : List Int) (c g : Int) (h : ¬ (op = 2 ∨ op = 3 ∨ op = 4)) (h2 : ¬ op = 11) : nest7 (op :: l) c g = nest7 l c g := by rw [nest7, if_neg h, if_neg h2]
set_option maxRecDepth 100000 in
set_option maxHeartbeats 8000000 in
theorem v_nest (w : World) (p : Option Addr) (cc : Nat) (code : List InsV) (hc : CodeAt w p code) (hlen : code.length ≤ 1000000000) : Calls Tryz.prog 13 #[.slice p code.length cc] w fun e w' => e = .returned (.int .i64 (nest7 (opsOf code) 0 0)) ∧ Below w.heap.size w w' := by
  obtain ⟨R, hR⟩ : ∃ R, nest7 (opsOf code) 0 0 = R := ⟨_, rfl⟩
  rw [hR]
  have HR := Lib.hid hR
  have HC := Lib.hid hc
  obtain ⟨L, hL⟩ : ∃ L, code.length = L := ⟨_, rfl⟩
  have HL := Lib.hid hL
  have hol : (opsOf code).length = L := by rw [← hL]; simp [opsOf]
  rw [hL] at hlen ⊢
  clear hR hc hL
  go_enter Tryz.func13, Tryz.ntmps13
  go_wp2
  go_loopw [3, 4, 6, 9] (fun a b u i wr => ∃ (j : Nat) (c g : Int), a = .int .i64 c ∧ b = .int .i64 g ∧ i = .int .i64 j ∧ j ≤ L ∧ Hid (nest7 ((opsOf code).drop j) c g = R) ∧ (-(j : Int) ≤ c ∧ c ≤ j) ∧ (0 ≤ g ∧ g ≤ j) ∧ Below w.heap.size w wr) (fun _ _ _ i _ => (L : Int).toNat - (intOf i).toNat)
  case atStart => exact ⟨0, 0, 0, rfl, rfl, rfl, Nat.zero_le _, HR, by decide, by decide, Below.refl _ _⟩
  case round =>
    obtain ⟨j, c, g, rfl, rfl, rfl, hj, HK, hc, hg, hB⟩ := hrel
    by_cases hjl : j < L
    · have hjx : j < code.length := by rw [HL.out]; exact hjl
      have hRw := (HC.out.below hB (Nat.le_refl _)).1
      obtain ⟨cb, co, rfl, hcb⟩ := hRw.start hjx rfl
      have e0 : wr.cell? ⟨cb, co + j * 4 + 0, none⟩ = some (.int .i64 code[j].op) := hRw.cell hjx 0 rfl
      have e1 : wr.cell? ⟨cb, co + j * 4 + 1, none⟩ = some (.int .i64 code[j].a) := hRw.cell hjx 1 rfl
      have e2 : wr.cell? ⟨cb, co + j * 4 + 2, none⟩ = some (.int .i64 code[j].b) := hRw.cell hjx 2 rfl
      have e3 : wr.cell? ⟨cb, co + j * 4 + 3, none⟩ = some (.slice code[j].lp code[j].ls.length code[j].lc) := hRw.cell hjx 3 rfl
      simp only [Nat.add_zero] at e0
      have hdrop : (opsOf code).drop j = code[j].op :: (opsOf code).drop (j + 1) := by
        rw [List.drop_eq_getElem_cons (by rw [hol]; exact hjl)]
        simp [opsOf]
      have HK1 : Hid (nest7 (code[j].op :: (opsOf code).drop (j + 1)) c g = R) := Lib.hid (by rw [← hdrop]; exact HK.out)
      generalize code[j] = x at *
      obtain ⟨xo, xa, xb, xp, xc, xl⟩ := x
      dsimp only at e0 e1 e2 e3 HK1
      have hc1 := hc.1
      have hc2 := hc.2
      have hg1 := hg.1
      have hg2 := hg.2
      have j0 : (0 : Int) ≤ (j : Int) := by omega
      have j1 : (j : Int) < (L : Int) := by omega
      have jw : IntKind.i64.wrap ((j : Int) + 1) = ((j + 1 : Nat) : Int) := by rw [show (j : Int) + 1 = ((j + 1 : Nat) : Int) by omega]; exact IntWalk.i64_in _ (by omega)
      have cw1 : IntKind.i64.wrap (c + 1) = c + 1 := IntWalk.i64_in _ (by omega)
      have cw2 : IntKind.i64.wrap (c - 1) = c - 1 := IntWalk.i64_in _ (by omega)
      have hB2 := hB.alloc hB.size (.cells #[.int .i64 xo, .int .i64 xa, .int .i64 xb, .slice xp xl.length xc] 38)
      clear hRw hdrop HK hc hg
      by_cases o2 : xo = 2
      · subst o2
        have HK2 : Hid (nest7 ((opsOf code).drop (j + 1)) (c + 1) (max g (c + 1)) = R) := Lib.hid (by rw [← nest_open _ _ _ (.inl rfl)]; exact HK1.out)
        go_wp2
        go_roundw
        case rel => exact ⟨j + 1, c + 1, max g (c + 1), rfl, rfl, by go_num, by omega, HK2, by omega, by omega, hB2⟩
        case measure => simp [intOf]; omega
      · by_cases o3 : xo = 3
        · subst o3
          have HK2 : Hid (nest7 ((opsOf code).drop (j + 1)) (c + 1) (max g (c + 1)) = R) := Lib.hid (by rw [← nest_open _ _ _ (.inr (.inl rfl))]; exact HK1.out)
          go_wp2
          go_roundw
          case rel => exact ⟨j + 1, c + 1, max g (c + 1), rfl, rfl, by go_num, by omega, HK2, by omega, by omega, hB2⟩
          case measure => simp [intOf]; omega
        · by_cases o4 : xo = 4
          · subst o4
            have HK2 : Hid (nest7 ((opsOf code).drop (j + 1)) (c + 1) (max g (c + 1)) = R) := Lib.hid (by rw [← nest_open _ _ _ (.inr (.inr rfl))]; exact HK1.out)
            go_wp2
            go_roundw
            case rel => exact ⟨j + 1, c + 1, max g (c + 1), rfl, rfl, by go_num, by omega, HK2, by omega, by omega, hB2⟩
            case measure => simp [intOf]; omega
          · by_cases o11 : xo = 11
            · subst o11
              have HK2 : Hid (nest7 ((opsOf code).drop (j + 1)) (c - 1) g = R) := Lib.hid (by rw [← nest_shut _ _ _ (by decide) rfl]; exact HK1.out)
              go_wp2
              go_roundw
              case rel => exact ⟨j + 1, c - 1, g, rfl, rfl, by go_num, by omega, HK2, by omega, by omega, hB2⟩
              case measure => simp [intOf]; omega
            · have HK2 : Hid (nest7 ((opsOf code).drop (j + 1)) c g = R) := Lib.hid (by rw [← nest_other _ _ _ (by omega) o11]; exact HK1.out)
              have q2 : (xo == 2) = false := beq_eq_false_iff_ne.2 o2
              have q3 : (xo == 3) = false := beq_eq_false_iff_ne.2 o3
              have q4 : (xo == 4) = false := beq_eq_false_iff_ne.2 o4
              have q11 : (xo == 11) = false := beq_eq_false_iff_ne.2 o11
              go_wp2
              go_roundw
              case rel => exact ⟨j + 1, c, g, rfl, rfl, by go_num, by omega, HK2, by omega, by omega, hB2⟩
              case measure => simp [intOf]; omega
    · have hjL : j = L := by omega
      subst hjL
      have hR2 : g = R := by rw [← HK.out, ← hol, List.drop_length]; rfl
      subst hR2
      clear HK
      go_wp2
      go_ret
      exact ⟨rfl, hB⟩
end Go.Proofs.YtomffpibdinkaaaGreatDoor
