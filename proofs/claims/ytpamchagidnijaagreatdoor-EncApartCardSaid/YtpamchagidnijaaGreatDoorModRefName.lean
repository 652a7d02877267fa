/-
  The document's own answer on what a name is: walked. A contract that the proofs call; no statement is proved here.
-/
import Derived.Test.YtpamchagidnijaaGreatDoorOpSpec
import Derived.WalkKit
import Derived.WalkSpells
import Derived.WalkLawsBesides
import Derived.Lib.Hide
namespace Go.Proofs.YtpamchagidnijaaGreatDoor
open Go.RowKit

theorem byte_at (s : ByteArray) (k : Nat) (h : k < s.size) : s.data.toList.drop k = s[k] :: s.data.toList.drop (k + 1) := by
  rw [List.drop_eq_getElem_cons (by simpa using h)]; rfl
theorem ret_bool {a b : Bool} (h : a = b) : Ending.returned (.bool b) = .returned (.bool a) := by rw [h]

set_option maxRecDepth 100000 in
set_option maxHeartbeats 2000000 in
theorem ref_name (s : ByteArray) (hs : s.size ≤ maxLen) (w : World) :
    Calls Tryz.prog 122 #[.string s] w fun e w' => e = .returned (.bool (isName s.data.toList)) ∧ w = w' := by
  unfold maxLen at hs
  obtain ⟨R, hR⟩ : ∃ R, R = isName s.data.toList := ⟨_, rfl⟩
  rw [← hR]
  have HR := Lib.hid hR
  clear hR
  go_enter Tryz.func122, Tryz.ntmps122
  go_wp2
  go_loop [3] (fun i => ∃ p : Nat, p ≤ s.size ∧ i = .int .i64 p ∧ Hid (R = isName (s.data.toList.drop p))) (fun i => s.size - (intOf i).toNat)
  case atStart => exact ⟨0, by omega, rfl, HR⟩
  case round =>
    clear HR
    obtain ⟨p, hp, rfl, HP⟩ := hrel
    by_cases h1 : p < s.size
    · have H1 := Lib.hid (byte_at s p h1)
      have hc : s[p].toNat < 256 := UInt8.toNat_lt _
      rcases (show (s[p].toNat : Int) < 128 ∨ (128 ≤ (s[p].toNat : Int) ∧ (s[p].toNat : Int) < 194) ∨ 245 ≤ (s[p].toNat : Int) ∨ (194 ≤ (s[p].toNat : Int) ∧ (s[p].toNat : Int) < 224) ∨ (224 ≤ (s[p].toNat : Int) ∧ (s[p].toNat : Int) < 240) ∨ (240 ≤ (s[p].toNat : Int) ∧ (s[p].toNat : Int) < 245) by omega) with hb | ⟨hb, hb2⟩ | hb | ⟨hb1, hb2⟩ | ⟨hb1, hb2⟩ | ⟨hb1, hb2⟩
      · go_wp2
        go_round
        case rel => exact ⟨p + 1, by omega, by go_num, Lib.hid (by rw [HP.out, H1.out, isName_one hb])⟩
        case measure => simp [intOf]; omega
      · go_wp2
        go_ret
        exact ⟨ret_bool (by rw [HP.out, H1.out, isName_bad hb (lead_none (.inl hb2))]), rfl⟩
      · go_wp2
        go_ret
        exact ⟨ret_bool (by rw [HP.out, H1.out, isName_bad (by omega) (lead_none (.inr hb))]), rfl⟩
      · -- 1 more
        have hl := lead_one hb1 hb2
        obtain ⟨M, hM⟩ : ∃ M, M = more 1 ((s[p].toNat : Int) % 32) (s.data.toList.drop (p + 1)) := ⟨_, rfl⟩
        have HM := Lib.hid hM
        have HL := Lib.hid hl
        clear hM hl
        go_wp2
        go_loop [5, 7] (fun c k => ∃ (j : Nat) (C : Int), j ≤ 1 ∧ p + j < s.size ∧ c = .int .i64 C ∧ k = .int .i64 (j + 1) ∧ 0 ≤ C ∧ C < bnd j ∧ Hid (M = more (1 - j) C (s.data.toList.drop (p + (j + 1))))) (fun _ k => 5 - (intOf k).toNat)
        case atStart => exact ⟨0, _, by omega, by omega, rfl, rfl, by omega, by simp only [bnd]; omega, HM⟩
        case round =>
          obtain ⟨j, C, hj, hjr, rfl, rfl, hC0, hC1, HJ⟩ := hrel
          have hC2 := bnd_le (show j ≤ 3 by omega)
          by_cases hjn : j < 1
          · have HS := Lib.hid (show 1 - j = (1 - (j + 1)) + 1 by omega)
            by_cases hroom : p + (j + 1) < s.size
            · have H2 := Lib.hid (byte_at s (p + (j + 1)) hroom)
              have hx : s[p + (j + 1)].toNat < 256 := UInt8.toNat_lt _
              by_cases hx2 : (s[p + (j + 1)].toNat : Int) / 64 = 2
              · have HX := Lib.hid hx2
                have hb3 := bnd_step (x := (s[p + (j + 1)].toNat : Int) % 64) hC1 (by omega)
                go_wp2
                go_round
                case rel => exact ⟨j + 1, _, by omega, by omega, rfl, by go_num, by omega, hb3, Lib.hid (by rw [HJ.out, H2.out, HS.out, more_on HX.out, Nat.add_assoc])⟩
                case measure => simp [intOf]; omega
              · have HX := Lib.hid hx2
                have hx3 : ((s[p + (j + 1)].toNat : Int) / 64 != 2) = true := by simp [hx2]
                go_wp2
                go_ret
                have hm : M = none := by rw [HJ.out, H2.out, HS.out, more_bad HX.out]
                exact ⟨ret_bool (by rw [HP.out, H1.out, isName_short (by omega) HL.out (HM.out.symm.trans hm)]), rfl⟩
            · go_wp2
              go_ret
              have hm : M = none := by rw [HJ.out, HS.out, List.drop_eq_nil_of_le (by simp; omega)]; rfl
              exact ⟨ret_bool (by rw [HP.out, H1.out, isName_short (by omega) HL.out (HM.out.symm.trans hm)]), rfl⟩
          · obtain rfl : j = 1 := by omega
            have hm : M = some C := by rw [HJ.out]; rfl
            have hr := isName_more (l := s.data.toList.drop (p + 1)) (by omega) HL.out (HM.out.symm.trans hm)
            have HRR := Lib.hid (HP.out.trans ((congrArg isName H1.out).trans hr))
            clear hm hr HJ
            have hg : good 1 C = true := by unfold good; first | exact decide_eq_true (by omega) | exact decide_eq_false (by omega)
            have HG := Lib.hid hg
            clear hg
            go_wp2
            go_round
            case rel => exact ⟨p + 1 + 1, by omega, by go_num, Lib.hid (by rw [HRR.out, HG.out, Bool.true_and, List.drop_drop] <;> congr 2 <;> omega)⟩
            case measure => simp [intOf]; omega
      · -- 2 more
        have hl := lead_two hb1 hb2
        obtain ⟨M, hM⟩ : ∃ M, M = more 2 ((s[p].toNat : Int) % 16) (s.data.toList.drop (p + 1)) := ⟨_, rfl⟩
        have HM := Lib.hid hM
        have HL := Lib.hid hl
        clear hM hl
        go_wp2
        go_loop [5, 7] (fun c k => ∃ (j : Nat) (C : Int), j ≤ 2 ∧ p + j < s.size ∧ c = .int .i64 C ∧ k = .int .i64 (j + 1) ∧ 0 ≤ C ∧ C < bnd j ∧ Hid (M = more (2 - j) C (s.data.toList.drop (p + (j + 1))))) (fun _ k => 5 - (intOf k).toNat)
        case atStart => exact ⟨0, _, by omega, by omega, rfl, rfl, by omega, by simp only [bnd]; omega, HM⟩
        case round =>
          obtain ⟨j, C, hj, hjr, rfl, rfl, hC0, hC1, HJ⟩ := hrel
          have hC2 := bnd_le (show j ≤ 3 by omega)
          by_cases hjn : j < 2
          · have HS := Lib.hid (show 2 - j = (2 - (j + 1)) + 1 by omega)
            by_cases hroom : p + (j + 1) < s.size
            · have H2 := Lib.hid (byte_at s (p + (j + 1)) hroom)
              have hx : s[p + (j + 1)].toNat < 256 := UInt8.toNat_lt _
              by_cases hx2 : (s[p + (j + 1)].toNat : Int) / 64 = 2
              · have HX := Lib.hid hx2
                have hb3 := bnd_step (x := (s[p + (j + 1)].toNat : Int) % 64) hC1 (by omega)
                go_wp2
                go_round
                case rel => exact ⟨j + 1, _, by omega, by omega, rfl, by go_num, by omega, hb3, Lib.hid (by rw [HJ.out, H2.out, HS.out, more_on HX.out, Nat.add_assoc])⟩
                case measure => simp [intOf]; omega
              · have HX := Lib.hid hx2
                have hx3 : ((s[p + (j + 1)].toNat : Int) / 64 != 2) = true := by simp [hx2]
                go_wp2
                go_ret
                have hm : M = none := by rw [HJ.out, H2.out, HS.out, more_bad HX.out]
                exact ⟨ret_bool (by rw [HP.out, H1.out, isName_short (by omega) HL.out (HM.out.symm.trans hm)]), rfl⟩
            · go_wp2
              go_ret
              have hm : M = none := by rw [HJ.out, HS.out, List.drop_eq_nil_of_le (by simp; omega)]; rfl
              exact ⟨ret_bool (by rw [HP.out, H1.out, isName_short (by omega) HL.out (HM.out.symm.trans hm)]), rfl⟩
          · obtain rfl : j = 2 := by omega
            have hm : M = some C := by rw [HJ.out]; rfl
            have hr := isName_more (l := s.data.toList.drop (p + 1)) (by omega) HL.out (HM.out.symm.trans hm)
            have HRR := Lib.hid (HP.out.trans ((congrArg isName H1.out).trans hr))
            clear hm hr HJ
            rcases (show (C < 2048) ∨ (2048 ≤ C ∧ C < 55296) ∨ (55296 ≤ C ∧ C < 57344) ∨ (57344 ≤ C) by omega) with g1 | ⟨g1, g2⟩ | ⟨g1, g2⟩ | g1
            · have hg : good 2 C = false := by unfold good; first | exact decide_eq_true (by omega) | exact decide_eq_false (by omega)
              have HG := Lib.hid hg
              clear hg
              go_wp2
              go_ret
              exact ⟨ret_bool (by rw [HRR.out, HG.out]; rfl), rfl⟩
            · have hg : good 2 C = true := by unfold good; first | exact decide_eq_true (by omega) | exact decide_eq_false (by omega)
              have HG := Lib.hid hg
              clear hg
              go_wp2
              go_round
              case rel => exact ⟨p + 2 + 1, by omega, by go_num, Lib.hid (by rw [HRR.out, HG.out, Bool.true_and, List.drop_drop] <;> congr 2 <;> omega)⟩
              case measure => simp [intOf]; omega
            · have hg : good 2 C = false := by unfold good; first | exact decide_eq_true (by omega) | exact decide_eq_false (by omega)
              have HG := Lib.hid hg
              clear hg
              go_wp2
              go_ret
              exact ⟨ret_bool (by rw [HRR.out, HG.out]; rfl), rfl⟩
            · have hg : good 2 C = true := by unfold good; first | exact decide_eq_true (by omega) | exact decide_eq_false (by omega)
              have HG := Lib.hid hg
              clear hg
              go_wp2
              go_round
              case rel => exact ⟨p + 2 + 1, by omega, by go_num, Lib.hid (by rw [HRR.out, HG.out, Bool.true_and, List.drop_drop] <;> congr 2 <;> omega)⟩
              case measure => simp [intOf]; omega
      · -- 3 more
        have hl := lead_three hb1 hb2
        obtain ⟨M, hM⟩ : ∃ M, M = more 3 ((s[p].toNat : Int) % 8) (s.data.toList.drop (p + 1)) := ⟨_, rfl⟩
        have HM := Lib.hid hM
        have HL := Lib.hid hl
        clear hM hl
        go_wp2
        go_loop [5, 7] (fun c k => ∃ (j : Nat) (C : Int), j ≤ 3 ∧ p + j < s.size ∧ c = .int .i64 C ∧ k = .int .i64 (j + 1) ∧ 0 ≤ C ∧ C < bnd j ∧ Hid (M = more (3 - j) C (s.data.toList.drop (p + (j + 1))))) (fun _ k => 5 - (intOf k).toNat)
        case atStart => exact ⟨0, _, by omega, by omega, rfl, rfl, by omega, by simp only [bnd]; omega, HM⟩
        case round =>
          obtain ⟨j, C, hj, hjr, rfl, rfl, hC0, hC1, HJ⟩ := hrel
          have hC2 := bnd_le (show j ≤ 3 by omega)
          by_cases hjn : j < 3
          · have HS := Lib.hid (show 3 - j = (3 - (j + 1)) + 1 by omega)
            by_cases hroom : p + (j + 1) < s.size
            · have H2 := Lib.hid (byte_at s (p + (j + 1)) hroom)
              have hx : s[p + (j + 1)].toNat < 256 := UInt8.toNat_lt _
              by_cases hx2 : (s[p + (j + 1)].toNat : Int) / 64 = 2
              · have HX := Lib.hid hx2
                have hb3 := bnd_step (x := (s[p + (j + 1)].toNat : Int) % 64) hC1 (by omega)
                go_wp2
                go_round
                case rel => exact ⟨j + 1, _, by omega, by omega, rfl, by go_num, by omega, hb3, Lib.hid (by rw [HJ.out, H2.out, HS.out, more_on HX.out, Nat.add_assoc])⟩
                case measure => simp [intOf]; omega
              · have HX := Lib.hid hx2
                have hx3 : ((s[p + (j + 1)].toNat : Int) / 64 != 2) = true := by simp [hx2]
                go_wp2
                go_ret
                have hm : M = none := by rw [HJ.out, H2.out, HS.out, more_bad HX.out]
                exact ⟨ret_bool (by rw [HP.out, H1.out, isName_short (by omega) HL.out (HM.out.symm.trans hm)]), rfl⟩
            · go_wp2
              go_ret
              have hm : M = none := by rw [HJ.out, HS.out, List.drop_eq_nil_of_le (by simp; omega)]; rfl
              exact ⟨ret_bool (by rw [HP.out, H1.out, isName_short (by omega) HL.out (HM.out.symm.trans hm)]), rfl⟩
          · obtain rfl : j = 3 := by omega
            have hm : M = some C := by rw [HJ.out]; rfl
            have hr := isName_more (l := s.data.toList.drop (p + 1)) (by omega) HL.out (HM.out.symm.trans hm)
            have HRR := Lib.hid (HP.out.trans ((congrArg isName H1.out).trans hr))
            clear hm hr HJ
            rcases (show (C < 65536) ∨ (65536 ≤ C ∧ C ≤ 1114111) ∨ (1114111 < C) by omega) with g1 | ⟨g1, g2⟩ | g1
            · have hg : good 3 C = false := by unfold good; first | exact decide_eq_true (by omega) | exact decide_eq_false (by omega)
              have HG := Lib.hid hg
              clear hg
              go_wp2
              go_ret
              exact ⟨ret_bool (by rw [HRR.out, HG.out]; rfl), rfl⟩
            · have hg : good 3 C = true := by unfold good; first | exact decide_eq_true (by omega) | exact decide_eq_false (by omega)
              have HG := Lib.hid hg
              clear hg
              go_wp2
              go_round
              case rel => exact ⟨p + 3 + 1, by omega, by go_num, Lib.hid (by rw [HRR.out, HG.out, Bool.true_and, List.drop_drop] <;> congr 2 <;> omega)⟩
              case measure => simp [intOf]; omega
            · have hg : good 3 C = false := by unfold good; first | exact decide_eq_true (by omega) | exact decide_eq_false (by omega)
              have HG := Lib.hid hg
              clear hg
              go_wp2
              go_ret
              exact ⟨ret_bool (by rw [HRR.out, HG.out]; rfl), rfl⟩
    · have hv : R = true := by rw [HP.out, List.drop_eq_nil_of_le (by simp; omega)]; rfl
      have HV := Lib.hid hv
      clear hv
      go_wp2
      go_ret
      exact ⟨ret_bool HV.out, rfl⟩
end Go.Proofs.YtpamchagidnijaaGreatDoor

namespace Go.Proofs.YtpamchagidnijaaGreatDoor
open Go.RowKit

def vtype (b : UInt8) : Bool := decide (b.toNat = 127 ∨ b.toNat = 126)
def vtypes (l : List UInt8) (most : Int) : Bool := l.all vtype && decide ((l.length : Int) ≤ most)
def word4 (n : Int) : Bool := decide (0 ≤ n ∧ n < 4294967296)
def small4 (n : Int) : Bool := decide (-2147483648 ≤ n ∧ n < 2147483648)

set_option maxHeartbeats 400000 in
theorem ref_word4 (n : Int) (w : World) : Calls Tryz.prog 118 #[.int .i64 n] w fun e w' => e = .returned (.bool (word4 n)) ∧ w = w' := by
  rcases (show n < 0 ∨ (0 ≤ n ∧ n < 4294967296) ∨ 4294967296 ≤ n by omega) with h | ⟨h, h2⟩ | h
  all_goals
    first
      | (have e : word4 n = true := by simp only [word4, decide_eq_true_eq]; omega
         rw [e])
      | (have e : word4 n = false := by simp only [word4, decide_eq_false_iff_not]; omega
         rw [e])
    go_enter Tryz.func118, Tryz.ntmps118
    go_wp2
    go_ret
    exact ⟨by first | rfl | exact ret_bool (by simp; omega), rfl⟩

set_option maxHeartbeats 400000 in
theorem ref_small4 (n : Int) (w : World) : Calls Tryz.prog 121 #[.int .i64 n] w fun e w' => e = .returned (.bool (small4 n)) ∧ w = w' := by
  rcases (show n < -2147483648 ∨ (-2147483648 ≤ n ∧ n < 2147483648) ∨ 2147483648 ≤ n by omega) with h | ⟨h, h2⟩ | h
  all_goals
    first
      | (have e : small4 n = true := by simp only [small4, decide_eq_true_eq]; omega
         rw [e])
      | (have e : small4 n = false := by simp only [small4, decide_eq_false_iff_not]; omega
         rw [e])
    go_enter Tryz.func121, Tryz.ntmps121
    go_wp2
    go_ret
    exact ⟨by first | rfl | exact ret_bool (by simp; omega), rfl⟩

set_option maxRecDepth 100000 in
set_option maxHeartbeats 1000000 in
theorem ref_types (s : ByteArray) (most : Int) (hs : s.size ≤ maxLen) (w : World) : Calls Tryz.prog 119 #[.string s, .int .i64 most] w fun e w' => e = .returned (.bool (vtypes s.data.toList most)) ∧ w = w' := by
  unfold maxLen at hs
  obtain ⟨R, hR⟩ : ∃ R, R = s.data.toList.all vtype := ⟨_, rfl⟩
  have hv : vtypes s.data.toList most = (R && decide ((s.size : Int) ≤ most)) := by rw [hR]; rfl
  rw [hv]
  have HR := Lib.hid hR
  clear hR hv
  go_enter Tryz.func119, Tryz.ntmps119
  go_wp2
  go_loop [5] (fun i => ∃ p : Nat, p ≤ s.size ∧ i = .int .i64 p ∧ Hid (R = (s.data.toList.drop p).all vtype)) (fun i => s.size - (intOf i).toNat)
  case atStart => exact ⟨0, by omega, rfl, HR⟩
  case round =>
    clear HR
    obtain ⟨p, hp, rfl, HP⟩ := hrel
    by_cases h1 : p < s.size
    · have H1 := Lib.hid (byte_at s p h1)
      have hc : s[p].toNat < 256 := UInt8.toNat_lt _
      by_cases hv : s[p].toNat = 127 ∨ s[p].toNat = 126
      · have HV : Hid (vtype s[p] = true) := Lib.hid (by simp only [vtype, decide_eq_true_eq]; exact hv)
        rcases hv with hv | hv
        all_goals
          go_wp2
          go_round
          case rel => exact ⟨p + 1, by omega, by go_num, Lib.hid (by rw [HP.out, H1.out, List.all_cons, HV.out, Bool.true_and])⟩
          case measure => simp [intOf]; omega
      · have HV : Hid (vtype s[p] = false) := Lib.hid (by simp only [vtype, decide_eq_false_iff_not]; exact hv)
        have n1 : ((s[p].toNat : Int) != 127) = true := by simp; omega
        have n2 : ((s[p].toNat : Int) != 126) = true := by simp; omega
        go_wp2
        go_ret
        exact ⟨ret_bool (by rw [HP.out, H1.out, List.all_cons, HV.out]; rfl), rfl⟩
    · have HV := Lib.hid (show R = true by rw [HP.out, List.drop_eq_nil_of_le (by simp; omega)]; rfl)
      by_cases hm : (s.size : Int) ≤ most
      all_goals
        go_wp2
        go_ret
        exact ⟨ret_bool (by rw [HV.out] <;> simp [hm]), rfl⟩
end Go.Proofs.YtpamchagidnijaaGreatDoor
