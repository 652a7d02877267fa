/-
  How a number is told by package value: walked. A contract that the proofs call; no statement is proved here.
-/
import Derived.RegionTactic
import Derived.Lib.IndexBytes
import Derived.Lib.Strings
import Derived.BigRegion
import Derived.Test.YtfjoobopfjahcaaDoorVuFmt
namespace Go.Proofs.YtfjoobopfjahcaaDoor
open Go.RowKit

theorem str_eq {a b : ByteArray} (h : a.data.toList = b.data.toList) : a = b := by
  obtain ⟨⟨a⟩⟩ := a
  obtain ⟨⟨b⟩⟩ := b
  simp only at h
  rw [h]
theorem ret_str {a b : ByteArray} (h : a.data.toList = b.data.toList) : Ending.returned (.string a) = .returned (.string b) := by rw [str_eq h]
theorem digits_len {u : Nat} (h : u < 18446744073709551616) : 1 ≤ (Lib.decDigits u).length ∧ (Lib.decDigits u).length ≤ 20 := by
  rw [Lib.decDigits_length]
  refine ⟨Lib.nDigits_pos u, ?_⟩
  by_cases h1 : 1 ≤ u
  · have := Lib.numDigits_eq u h1 h; split at this <;> omega
  · rw [show u = 0 by omega, Lib.nDigits_small (by omega)]; omega

/-- The parts of a text, as lists. -/
theorem cut_at (X : ByteArray) (a b : ByteArray) (k : Nat) : (a ++ X.extract 0 k ++ b ++ X.extract k X.size).data.toList = a.data.toList ++ X.data.toList.take k ++ b.data.toList ++ X.data.toList.drop k := by
  simp only [ByteArray.data_append, Array.toList_append]
  rw [Lib.extract_to_end, Lib.extract_data, List.drop_zero, Nat.sub_zero]
theorem spell_fin {n : Int} {p : Nat} (hp : p ≠ 0) {P sg : List UInt8} (h : padded n (p + 1) = P) (hs : sg = if n < 0 then [45] else []) : spellN n p = sg ++ P.take (P.length - p) ++ [46] ++ P.drop (P.length - p) := by
  unfold spellN
  rw [if_neg hp, h, hs]
  simp
theorem rep_one : ∀ c : Nat, Lib.repeatL [48] c = List.replicate c 48
  | 0 => rfl
  | c + 1 => by rw [Lib.repeatL, rep_one c, List.replicate_succ]; rfl

set_option maxRecDepth 100000 in
set_option maxHeartbeats 4000000 in
theorem val_spelt (n : Int) (hn : -9223372036854775808 ≤ n ∧ n ≤ 9223372036854775807) (p : Nat) (hp : p ≤ 9) (w : World) (htab : Tens w) :
    Calls Tryd.prog 43 #[.int .i64 n, .int .i64 p] w fun e w' => e = .returned (.string ⟨(spellN n p).toArray⟩) ∧ Below w.heap.size w w' := by
  obtain ⟨u, hu⟩ : ∃ u, u = n.natAbs := ⟨_, rfl⟩
  have hu64 : u < 18446744073709551616 := by omega
  have cf := fun w h => val_format u hu64 w h
  have hl := digits_len hu64
  obtain ⟨D, hD⟩ : ∃ D, D = Lib.decDigits u := ⟨_, rfl⟩
  rw [← hD] at cf hl
  obtain ⟨d, hd⟩ : ∃ d : ByteArray, d = ⟨D.toArray⟩ := ⟨_, rfl⟩
  have hdl : d.data.toList = D := by rw [hd]
  have hds : d.size = D.length := by rw [hd]; simp [ByteArray.size]
  rw [← hd] at cf
  have hpad : ∀ m, padded n m = List.replicate (m - d.size) 48 ++ D := fun m => by unfold padded; rw [← hu, ← hD, hds]
  have HP : Hid (∀ m, padded n m = List.replicate (m - d.size) 48 ++ D) := Lib.hid hpad
  rw [← hds] at hl
  clear hD hd hds hpad
  by_cases hneg : n < 0
  · have w1 : IntKind.u64.wrap (-IntKind.u64.wrap n) = (u : Int) := by rw [IntKind.wrap_u64, IntKind.wrap_u64]; omega
    by_cases hp0 : p = 0
    · subst hp0
      clear hu
      go_enter Tryd.func43, Tryd.ntmps43
      go_wp2_with (go_at_call 53; (with_reducible refine (cf _ htab).mono ?_); rintro e w1 ⟨rfl, hb1⟩)
      go_ret
      refine ⟨ret_str ?_, hb1⟩
      unfold spellN
      rw [if_pos hneg, if_pos rfl, HP.out, show 1 - d.size = 0 by omega]
      simp [hdl]
    · have hp0' : (p == 0) = false := by simpa using hp0
      have hp1 : 1 ≤ p := by omega
      have hpz : ((p : Int) == 0) = false := beq_eq_false_iff_ne.2 (by omega)
      obtain ⟨c, hc⟩ : ∃ c : Nat, c = p + 1 - d.size := ⟨_, rfl⟩
      have hcb : c ≤ 10 := by omega
      have cr := fun w => sh_strings_Repeat ⟨#[48]⟩ c w (by omega) (by show 1 * c ≤ _; omega)
      obtain ⟨Z, hZ⟩ : ∃ Z : ByteArray, Z = ⟨(Lib.repeatL [48] c).toArray⟩ := ⟨_, rfl⟩
      have hZl : Z.data.toList = List.replicate c 48 := by rw [hZ, ← rep_one]
      have hZs : Z.size = c := by rw [show Z.size = Z.data.toList.length from Array.length_toList.symm, hZl]; simp
      have cr' : ∀ w, Calls Tryd.prog 54 #[.string ⟨#[48]⟩, .int .i64 c] w fun e w' => e = .returned (.string Z) ∧ Below w.heap.size w w' := fun w => by rw [hZ]; exact cr w
      have HL := Lib.hid hZl
      clear hZ hZl cr hu
      have hcx : (c : Int) = max 0 ((p : Int) + 1 - d.size) := by omega
      rw [hcx] at cr'
      have hzp : p ≤ Z.size + d.size := by omega
      have HC := Lib.hid hc
      have hzb : Z.size + d.size ≤ 30 := by omega
      clear hcx hc
      go_enter Tryd.func43, Tryd.ntmps43
      go_wp2_with (first
        | (go_at_call 53; (with_reducible refine (cf _ htab).mono ?_); rintro e w1 ⟨rfl, hb1⟩)
        | (go_at_call 54; (with_reducible refine (cr' _).mono ?_); rintro e w2 ⟨rfl, hb2⟩))
      obtain ⟨k, hk⟩ : ∃ k : Nat, k = c + d.size - p := ⟨_, rfl⟩
      have hki : (c : Int) + d.size - p = (k : Int) := by omega
      obtain ⟨X, hX⟩ : ∃ X, X = Z ++ d := ⟨_, rfl⟩
      have hXs : X.size = c + d.size := by rw [hX, ByteArray.size_append, hZs]
      rw [hki, ← hX]
      have hk1 : k ≤ X.size := by omega
      have hk2 : (k : Int) ≤ (X.size : Int) := by omega
      have hk0 : (0 : Int) ≤ (k : Int) := by omega
      have hXb : X.size ≤ 30 := by omega
      have HX := Lib.hid hX
      have HK := Lib.hid hk
      have HS := Lib.hid hXs
      have HZ := Lib.hid hZs
      have hB := bt hb1 hb2
      clear hX hk hki hXs hZs cr' cf hb1 hb2
      go_region
      go_wp2
      go_ret
      refine ⟨ret_str ?_, hB.drew⟩
      have hXd : X.data.toList = List.replicate c 48 ++ D := by rw [HX.out, ByteArray.data_append, Array.toList_append, HL.out, hdl]
      have hXl : X.data.toList.length = X.size := Array.length_toList
      have e := spell_fin hp0 (show padded n (p + 1) = X.data.toList by rw [HP.out, hXd, HC.out]) rfl
      rw [hXl, show X.size - p = k by rw [HS.out, HK.out]] at e
      rw [cut_at X _ _ k, e]
      simp [hneg]
  · have hnu : n = (u : Int) := by omega
    rw [hnu] at hn hneg HP ⊢
    have hn0 : (0 : Int) ≤ (u : Int) := by omega
    by_cases hp0 : p = 0
    · subst hp0
      clear hu hnu
      go_enter Tryd.func43, Tryd.ntmps43
      go_wp2_with (go_at_call 53; (with_reducible refine (cf _ htab).mono ?_); rintro e w1 ⟨rfl, hb1⟩)
      go_ret
      refine ⟨ret_str ?_, hb1⟩
      unfold spellN
      rw [if_neg (by omega), if_pos rfl, HP.out, show 1 - d.size = 0 by omega]
      simp [hdl]
    · have hp0' : (p == 0) = false := by simpa using hp0
      have hp1 : 1 ≤ p := by omega
      have hpz : ((p : Int) == 0) = false := beq_eq_false_iff_ne.2 (by omega)
      obtain ⟨c, hc⟩ : ∃ c : Nat, c = p + 1 - d.size := ⟨_, rfl⟩
      have hcb : c ≤ 10 := by omega
      have cr := fun w => sh_strings_Repeat ⟨#[48]⟩ c w (by omega) (by show 1 * c ≤ _; omega)
      obtain ⟨Z, hZ⟩ : ∃ Z : ByteArray, Z = ⟨(Lib.repeatL [48] c).toArray⟩ := ⟨_, rfl⟩
      have hZl : Z.data.toList = List.replicate c 48 := by rw [hZ, ← rep_one]
      have hZs : Z.size = c := by rw [show Z.size = Z.data.toList.length from Array.length_toList.symm, hZl]; simp
      have cr' : ∀ w, Calls Tryd.prog 54 #[.string ⟨#[48]⟩, .int .i64 c] w fun e w' => e = .returned (.string Z) ∧ Below w.heap.size w w' := fun w => by rw [hZ]; exact cr w
      have HL := Lib.hid hZl
      clear hZ hZl cr hu hnu
      have hcx : (c : Int) = max 0 ((p : Int) + 1 - d.size) := by omega
      rw [hcx] at cr'
      have hzp : p ≤ Z.size + d.size := by omega
      have HC := Lib.hid hc
      have hzb : Z.size + d.size ≤ 30 := by omega
      clear hcx hc
      go_enter Tryd.func43, Tryd.ntmps43
      go_wp2_with (first
        | (go_at_call 53; (with_reducible refine (cf _ htab).mono ?_); rintro e w1 ⟨rfl, hb1⟩)
        | (go_at_call 54; (with_reducible refine (cr' _).mono ?_); rintro e w2 ⟨rfl, hb2⟩))
      obtain ⟨k, hk⟩ : ∃ k : Nat, k = c + d.size - p := ⟨_, rfl⟩
      have hki : (c : Int) + d.size - p = (k : Int) := by omega
      obtain ⟨X, hX⟩ : ∃ X, X = Z ++ d := ⟨_, rfl⟩
      have hXs : X.size = c + d.size := by rw [hX, ByteArray.size_append, hZs]
      rw [hki, ← hX]
      have hk1 : k ≤ X.size := by omega
      have hk2 : (k : Int) ≤ (X.size : Int) := by omega
      have hk0 : (0 : Int) ≤ (k : Int) := by omega
      have hXb : X.size ≤ 30 := by omega
      have HX := Lib.hid hX
      have HK := Lib.hid hk
      have HS := Lib.hid hXs
      have HZ := Lib.hid hZs
      have hB := bt hb1 hb2
      clear hX hk hki hXs hZs cr' cf hb1 hb2
      go_region
      go_wp2
      go_ret
      refine ⟨ret_str ?_, hB.drew⟩
      have hXd : X.data.toList = List.replicate c 48 ++ D := by rw [HX.out, ByteArray.data_append, Array.toList_append, HL.out, hdl]
      have hXl : X.data.toList.length = X.size := Array.length_toList
      have e := spell_fin hp0 (show padded u (p + 1) = X.data.toList by rw [HP.out, hXd, HC.out]) rfl
      rw [hXl, show X.size - p = k by rw [HS.out, HK.out]] at e
      rw [cut_at X _ _ k, e]
      simp [show ¬ (u : Int) < 0 by omega]
end Go.Proofs.YtfjoobopfjahcaaDoor
