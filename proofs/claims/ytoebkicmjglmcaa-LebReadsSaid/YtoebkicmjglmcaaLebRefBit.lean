/-
  The document's own answer to what is read: how many bytes a number has, and its bits; walked. These are contracts that the proofs call; no statement is proved here.
-/
import Derived.Test.YtoebkicmjglmcaaLebBits
import Derived.Test.YtoebkicmjglmcaaLebRefMath
namespace Go.Proofs.Ytoebkicmjglmcaa
open Go.RowKit

theorem bytes_at (s : ByteArray) (i : Nat) (h : i < s.size) : s.data.toList.drop i = s[i] :: s.data.toList.drop (i + 1) := by
  rw [List.drop_eq_getElem_cons (by simpa using h)]
  rfl

set_option maxRecDepth 100000 in
set_option maxHeartbeats 1000000 in
theorem ref_size (s : ByteArray) (a most : Nat) (ha : a ≤ s.size) (hs : s.size ≤ maxLen) (hm : most ≤ 100) (w : World) :
    Calls Try.prog 30 #[.string s, .int .i64 a, .int .i64 most] w fun e w' => e = .returned (.int .i64 (szr most 0 (s.data.toList.drop a) : Nat)) ∧ w = w' := by
  unfold maxLen at hs
  generalize hR : szr most 0 (s.data.toList.drop a) = R
  have HR : Hid (R = szr most 0 (s.data.toList.drop a)) := Lib.hid hR.symm
  clear hR
  go_enter Try.func30, Try.ntmps30
  go_wp2
  go_loop [7] (fun v => ∃ i : Nat, i ≤ most ∧ a + i ≤ s.size ∧ v = .int .i64 i ∧ Hid (R = szr most i (s.data.toList.drop (a + i)))) (fun v => most - (intOf v).toNat)
  case atStart => exact ⟨0, by omega, by omega, rfl, HR⟩
  case round =>
    clear HR
    obtain ⟨i, hi, hai, rfl, HK⟩ := hrel
    by_cases h1 : i < most
    · by_cases h2 : a + i < s.size
      · have H1 := Lib.hid (bytes_at s (a + i) h2)
        have hc := UInt8.toNat_lt s[a + i]
        have e1 : ((a : Int) + (i : Int)).toNat = a + i := by omega
        go_wp2
        · have h8 : (s[a + i].toNat : Int) < 128 := by assumption
          go_ret
          have hv := (HK.out.trans (congrArg (szr most i) H1.out)).trans (szr_last h1 h8)
          exact ⟨by rw [hv]; rfl, rfl⟩
        · have h8 : 128 ≤ (s[a + i].toNat : Int) := by assumption
          have HN := Lib.hid ((HK.out.trans (congrArg (szr most i) H1.out)).trans (szr_more h1 h8))
          go_round
          case rel => exact ⟨i + 1, by omega, by omega, by go_num, HN⟩
          case measure => simp [intOf]; omega
      · have hv : R = 0 := by rw [HK.out, List.drop_eq_nil_of_le (by simp; omega)]; rfl
        have HV := Lib.hid hv
        clear hv
        go_wp2
        go_ret
        exact ⟨by rw [HV.out]; rfl, rfl⟩
    · have HV : Hid (R = 0) := Lib.hid (by rw [HK.out]; exact szr_end h1)
      go_wp2
      go_ret
      exact ⟨by rw [HV.out]; rfl, rfl⟩

theorem ret_int' {k : IntKind} {a b : Int} (h : a = b) : Ending.returned (.int k a) = .returned (.int k b) := by rw [h]

theorem and_one (x : Int) (h0 : 0 ≤ x) (h1 : x < 256) : bits .and .i64 x 1 = x % 2 := by
  have h : ∀ y : Fin 256, bits .and .i64 (y.val : Int) 1 = (y.val : Int) % 2 := by decide +kernel
  have := h ⟨x.toNat, by omega⟩
  simpa [Int.toNat_of_nonneg h0] using this

theorem bit_at (s : ByteArray) (a n : Nat) (h : a + n / 7 < s.size) : bitOf (s.data.toList.drop a) n = (s[a + n / 7].toNat : Int) / 2 ^ (n % 7) % 2 := by
  unfold bitOf
  have e : (s.data.toList.drop a).getD (n / 7) 0 = s[a + n / 7] := by
    rw [List.getD_eq_getElem?_getD, List.getElem?_drop, List.getElem?_eq_getElem (by simpa using h)]
    rfl
  rw [e]

set_option maxRecDepth 100000 in
set_option maxHeartbeats 1000000 in
theorem ref_bit (s : ByteArray) (a n : Nat) (h : a + n / 7 < s.size) (hs : s.size ≤ maxLen) (w : World) :
    Calls Try.prog 31 #[.string s, .int .i64 a, .int .i64 n] w fun e w' => e = .returned (.int .i64 (bitOf (s.data.toList.drop a) n)) ∧ w = w' := by
  rw [bit_at s a n h]
  unfold maxLen at hs
  have hc := UInt8.toNat_lt s[a + n / 7]
  go_enter Try.func31, Try.ntmps31
  have hq : 0 ≤ (s[a + n / 7].toNat : Int) / 2 ^ (n % 7) ∧ (s[a + n / 7].toNat : Int) / 2 ^ (n % 7) < 256 := by
    have h1 : (0 : Int) ≤ (s[a + n / 7].toNat : Int) / 2 ^ (n % 7) := Int.ediv_nonneg (by omega) (Int.le_of_lt (pow2_pos _))
    have h2 := Int.ediv_le_self (a := (s[a + n / 7].toNat : Int)) (2 ^ (n % 7)) (by omega)
    omega
  have hand := and_one _ hq.1 hq.2
  go_wp2
  go_ret
  exact ⟨ret_int' rfl, rfl⟩
end Go.Proofs.Ytoebkicmjglmcaa
