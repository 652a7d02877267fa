/-
  leb.read's loop walked: of u64, at most 10 bytes. No statement is proved here; this is a contract that the proofs call.
-/
import Derived.Test.YtoebkicmjglmcaaLebBits
namespace Go.Proofs.Ytoebkicmjglmcaa
open Go.RowKit

set_option maxHeartbeats 400000 in
theorem read_u64_none (s : ByteArray) (at' most : Int) (h : at' < 0 ∨ (s.size : Int) < at') (w : World) :
    Calls Try.prog 27 #[.string s, .int .i64 at', .int .i64 most] w fun e w' => e = .returned (.tuple #[.int .u64 0, .int .i64 0, .int .i64 1]) ∧ w = w' := by
  by_cases h0 : at' < 0
  · go_enter Try.func27, Try.ntmps27
    go_wp2
    go_ret3
    exact ⟨rfl, rfl⟩
  · have h1 : (s.size : Int) < at' := by omega
    go_enter Try.func27, Try.ntmps27
    go_wp2
    go_ret3
    exact ⟨rfl, rfl⟩

set_option maxRecDepth 100000 in
set_option maxHeartbeats 1000000 in
theorem read_u64_walk (s : ByteArray) (a : Nat) (ha : a ≤ s.size) (hs : s.size ≤ maxLen) (w : World) :
    Calls Try.prog 27 #[.string s, .int .i64 a, .int .i64 10] w fun e w' => e = .returned (.tuple #[.int .u64 (outOf a (rd .u64 usg 10 0 0 (s.extract a s.size).data.toList)).1, .int .i64 (outOf a (rd .u64 usg 10 0 0 (s.extract a s.size).data.toList)).2.1, .int .i64 (outOf a (rd .u64 usg 10 0 0 (s.extract a s.size).data.toList)).2.2]) ∧ w = w' := by
  unfold maxLen at hs
  generalize hR : rd .u64 usg 10 0 0 (s.extract a s.size).data.toList = R
  have hR2 : R = rd .u64 usg 10 0 0 (s.extract a s.size).data.toList := hR.symm
  have HR := Lib.hid hR2
  clear hR hR2
  have hd1 : decide ((a : Int) < 0) = false := by simp
  have hd2 : decide (s.size < a) = false := by simp; omega
  go_enter Try.func27, Try.ntmps27
  go_wp2
  go_loop [6, 10] (fun n i => ∃ (k : Nat) (X : Int), k ≤ 10 ∧ k ≤ s.size - a ∧ i = .int .i64 k ∧ n = .int .u64 X ∧ Hid (R = rd .u64 usg 10 k X ((s.extract a s.size).data.toList.drop k))) (fun _ i => 10 - (intOf i).toNat)
  case atStart => exact ⟨0, 0, by omega, by omega, rfl, rfl, Lib.hid (by rw [List.drop_zero]; exact HR.out)⟩
  case round =>
    clear HR
    obtain ⟨k, X, hk, hk2, rfl, rfl, HK⟩ := hrel
    by_cases h1 : k < s.size - a
    · by_cases h5 : k < 10
      · have hsz : k < (s.extract a s.size).size := by rw [size_from]; exact h1
        have H1 := Lib.hid (bytes_step s a k hsz)
        have hc1 : (s.extract a s.size)[k].toNat < 256 := UInt8.toNat_lt _
        have e7 : (7 * (k : Int)).toNat = 7 * k := by omega
        go_wp2_with (go_at_call 33; refine (bits_u64 _ (by omega) (by omega) _).mono ?_; rintro e w' ⟨rfl, rfl⟩)
        · have ht : (IntKind.u64.wrap (usg (s.extract a s.size)[k].toNat * 2 ^ (7 * k)) / 2 ^ (7 * k) != usg (s.extract a s.size)[k].toNat) = true := by rw [IntKind.wrap_u64]; assumption
          go_ret3
          have hv : R = none := by rw [HK.out, H1.out]; exact rd_bad h5 ht
          exact ⟨by rw [hv]; rfl, rfl⟩
        · have ht : (IntKind.u64.wrap (usg (s.extract a s.size)[k].toNat * 2 ^ (7 * k)) / 2 ^ (7 * k) != usg (s.extract a s.size)[k].toNat) = false := by rw [IntKind.wrap_u64]; assumption
          have h8 : ((s.extract a s.size)[k].toNat : Int) < 128 := by assumption
          go_ret3
          have hv := (HK.out.trans (congrArg (rd .u64 usg 10 k X) H1.out)).trans (rd_end h5 ht h8)
          exact ⟨by rw [hv, IntKind.wrap_u64]; simp only [outOf, Int.natCast_add, Int.add_assoc]; rfl, rfl⟩
        · have ht : (IntKind.u64.wrap (usg (s.extract a s.size)[k].toNat * 2 ^ (7 * k)) / 2 ^ (7 * k) != usg (s.extract a s.size)[k].toNat) = false := by rw [IntKind.wrap_u64]; assumption
          have h8 : 128 ≤ ((s.extract a s.size)[k].toNat : Int) := by assumption
          have hn := (HK.out.trans (congrArg (rd .u64 usg 10 k X) H1.out)).trans (rd_on h5 ht h8)
          have HN := Lib.hid hn
          clear hn
          go_round
          case rel => exact ⟨k + 1, _, by omega, by omega, by go_num, rfl, Lib.hid (by rw [HN.out, IntKind.wrap_u64])⟩
          case measure => simp [intOf]; omega
      · have hv : R = none := by rw [HK.out]; exact rd_over _ _ _ _ _ _ h5
        go_wp2
        go_ret3
        exact ⟨rfl, rfl⟩
    · have hv : R = none := by rw [HK.out, List.drop_eq_nil_of_le (by simp; omega)]; rfl
      go_wp2
      go_ret3
      exact ⟨rfl, rfl⟩
end Go.Proofs.Ytoebkicmjglmcaa
