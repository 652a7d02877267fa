/-
  LebSizes, walked: a number has as many bytes as its bits ask for, and no more; with a sign one bit more is asked for.
-/
import Derived.Test.YtoebkicmjglmcaaLebAns
namespace Go.Proofs.Ytoebkicmjglmcaa.lebSizes
open Go.RowKit

theorem pow128 (k : Nat) : (128 : Int) ^ k = 2 ^ (7 * k) := by rw [Int.pow_mul]; rfl
theorem pow_le {a b : Nat} (h : a ≤ b) : (2 : Int) ^ a ≤ 2 ^ b := by exact_mod_cast Nat.pow_le_pow_right (by decide) h
theorem pow_pos' (a : Nat) : (0 : Int) < 2 ^ a := Int.pow_pos (by decide)

theorem size_u {n : Int} {b : Nat} (h0 : 0 ≤ n) (h1 : n < 2 ^ b) (h2 : b = 0 ∨ 2 ^ (b - 1) ≤ n) : (putU n).length = (max b 1 + 6) / 7 := by
  obtain ⟨k, hk⟩ : ∃ k, (max b 1 + 6) / 7 = k + 1 := ⟨(max b 1 + 6) / 7 - 1, by omega⟩
  rw [hk]
  have up := (putU_len n h0 k).2 (by rw [pow128]; exact Int.lt_of_lt_of_le h1 (pow_le (by omega)))
  cases k with
  | zero =>
    have : 0 < (putU n).length := List.length_pos_iff.2 (putU_ne n)
    omega
  | succ k =>
    have lo : ¬ (putU n).length ≤ k + 1 := by
      rw [putU_len n h0 k, pow128]
      have hp : (2 : Int) ^ (7 * (k + 1)) ≤ 2 ^ (b - 1) := pow_le (by omega)
      rcases h2 with h2 | h2 <;> omega
    omega

theorem inside {m : Int} {j : Nat} (h : m / 2 ^ j = 0 ∨ m / 2 ^ j = -1) : -(2 ^ j) ≤ m ∧ m < 2 ^ j := by
  have hp := pow_pos' j
  have h1 := Int.mul_ediv_add_emod m (2 ^ j)
  have h2 := Int.emod_nonneg m (Int.ne_of_gt hp)
  have h3 := Int.emod_lt_of_pos m hp
  rcases h with h | h <;> rw [h] at h1 <;> omega
theorem outside {m : Int} {j : Nat} (h : -(2 ^ j) ≤ m ∧ m < 2 ^ j) : m / 2 ^ j = 0 ∨ m / 2 ^ j = -1 := by
  have hp := pow_pos' j
  by_cases hm : 0 ≤ m
  · exact Or.inl (Int.ediv_eq_zero_of_lt hm h.2)
  · refine Or.inr ?_
    have h1 : m / 2 ^ j < 0 := Int.ediv_neg_of_neg_of_pos (by omega) hp
    have h2 : -1 ≤ m / 2 ^ j := Int.le_ediv_of_mul_le hp (by omega)
    omega

theorem ediv_pos_of_le {n : Int} {b : Nat} (h : 2 ^ b ≤ n) : 0 < n / 2 ^ b := by
  have := Int.le_ediv_of_mul_le (c := 2 ^ b) (a := 1) (b := n) (pow_pos' b) (by omega)
  omega

theorem size_s {m : Int} {j : Nat} (h1 : -(2 ^ j) ≤ m ∧ m < 2 ^ j) (h2 : j = 0 ∨ ¬ (m / 2 ^ (j - 1) = 0 ∨ m / 2 ^ (j - 1) = -1)) : (putS m).length = (j + 7) / 7 := by
  have e6 : ∀ k, (64 : Int) * 128 ^ k = 2 ^ (7 * k + 6) := fun k => by rw [pow128, Int.pow_add]; omega
  obtain ⟨k, hk⟩ : ∃ k, (j + 7) / 7 = k + 1 := ⟨(j + 7) / 7 - 1, by omega⟩
  rw [hk]
  have hp : (2 : Int) ^ j ≤ 2 ^ (7 * k + 6) := pow_le (by omega)
  have up := (putS_len m k).2 (by rw [e6]; omega)
  cases k with
  | zero =>
    have : 0 < (putS m).length := List.length_pos_iff.2 (putS_ne m)
    omega
  | succ k =>
    have lo : ¬ (putS m).length ≤ k + 1 := by
      rw [putS_len m k, e6]
      intro h
      have hq : (2 : Int) ^ (7 * k + 6) ≤ 2 ^ (j - 1) := pow_le (by omega)
      rcases h2 with h2 | h2
      · omega
      · exact h2 (outside (by omega))
    omega
end Go.Proofs.Ytoebkicmjglmcaa.lebSizes
namespace Go.Proofs.Ytoebkicmjglmcaa
open Go.RowKit lebSizes

set_option maxRecDepth 100000 in
set_option maxHeartbeats 2000000 in
theorem lebSizes_walk (n m : Int) (hn0 : 0 ≤ n) (hn1 : n ≤ 18446744073709551615) (hm0 : -9223372036854775808 ≤ m) (hm1 : m ≤ 9223372036854775807) (w : World) :
    Calls Try.prog 9 #[.int .u64 n, .int .i64 m] w fun e w' => e = .returned (.bool true) ∧ Below w.heap.size w w' := by
  have p1 := put_u n hn0 hn1
  have p2 := put_s m hm0 hm1
  obtain ⟨S, hS⟩ : ∃ S, S = ByteArray.mk (putU n).toArray := ⟨_, rfl⟩
  obtain ⟨T, hT⟩ : ∃ T, T = ByteArray.mk (putS m).toArray := ⟨_, rfl⟩
  rw [← hS] at p1
  rw [← hT] at p2
  have eS : Hid (S.size = (putU n).length) := Lib.hid (by rw [hS]; rfl)
  have eT : Hid (T.size = (putS m).length) := Lib.hid (by rw [hT]; rfl)
  clear hS hT
  go_enter Try.func9, Try.ntmps9
  go_wp2_with (first
        | (go_at_call 11; (with_reducible refine (head_true _).mono ?_); rintro e w0 ⟨rfl, hb0⟩))
  go_loop [6] (fun v => ∃ b : Nat, b ≤ 64 ∧ v = .int .i64 b ∧ Hid (b = 0 ∨ 2 ^ (b - 1) ≤ n)) (fun v => 64 - (intOf v).toNat)
  case atStart => exact ⟨0, by omega, rfl, Or.inl rfl⟩
  case round =>
    obtain ⟨b, hb, rfl, hl⟩ := hrel
    by_cases hgo : b < 64 ∧ 2 ^ b ≤ n
    · obtain ⟨hb64, hge⟩ := hgo
      have hq : 0 < n / 2 ^ b := ediv_pos_of_le hge
      have HG := Lib.hid hge
      clear hge
      go_wp2
      go_round
      case rel => exact ⟨b + 1, by omega, by go_num, Or.inr (by simpa using HG.out)⟩
      case measure => simp [intOf]; omega
    · have hlt : Hid (n < 2 ^ b) := by
        by_cases hb64 : b < 64
        · have : ¬ 2 ^ b ≤ n := fun h => hgo ⟨hb64, h⟩
          exact Lib.hid (by omega)
        · obtain rfl : b = 64 := by omega
          exact Lib.hid (by omega)
      clear hgo
      have hz : n / 2 ^ b ≤ 0 := by
        rw [Int.ediv_eq_zero_of_lt hn0 hlt.out]; omega
      have L1 := Lib.hid (size_u hn0 hlt.out hl.out)
      by_cases hb64 : b < 64
      all_goals
        go_wp2
        go_loop [7] (fun v => ∃ j : Nat, 1 ≤ j ∧ j ≤ 64 ∧ v = .int .i64 j ∧ Hid (j = 1 ∨ ¬ (m / 2 ^ (j - 2) = 0 ∨ m / 2 ^ (j - 2) = -1))) (fun v => 65 - (intOf v).toNat)
        case atStart => exact ⟨1, by omega, by omega, rfl, Or.inl rfl⟩
        case round =>
          obtain ⟨j, hj1, hj, rfl, hk⟩ := hrel
          clear hz
          have e1 : ((j : Int) - 1).toNat = j - 1 := by omega
          by_cases hgo : j < 64 ∧ (0 < m / 2 ^ (j - 1) ∨ m / 2 ^ (j - 1) < -1)
          · obtain ⟨hj63, hq⟩ := hgo
            have HQ : Hid (¬ (m / 2 ^ (j - 1) = 0 ∨ m / 2 ^ (j - 1) = -1)) := Lib.hid (by omega)
            have t1 : (m / 2 ^ (j - 1) != 0) = true := by rw [bne_iff_ne]; omega
            have t2 : (m / 2 ^ (j - 1) != -1) = true := by rw [bne_iff_ne]; omega
            clear hq
            go_wp2
            go_round
            case rel => exact ⟨j + 1, by omega, by omega, by go_num, Or.inr (by rw [show j + 1 - 2 = j - 1 by omega]; exact HQ.out)⟩
            case measure => simp [intOf]; omega
          · have hin : Hid (-(2 ^ (j - 1)) ≤ m ∧ m < 2 ^ (j - 1)) := by
              by_cases hj63 : j < 64
              · exact Lib.hid (inside (by omega))
              · obtain rfl : j = 64 := by omega
                exact Lib.hid (by omega)
            have L2 := Lib.hid (size_s hin.out (by
              rcases hk.out with h | h
              · exact Or.inl (by omega)
              · exact Or.inr (by rw [show j - 1 - 1 = j - 2 by omega]; exact h)))
            rcases (show 64 ≤ j ∨ (j < 64 ∧ m / 2 ^ (j - 1) = 0) ∨ (j < 64 ∧ m / 2 ^ (j - 1) = -1) by omega) with hs | hs | hs
            all_goals
              clear hgo
              go_wp2_with (first
                | (go_at_call 12; (with_reducible refine (p1 _).mono ?_); rintro e w1 ⟨rfl, hb1⟩)
                | (go_at_call 14; (with_reducible refine (p2 _).mono ?_); rintro e w2 ⟨rfl, hb2⟩))
              all_goals
                have g1 := eS.out.trans L1.out
                have g2 := eT.out.trans L2.out
                first
                  | (exfalso; omega)
                  | (go_ret; exact ⟨ret_true (beq_iff_eq.2 (by omega)), hb0.trans ((hb1.trans (hb2.mono hb1.size)).mono hb0.size)⟩)
end Go.Proofs.Ytoebkicmjglmcaa
