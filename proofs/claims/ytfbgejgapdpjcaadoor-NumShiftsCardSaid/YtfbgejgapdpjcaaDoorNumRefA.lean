/-
  The document's own answer to chapter 2: its small parts, walked. Contracts that the proofs call; no statement is proved here.
-/
import Derived.Test.YtfbgejgapdpjcaaDoorRows
import Derived.WalkKit
import Derived.WalkSpells
import Derived.WalkLawsBesides
import Derived.Lib.Hide
import Derived.Test.YtfbgejgapdpjcaaDoorNumSpec
namespace Go.Proofs.YtfbgejgapdpjcaaDoor
open Go.RowKit

theorem i64_and1 (n : Int) : bits .and .i64 n 1 = n % 2 := by
  have h1 : (BitVec.ofInt 64 1).toNat = 2 ^ 1 - 1 := by decide
  have key : (BitVec.ofInt 64 n &&& BitVec.ofInt 64 1).toNat = (n % ((2 ^ 64 : Nat) : Int)).toNat % 2 ^ 1 := by
    rw [BitVec.toNat_and, BitVec.toNat_ofInt, h1, Nat.and_two_pow_sub_one_eq_mod]
  show IntKind.i64.wrap ((BitVec.ofInt 64 n &&& BitVec.ofInt 64 1).toNat : Nat) = n % 2
  rw [key, IntKind.wrap_i64]
  omega

theorem ret_int {k : IntKind} {a b : Int} (h : a = b) : Ending.returned (.int k a) = .returned (.int k b) := by rw [h]

set_option maxHeartbeats 400000 in
theorem num_bit (a : Int) (i : Nat) (hi : i < 64) (w : World) :
    Calls Tryd.prog 50 #[.int .u64 a, .int .i64 i] w fun e w' => e = .returned (.int .i64 (a / 2 ^ i % 2)) ∧ w = w' := by
  have hb := i64_and1 (wrap64 (a / 2 ^ i))
  have hc : wrap64 (a / 2 ^ i) % 2 = a / 2 ^ i % 2 := by unfold wrap64; omega
  rw [hc] at hb
  clear hc
  go_enter Tryd.func50, Tryd.ntmps50
  go_wp2
  go_ret
  exact ⟨rfl, rfl⟩

set_option maxHeartbeats 400000 in
theorem num_cut32 (a : Int) (_h : 0 ≤ a) (w : World) : Calls Tryd.prog 22 #[.int .u64 a, .int .i64 32] w fun e w' => e = .returned (.int .u64 (a % 4294967296)) ∧ w = w' := by
  go_enter Tryd.func22, Tryd.ntmps22
  go_wp2
  go_ret
  exact ⟨rfl, rfl⟩
set_option maxHeartbeats 400000 in
theorem num_cut64 (a : Int) (w : World) : Calls Tryd.prog 22 #[.int .u64 a, .int .i64 64] w fun e w' => e = .returned (.int .u64 a) ∧ w = w' := by
  go_enter Tryd.func22, Tryd.ntmps22
  go_wp2
  go_ret
  exact ⟨rfl, rfl⟩
set_option maxHeartbeats 400000 in
theorem num_signed32 (a : Int) (h0 : 0 ≤ a) (h1 : a < 4294967296) (w : World) : Calls Tryd.prog 24 #[.int .u64 a, .int .i64 32] w fun e w' => e = .returned (.int .i64 (sgnv 32 a)) ∧ w = w' := by
  have hs : wrap32 a = sgnv 32 a := by unfold wrap32 sgnv; split <;> omega
  have hb : -2147483648 ≤ sgnv 32 a ∧ sgnv 32 a ≤ 2147483647 := by unfold sgnv; split <;> omega
  go_enter Tryd.func24, Tryd.ntmps24
  go_wp2
  go_ret
  exact ⟨rfl, rfl⟩
set_option maxHeartbeats 400000 in
theorem num_signed64 (a : Int) (h0 : 0 ≤ a) (h1 : a < 18446744073709551616) (w : World) : Calls Tryd.prog 24 #[.int .u64 a, .int .i64 64] w fun e w' => e = .returned (.int .i64 (sgnv 64 a)) ∧ w = w' := by
  have hs : wrap64 a = sgnv 64 a := by unfold wrap64 sgnv; split <;> omega
  go_enter Tryd.func24, Tryd.ntmps24
  go_wp2
  go_ret
  exact ⟨ret_int hs, rfl⟩

theorem lz_step {bs n : Nat} {a : Int} (hn : n < bs) (h : a / 2 ^ (bs - 1 - n) % 2 = 0) : n + lzr (bs - n) a = n + 1 + lzr (bs - (n + 1)) a := by
  obtain ⟨m, hm⟩ : ∃ m, bs - n = m + 1 := ⟨bs - n - 1, by omega⟩
  rw [hm, show bs - (n + 1) = m by omega]
  rw [show bs - 1 - n = m by omega] at h
  simp only [lzr, h]
  simp; omega
theorem lz_stop {bs n : Nat} {a : Int} (hn : n < bs) (h : a / 2 ^ (bs - 1 - n) % 2 = 1) : n + lzr (bs - n) a = n := by
  obtain ⟨m, hm⟩ : ∃ m, bs - n = m + 1 := ⟨bs - n - 1, by omega⟩
  rw [hm]
  rw [show bs - 1 - n = m by omega] at h
  simp [lzr, h]
theorem tz_step {bs n : Nat} {a : Int} (hn : n < bs) (h : a / 2 ^ n % 2 = 0) : n + tzr (bs - n) n a = n + 1 + tzr (bs - (n + 1)) (n + 1) a := by
  obtain ⟨m, hm⟩ : ∃ m, bs - n = m + 1 := ⟨bs - n - 1, by omega⟩
  rw [hm, show bs - (n + 1) = m by omega]
  simp only [tzr, h]
  simp; omega
theorem tz_stop {bs n : Nat} {a : Int} (hn : n < bs) (h : a / 2 ^ n % 2 = 1) : n + tzr (bs - n) n a = n := by
  obtain ⟨m, hm⟩ : ∃ m, bs - n = m + 1 := ⟨bs - n - 1, by omega⟩
  rw [hm]
  simp [tzr, h]

set_option maxRecDepth 100000 in
set_option maxHeartbeats 1000000 in
theorem num_count2 (a : Int) (bs : Nat) (hbs : bs ≤ 64) (w : World) :
    Calls Tryd.prog 23 #[.int .u64 a, .int .i64 bs, .int .i64 2] w fun e w' => e = .returned (.int .u64 (pcr bs a : Nat)) ∧ w = w' := by
  go_enter Tryd.func23, Tryd.ntmps23
  go_wp2
  go_loop [8, 9] (fun o u => ∃ i : Nat, i ≤ bs ∧ u = .int .i64 i ∧ o = .int .i64 (pcr i a : Nat)) (fun _ u => bs - (intOf u).toNat)
  case atStart => exact ⟨0, by omega, rfl, rfl⟩
  case round =>
    obtain ⟨i, hi, rfl, rfl⟩ := hrel
    have hp := pcr_le i a
    by_cases hlt : i < bs
    · have hq : 0 ≤ a / 2 ^ i % 2 ∧ a / 2 ^ i % 2 ≤ 1 := by omega
      have c := num_bit a i (by omega)
      go_wp2_with (go_at_call 50; (with_reducible refine (c _).mono ?_); rintro e w' ⟨rfl, rfl⟩)
      go_round
      case rel => exact ⟨i + 1, by omega, by go_num, by simp only [pcr]; congr 1; omega⟩
      case measure => simp [intOf]; omega
    · obtain rfl : i = bs := by omega
      go_wp2
      go_ret
      exact ⟨rfl, rfl⟩

set_option maxRecDepth 100000 in
set_option maxHeartbeats 1000000 in
theorem num_count0 (a : Int) (bs : Nat) (hb0 : 1 ≤ bs) (hbs : bs ≤ 64) (w : World) :
    Calls Tryd.prog 23 #[.int .u64 a, .int .i64 bs, .int .i64 0] w fun e w' => e = .returned (.int .u64 (lzr bs a : Nat)) ∧ w = w' := by
  obtain ⟨R, hR⟩ : ∃ R, R = lzr bs a := ⟨_, rfl⟩
  rw [← hR]
  have HR := Lib.hid hR
  clear hR
  go_enter Tryd.func23, Tryd.ntmps23
  go_wp2
  go_loop [8, 9] (fun o u => ∃ (i : Nat) (x : Nat), i ≤ bs ∧ x ≤ i ∧ u = .int .i64 i ∧ o = .int .i64 x) (fun _ u => bs - (intOf u).toNat)
  case atStart => exact ⟨0, 0, by omega, by omega, rfl, rfl⟩
  case round =>
    obtain ⟨i, x, hi, hx, rfl, rfl⟩ := hrel
    by_cases hlt : i < bs
    · have hq : 0 ≤ a / 2 ^ i % 2 ∧ a / 2 ^ i % 2 ≤ 1 := by omega
      have c := num_bit a i (by omega)
      go_wp2_with (go_at_call 50; (with_reducible refine (c _).mono ?_); rintro e w' ⟨rfl, rfl⟩)
      go_round
      case rel => exact ⟨i + 1, x + (a / 2 ^ i % 2).toNat, by omega, by omega, by go_num, by congr 1; omega⟩
      case measure => simp [intOf]; omega
    · obtain rfl : i = bs := by omega
      go_wp2
      go_loop [7] (fun u => ∃ n : Nat, n ≤ i ∧ u = .int .i64 n ∧ Hid (R = n + lzr (i - n) a)) (fun u => i - (intOf u).toNat)
      case atStart => exact ⟨0, by omega, rfl, Lib.hid (by simpa using HR.out)⟩
      case round =>
        clear HR
        obtain ⟨n, hn, rfl, HK⟩ := hrel
        by_cases hlt : n < i
        · rcases (show a / 2 ^ (i - 1 - n) % 2 = 0 ∨ a / 2 ^ (i - 1 - n) % 2 = 1 by omega) with h | h
          · have c : ∀ w, Calls Tryd.prog 50 #[.int .u64 a, .int .i64 ((i : Int) - 1 - n)] w fun e w' => e = .returned (.int .i64 0) ∧ w = w' := fun w => by
              have := num_bit a (i - 1 - n) (by omega) w
              rwa [h, show ((i - 1 - n : Nat) : Int) = (i : Int) - 1 - n by omega] at this
            have HS := Lib.hid (lz_step hlt h)
            clear h
            go_wp2_with (go_at_call 50; (with_reducible refine (c _).mono ?_); rintro e w' ⟨rfl, rfl⟩)
            go_round
            case rel => exact ⟨n + 1, by omega, by go_num, Lib.hid (by rw [HK.out, HS.out])⟩
            case measure => simp [intOf]; omega
          · have c : ∀ w, Calls Tryd.prog 50 #[.int .u64 a, .int .i64 ((i : Int) - 1 - n)] w fun e w' => e = .returned (.int .i64 1) ∧ w = w' := fun w => by
              have := num_bit a (i - 1 - n) (by omega) w
              rwa [h, show ((i - 1 - n : Nat) : Int) = (i : Int) - 1 - n by omega] at this
            have HS := Lib.hid (lz_stop hlt h)
            clear h
            go_wp2_with (go_at_call 50; (with_reducible refine (c _).mono ?_); rintro e w' ⟨rfl, rfl⟩)
            go_ret
            exact ⟨by rw [HK.out, HS.out]; rfl, rfl⟩
        · obtain rfl : n = i := by omega
          go_wp2
          go_ret
          exact ⟨by rw [HK.out, Nat.sub_self]; rfl, rfl⟩

set_option maxRecDepth 100000 in
set_option maxHeartbeats 1000000 in
theorem num_count1 (a : Int) (bs : Nat) (hbs : bs ≤ 64) (w : World) :
    Calls Tryd.prog 23 #[.int .u64 a, .int .i64 bs, .int .i64 1] w fun e w' => e = .returned (.int .u64 (tzr bs 0 a : Nat)) ∧ w = w' := by
  obtain ⟨R, hR⟩ : ∃ R, R = tzr bs 0 a := ⟨_, rfl⟩
  rw [← hR]
  have HR := Lib.hid hR
  clear hR
  go_enter Tryd.func23, Tryd.ntmps23
  go_wp2
  go_loop [8, 9] (fun o u => ∃ (i : Nat) (x : Nat), i ≤ bs ∧ x ≤ i ∧ u = .int .i64 i ∧ o = .int .i64 x) (fun _ u => bs - (intOf u).toNat)
  case atStart => exact ⟨0, 0, by omega, by omega, rfl, rfl⟩
  case round =>
    obtain ⟨i, x, hi, hx, rfl, rfl⟩ := hrel
    by_cases hlt : i < bs
    · have hq : 0 ≤ a / 2 ^ i % 2 ∧ a / 2 ^ i % 2 ≤ 1 := by omega
      have c := num_bit a i (by omega)
      go_wp2_with (go_at_call 50; (with_reducible refine (c _).mono ?_); rintro e w' ⟨rfl, rfl⟩)
      go_round
      case rel => exact ⟨i + 1, x + (a / 2 ^ i % 2).toNat, by omega, by omega, by go_num, by congr 1; omega⟩
      case measure => simp [intOf]; omega
    · obtain rfl : i = bs := by omega
      go_wp2
      go_loop [7] (fun u => ∃ n : Nat, n ≤ i ∧ u = .int .i64 n ∧ Hid (R = n + tzr (i - n) n a)) (fun u => i - (intOf u).toNat)
      case atStart => exact ⟨0, by omega, rfl, Lib.hid (by simpa using HR.out)⟩
      case round =>
        clear HR
        obtain ⟨n, hn, rfl, HK⟩ := hrel
        by_cases hlt : n < i
        · rcases (show a / 2 ^ n % 2 = 0 ∨ a / 2 ^ n % 2 = 1 by omega) with h | h
          · have c := num_bit a n (by omega)
            rw [h] at c
            have HS := Lib.hid (tz_step hlt h)
            clear h
            go_wp2_with (go_at_call 50; (with_reducible refine (c _).mono ?_); rintro e w' ⟨rfl, rfl⟩)
            go_round
            case rel => exact ⟨n + 1, by omega, by go_num, Lib.hid (by rw [HK.out, HS.out])⟩
            case measure => simp [intOf]; omega
          · have c := num_bit a n (by omega)
            rw [h] at c
            have HS := Lib.hid (tz_stop hlt h)
            clear h
            go_wp2_with (go_at_call 50; (with_reducible refine (c _).mono ?_); rintro e w' ⟨rfl, rfl⟩)
            go_ret
            exact ⟨by rw [HK.out, HS.out]; rfl, rfl⟩
        · obtain rfl : n = i := by omega
          go_wp2
          go_ret
          exact ⟨by rw [HK.out, Nat.sub_self]; rfl, rfl⟩
end Go.Proofs.YtfbgejgapdpjcaaDoor
