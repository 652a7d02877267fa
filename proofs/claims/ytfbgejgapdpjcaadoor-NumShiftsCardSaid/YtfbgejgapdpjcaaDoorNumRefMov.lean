/-
  The document's own answer to chapter 2: bits moved and turned; walked. Contracts that the proofs call; no statement is proved here.
-/
import Derived.Test.YtfbgejgapdpjcaaDoorNumRefA
import Derived.Test.YtfbgejgapdpjcaaDoorNumMov
namespace Go.Proofs.YtfbgejgapdpjcaaDoor
open Go.RowKit

set_option maxRecDepth 100000 in
set_option maxHeartbeats 2000000 in
theorem num_mov0 (a b : Int) (bs n : Nat) (hb1 : 1 ≤ bs) (hbs : bs ≤ 64) (ha0 : 0 ≤ a) (ha1 : a < 2 ^ bs) (hb0 : 0 ≤ b) (hb2 : b ≤ 18446744073709551615) (hn : n < bs) (hbn : b % bs = n) (w : World) :
    Calls Tryd.prog 31 #[.int .i64 0, .int .u64 a, .int .u64 b, .int .i64 bs] w fun e w' => e = .returned (.int .u64 (mov 0 bs a n)) ∧ w = w' := by
  have HA := Lib.hid ha1
  obtain ⟨R, hR⟩ : ∃ R, R = mov 0 bs a n := ⟨_, rfl⟩
  rw [← hR]
  have HR := Lib.hid hR
  have hmb := mov_bd (kind := 0) (n := n) (by decide) ha0 ha1 (by omega)
  have HM := Lib.hid hmb
  clear ha1 hR hmb
  go_enter Tryd.func31, Tryd.ntmps31
  go_wp2
  clear hbn
  go_loop [10, 11, 12] (fun o u _ => ∃ (i : Nat) (X : Int), i ≤ bs ∧ u = .int .i64 i ∧ o = .int .u64 X ∧ Hid (X = mov 0 bs a n % 2 ^ i)) (fun _ u _ => bs - (intOf u).toNat)
  case atStart => exact ⟨0, 0, by omega, rfl, rfl, Lib.hid (by simp)⟩
  case round =>
    obtain ⟨i, X, hi, rfl, rfl, HX⟩ := hrel
    by_cases hlt : i < bs
    · by_cases hc : n ≤ i
      · have hbit : mov 0 bs a n / 2 ^ i % 2 = a / 2 ^ (i - n) % 2 := mov0_hi a hlt hc
        rcases (show a / 2 ^ (i - n) % 2 = 1 ∨ a / 2 ^ (i - n) % 2 = 0 by omega) with hx | hx
        · have ci : ∀ w, Calls Tryd.prog 50 #[.int .u64 a, .int .i64 ((i : Int) - n)] w fun e w' => e = .returned (.int .i64 1) ∧ w = w' := fun w => by
            have h := num_bit a (i - n) (by omega) w
            rwa [hx, show ((i - n : Nat) : Int) = (i : Int) - n by omega] at h
          have HB := Lib.hid (hbit.trans hx)
          clear hx hbit
          go_wp2_with (go_at_call 50; (with_reducible refine (ci _).mono ?_); rintro e w' ⟨rfl, rfl⟩)
          go_round
          case rel => exact ⟨i + 1, _, by omega, by go_num, rfl, Lib.hid (or_pow2 (by omega) HX.out HB.out)⟩
          case measure => simp [intOf]; omega
        · have ci : ∀ w, Calls Tryd.prog 50 #[.int .u64 a, .int .i64 ((i : Int) - n)] w fun e w' => e = .returned (.int .i64 0) ∧ w = w' := fun w => by
            have h := num_bit a (i - n) (by omega) w
            rwa [hx, show ((i - n : Nat) : Int) = (i : Int) - n by omega] at h
          have HB := Lib.hid (hbit.trans hx)
          clear hx hbit
          go_wp2_with (go_at_call 50; (with_reducible refine (ci _).mono ?_); rintro e w' ⟨rfl, rfl⟩)
          go_round
          case rel => exact ⟨i + 1, _, by omega, by go_num, rfl, Lib.hid (skip_pow2 HX.out HB.out)⟩
          case measure => simp [intOf]; omega
      · have HB : Hid (mov 0 bs a n / 2 ^ i % 2 = 0) := Lib.hid (mov0_lo a hlt (by omega))
        go_wp2
        go_round
        case rel => exact ⟨i + 1, _, by omega, by go_num, rfl, Lib.hid (skip_pow2 HX.out HB.out)⟩
        case measure => simp [intOf]; omega
    · obtain rfl : i = bs := by omega
      go_wp2
      go_ret
      exact ⟨ret_int (by rw [HR.out, HX.out]; exact Int.emod_eq_of_lt HM.out.1 HM.out.2), rfl⟩

set_option maxRecDepth 100000 in
set_option maxHeartbeats 2000000 in
theorem num_mov1 (a b : Int) (bs n : Nat) (hb1 : 1 ≤ bs) (hbs : bs ≤ 64) (ha0 : 0 ≤ a) (ha1 : a < 2 ^ bs) (hb0 : 0 ≤ b) (hb2 : b ≤ 18446744073709551615) (hn : n < bs) (hbn : b % bs = n) (w : World) :
    Calls Tryd.prog 31 #[.int .i64 1, .int .u64 a, .int .u64 b, .int .i64 bs] w fun e w' => e = .returned (.int .u64 (mov 1 bs a n)) ∧ w = w' := by
  have HA := Lib.hid ha1
  obtain ⟨R, hR⟩ : ∃ R, R = mov 1 bs a n := ⟨_, rfl⟩
  rw [← hR]
  have HR := Lib.hid hR
  have hmb := mov_bd (kind := 1) (n := n) (by decide) ha0 ha1 (by omega)
  have HM := Lib.hid hmb
  clear ha1 hR hmb
  go_enter Tryd.func31, Tryd.ntmps31
  go_wp2
  clear hbn
  go_loop [10, 11, 12] (fun o u _ => ∃ (i : Nat) (X : Int), i ≤ bs ∧ u = .int .i64 i ∧ o = .int .u64 X ∧ Hid (X = mov 1 bs a n % 2 ^ i)) (fun _ u _ => bs - (intOf u).toNat)
  case atStart => exact ⟨0, 0, by omega, rfl, rfl, Lib.hid (by simp)⟩
  case round =>
    obtain ⟨i, X, hi, rfl, rfl, HX⟩ := hrel
    by_cases hlt : i < bs
    · by_cases hc : i + n < bs
      · have em : min ((i : Int) + n) ((bs : Int) - 1) = (i : Int) + n := by omega
        have hbit : mov 1 bs a n / 2 ^ i % 2 = a / 2 ^ (i + n) % 2 := mov1_lo a ha0 HA.out hlt hc
        rcases (show a / 2 ^ (i + n) % 2 = 1 ∨ a / 2 ^ (i + n) % 2 = 0 by omega) with hx | hx
        · have ci : ∀ w, Calls Tryd.prog 50 #[.int .u64 a, .int .i64 ((i : Int) + n)] w fun e w' => e = .returned (.int .i64 1) ∧ w = w' := fun w => by
            have h := num_bit a (i + n) (by omega) w
            rwa [hx, show ((i + n : Nat) : Int) = (i : Int) + n by omega] at h
          have HB := Lib.hid (hbit.trans hx)
          clear hx hbit
          go_wp2_with (go_at_call 50; (with_reducible refine (ci _).mono ?_); rintro e w' ⟨rfl, rfl⟩)
          go_round
          case rel => exact ⟨i + 1, _, by omega, by go_num, rfl, Lib.hid (or_pow2 (by omega) HX.out HB.out)⟩
          case measure => simp [intOf]; omega
        · have ci : ∀ w, Calls Tryd.prog 50 #[.int .u64 a, .int .i64 ((i : Int) + n)] w fun e w' => e = .returned (.int .i64 0) ∧ w = w' := fun w => by
            have h := num_bit a (i + n) (by omega) w
            rwa [hx, show ((i + n : Nat) : Int) = (i : Int) + n by omega] at h
          have HB := Lib.hid (hbit.trans hx)
          clear hx hbit
          go_wp2_with (go_at_call 50; (with_reducible refine (ci _).mono ?_); rintro e w' ⟨rfl, rfl⟩)
          go_round
          case rel => exact ⟨i + 1, _, by omega, by go_num, rfl, Lib.hid (skip_pow2 HX.out HB.out)⟩
          case measure => simp [intOf]; omega
      · have em : min ((i : Int) + n) ((bs : Int) - 1) = (bs : Int) - 1 := by omega
        have hbit : mov 1 bs a n / 2 ^ i % 2 = a / 2 ^ (bs - 1) % 2 := mov1_hi a ha0 HA.out hb1 hlt (by omega)
        rcases (show a / 2 ^ (bs - 1) % 2 = 1 ∨ a / 2 ^ (bs - 1) % 2 = 0 by omega) with hx | hx
        · have ci : ∀ w, Calls Tryd.prog 50 #[.int .u64 a, .int .i64 ((bs : Int) - 1)] w fun e w' => e = .returned (.int .i64 1) ∧ w = w' := fun w => by
            have h := num_bit a (bs - 1) (by omega) w
            rwa [hx, show ((bs - 1 : Nat) : Int) = (bs : Int) - 1 by omega] at h
          have HB := Lib.hid (hbit.trans hx)
          clear hx hbit
          go_wp2_with (go_at_call 50; (with_reducible refine (ci _).mono ?_); rintro e w' ⟨rfl, rfl⟩)
          go_round
          case rel => exact ⟨i + 1, _, by omega, by go_num, rfl, Lib.hid (or_pow2 (by omega) HX.out HB.out)⟩
          case measure => simp [intOf]; omega
        · have ci : ∀ w, Calls Tryd.prog 50 #[.int .u64 a, .int .i64 ((bs : Int) - 1)] w fun e w' => e = .returned (.int .i64 0) ∧ w = w' := fun w => by
            have h := num_bit a (bs - 1) (by omega) w
            rwa [hx, show ((bs - 1 : Nat) : Int) = (bs : Int) - 1 by omega] at h
          have HB := Lib.hid (hbit.trans hx)
          clear hx hbit
          go_wp2_with (go_at_call 50; (with_reducible refine (ci _).mono ?_); rintro e w' ⟨rfl, rfl⟩)
          go_round
          case rel => exact ⟨i + 1, _, by omega, by go_num, rfl, Lib.hid (skip_pow2 HX.out HB.out)⟩
          case measure => simp [intOf]; omega
    · obtain rfl : i = bs := by omega
      go_wp2
      go_ret
      exact ⟨ret_int (by rw [HR.out, HX.out]; exact Int.emod_eq_of_lt HM.out.1 HM.out.2), rfl⟩

set_option maxRecDepth 100000 in
set_option maxHeartbeats 2000000 in
theorem num_mov2 (a b : Int) (bs n : Nat) (hb1 : 1 ≤ bs) (hbs : bs ≤ 64) (ha0 : 0 ≤ a) (ha1 : a < 2 ^ bs) (hb0 : 0 ≤ b) (hb2 : b ≤ 18446744073709551615) (hn : n < bs) (hbn : b % bs = n) (w : World) :
    Calls Tryd.prog 31 #[.int .i64 2, .int .u64 a, .int .u64 b, .int .i64 bs] w fun e w' => e = .returned (.int .u64 (mov 2 bs a n)) ∧ w = w' := by
  have HA := Lib.hid ha1
  obtain ⟨R, hR⟩ : ∃ R, R = mov 2 bs a n := ⟨_, rfl⟩
  rw [← hR]
  have HR := Lib.hid hR
  have hmb := mov_bd (kind := 2) (n := n) (by decide) ha0 ha1 (by omega)
  have HM := Lib.hid hmb
  clear ha1 hR hmb
  go_enter Tryd.func31, Tryd.ntmps31
  go_wp2
  clear hbn
  go_loop [10, 11, 12] (fun o u _ => ∃ (i : Nat) (X : Int), i ≤ bs ∧ u = .int .i64 i ∧ o = .int .u64 X ∧ Hid (X = mov 2 bs a n % 2 ^ i)) (fun _ u _ => bs - (intOf u).toNat)
  case atStart => exact ⟨0, 0, by omega, rfl, rfl, Lib.hid (by simp)⟩
  case round =>
    obtain ⟨i, X, hi, rfl, rfl, HX⟩ := hrel
    by_cases hlt : i < bs
    · by_cases hc : i + n < bs
      · have hbit : mov 2 bs a n / 2 ^ i % 2 = a / 2 ^ (i + n) % 2 := mov2_lo a
        rcases (show a / 2 ^ (i + n) % 2 = 1 ∨ a / 2 ^ (i + n) % 2 = 0 by omega) with hx | hx
        · have ci : ∀ w, Calls Tryd.prog 50 #[.int .u64 a, .int .i64 ((i : Int) + n)] w fun e w' => e = .returned (.int .i64 1) ∧ w = w' := fun w => by
            have h := num_bit a (i + n) (by omega) w
            rwa [hx, show ((i + n : Nat) : Int) = (i : Int) + n by omega] at h
          have HB := Lib.hid (hbit.trans hx)
          clear hx hbit
          go_wp2_with (go_at_call 50; (with_reducible refine (ci _).mono ?_); rintro e w' ⟨rfl, rfl⟩)
          go_round
          case rel => exact ⟨i + 1, _, by omega, by go_num, rfl, Lib.hid (or_pow2 (by omega) HX.out HB.out)⟩
          case measure => simp [intOf]; omega
        · have ci : ∀ w, Calls Tryd.prog 50 #[.int .u64 a, .int .i64 ((i : Int) + n)] w fun e w' => e = .returned (.int .i64 0) ∧ w = w' := fun w => by
            have h := num_bit a (i + n) (by omega) w
            rwa [hx, show ((i + n : Nat) : Int) = (i : Int) + n by omega] at h
          have HB := Lib.hid (hbit.trans hx)
          clear hx hbit
          go_wp2_with (go_at_call 50; (with_reducible refine (ci _).mono ?_); rintro e w' ⟨rfl, rfl⟩)
          go_round
          case rel => exact ⟨i + 1, _, by omega, by go_num, rfl, Lib.hid (skip_pow2 HX.out HB.out)⟩
          case measure => simp [intOf]; omega
      · have HB : Hid (mov 2 bs a n / 2 ^ i % 2 = 0) := Lib.hid (by rw [mov2_lo]; exact bit_past ha0 HA.out (by omega))
        go_wp2
        go_round
        case rel => exact ⟨i + 1, _, by omega, by go_num, rfl, Lib.hid (skip_pow2 HX.out HB.out)⟩
        case measure => simp [intOf]; omega
    · obtain rfl : i = bs := by omega
      go_wp2
      go_ret
      exact ⟨ret_int (by rw [HR.out, HX.out]; exact Int.emod_eq_of_lt HM.out.1 HM.out.2), rfl⟩

set_option maxRecDepth 100000 in
set_option maxHeartbeats 2000000 in
theorem num_mov3 (a b : Int) (bs n : Nat) (hb1 : 1 ≤ bs) (hbs : bs ≤ 64) (ha0 : 0 ≤ a) (ha1 : a < 2 ^ bs) (hb0 : 0 ≤ b) (hb2 : b ≤ 18446744073709551615) (hn : n < bs) (hbn : b % bs = n) (w : World) :
    Calls Tryd.prog 31 #[.int .i64 3, .int .u64 a, .int .u64 b, .int .i64 bs] w fun e w' => e = .returned (.int .u64 (mov 3 bs a n)) ∧ w = w' := by
  have HA := Lib.hid ha1
  obtain ⟨R, hR⟩ : ∃ R, R = mov 3 bs a n := ⟨_, rfl⟩
  rw [← hR]
  have HR := Lib.hid hR
  have hmb := mov_bd (kind := 3) (n := n) (by decide) ha0 ha1 (by omega)
  have HM := Lib.hid hmb
  clear ha1 hR hmb
  go_enter Tryd.func31, Tryd.ntmps31
  go_wp2
  clear hbn
  go_loop [10, 11, 12] (fun o u _ => ∃ (i : Nat) (X : Int), i ≤ bs ∧ u = .int .i64 i ∧ o = .int .u64 X ∧ Hid (X = mov 3 bs a n % 2 ^ i)) (fun _ u _ => bs - (intOf u).toNat)
  case atStart => exact ⟨0, 0, by omega, rfl, rfl, Lib.hid (by simp)⟩
  case round =>
    obtain ⟨i, X, hi, rfl, rfl, HX⟩ := hrel
    by_cases hlt : i < bs
    · by_cases hc : n ≤ i
      · have em : ((i : Int) - n + bs) % bs = (i : Int) - n := by rw [Int.add_emod_right]; exact Int.emod_eq_of_lt (by omega) (by omega)
        have hbit : mov 3 bs a n / 2 ^ i % 2 = a / 2 ^ (i - n) % 2 := mov3_hi a ha0 HA.out hn hlt hc
        rcases (show a / 2 ^ (i - n) % 2 = 1 ∨ a / 2 ^ (i - n) % 2 = 0 by omega) with hx | hx
        · have ci : ∀ w, Calls Tryd.prog 50 #[.int .u64 a, .int .i64 ((i : Int) - n)] w fun e w' => e = .returned (.int .i64 1) ∧ w = w' := fun w => by
            have h := num_bit a (i - n) (by omega) w
            rwa [hx, show ((i - n : Nat) : Int) = (i : Int) - n by omega] at h
          have HB := Lib.hid (hbit.trans hx)
          clear hx hbit
          go_wp2_with (go_at_call 50; (with_reducible refine (ci _).mono ?_); rintro e w' ⟨rfl, rfl⟩)
          go_round
          case rel => exact ⟨i + 1, _, by omega, by go_num, rfl, Lib.hid (or_pow2 (by omega) HX.out HB.out)⟩
          case measure => simp [intOf]; omega
        · have ci : ∀ w, Calls Tryd.prog 50 #[.int .u64 a, .int .i64 ((i : Int) - n)] w fun e w' => e = .returned (.int .i64 0) ∧ w = w' := fun w => by
            have h := num_bit a (i - n) (by omega) w
            rwa [hx, show ((i - n : Nat) : Int) = (i : Int) - n by omega] at h
          have HB := Lib.hid (hbit.trans hx)
          clear hx hbit
          go_wp2_with (go_at_call 50; (with_reducible refine (ci _).mono ?_); rintro e w' ⟨rfl, rfl⟩)
          go_round
          case rel => exact ⟨i + 1, _, by omega, by go_num, rfl, Lib.hid (skip_pow2 HX.out HB.out)⟩
          case measure => simp [intOf]; omega
      · have em : ((i : Int) - n + bs) % bs = (i : Int) - n + bs := Int.emod_eq_of_lt (by omega) (by omega)
        have hbit : mov 3 bs a n / 2 ^ i % 2 = a / 2 ^ (i + bs - n) % 2 := mov3_lo a hn (by omega)
        rcases (show a / 2 ^ (i + bs - n) % 2 = 1 ∨ a / 2 ^ (i + bs - n) % 2 = 0 by omega) with hx | hx
        · have ci : ∀ w, Calls Tryd.prog 50 #[.int .u64 a, .int .i64 ((i : Int) - n + bs)] w fun e w' => e = .returned (.int .i64 1) ∧ w = w' := fun w => by
            have h := num_bit a (i + bs - n) (by omega) w
            rwa [hx, show ((i + bs - n : Nat) : Int) = (i : Int) - n + bs by omega] at h
          have HB := Lib.hid (hbit.trans hx)
          clear hx hbit
          go_wp2_with (go_at_call 50; (with_reducible refine (ci _).mono ?_); rintro e w' ⟨rfl, rfl⟩)
          go_round
          case rel => exact ⟨i + 1, _, by omega, by go_num, rfl, Lib.hid (or_pow2 (by omega) HX.out HB.out)⟩
          case measure => simp [intOf]; omega
        · have ci : ∀ w, Calls Tryd.prog 50 #[.int .u64 a, .int .i64 ((i : Int) - n + bs)] w fun e w' => e = .returned (.int .i64 0) ∧ w = w' := fun w => by
            have h := num_bit a (i + bs - n) (by omega) w
            rwa [hx, show ((i + bs - n : Nat) : Int) = (i : Int) - n + bs by omega] at h
          have HB := Lib.hid (hbit.trans hx)
          clear hx hbit
          go_wp2_with (go_at_call 50; (with_reducible refine (ci _).mono ?_); rintro e w' ⟨rfl, rfl⟩)
          go_round
          case rel => exact ⟨i + 1, _, by omega, by go_num, rfl, Lib.hid (skip_pow2 HX.out HB.out)⟩
          case measure => simp [intOf]; omega
    · obtain rfl : i = bs := by omega
      go_wp2
      go_ret
      exact ⟨ret_int (by rw [HR.out, HX.out]; exact Int.emod_eq_of_lt HM.out.1 HM.out.2), rfl⟩

set_option maxRecDepth 100000 in
set_option maxHeartbeats 2000000 in
theorem num_mov4 (a b : Int) (bs n : Nat) (hb1 : 1 ≤ bs) (hbs : bs ≤ 64) (ha0 : 0 ≤ a) (ha1 : a < 2 ^ bs) (hb0 : 0 ≤ b) (hb2 : b ≤ 18446744073709551615) (hn : n < bs) (hbn : b % bs = n) (w : World) :
    Calls Tryd.prog 31 #[.int .i64 4, .int .u64 a, .int .u64 b, .int .i64 bs] w fun e w' => e = .returned (.int .u64 (mov 4 bs a n)) ∧ w = w' := by
  have HA := Lib.hid ha1
  obtain ⟨R, hR⟩ : ∃ R, R = mov 4 bs a n := ⟨_, rfl⟩
  rw [← hR]
  have HR := Lib.hid hR
  have hmb := mov_bd (kind := 4) (n := n) (by decide) ha0 ha1 (by omega)
  have HM := Lib.hid hmb
  clear ha1 hR hmb
  go_enter Tryd.func31, Tryd.ntmps31
  go_wp2
  clear hbn
  go_loop [10, 11, 12] (fun o u _ => ∃ (i : Nat) (X : Int), i ≤ bs ∧ u = .int .i64 i ∧ o = .int .u64 X ∧ Hid (X = mov 4 bs a n % 2 ^ i)) (fun _ u _ => bs - (intOf u).toNat)
  case atStart => exact ⟨0, 0, by omega, rfl, rfl, Lib.hid (by simp)⟩
  case round =>
    obtain ⟨i, X, hi, rfl, rfl, HX⟩ := hrel
    by_cases hlt : i < bs
    · by_cases hc : i + n < bs
      · have em : ((i : Int) + n + bs) % bs = (i : Int) + n := by rw [Int.add_emod_right]; exact Int.emod_eq_of_lt (by omega) (by omega)
        have hbit : mov 4 bs a n / 2 ^ i % 2 = a / 2 ^ (i + n) % 2 := mov4_lo a hn hc
        rcases (show a / 2 ^ (i + n) % 2 = 1 ∨ a / 2 ^ (i + n) % 2 = 0 by omega) with hx | hx
        · have ci : ∀ w, Calls Tryd.prog 50 #[.int .u64 a, .int .i64 ((i : Int) + n)] w fun e w' => e = .returned (.int .i64 1) ∧ w = w' := fun w => by
            have h := num_bit a (i + n) (by omega) w
            rwa [hx, show ((i + n : Nat) : Int) = (i : Int) + n by omega] at h
          have HB := Lib.hid (hbit.trans hx)
          clear hx hbit
          go_wp2_with (go_at_call 50; (with_reducible refine (ci _).mono ?_); rintro e w' ⟨rfl, rfl⟩)
          go_round
          case rel => exact ⟨i + 1, _, by omega, by go_num, rfl, Lib.hid (or_pow2 (by omega) HX.out HB.out)⟩
          case measure => simp [intOf]; omega
        · have ci : ∀ w, Calls Tryd.prog 50 #[.int .u64 a, .int .i64 ((i : Int) + n)] w fun e w' => e = .returned (.int .i64 0) ∧ w = w' := fun w => by
            have h := num_bit a (i + n) (by omega) w
            rwa [hx, show ((i + n : Nat) : Int) = (i : Int) + n by omega] at h
          have HB := Lib.hid (hbit.trans hx)
          clear hx hbit
          go_wp2_with (go_at_call 50; (with_reducible refine (ci _).mono ?_); rintro e w' ⟨rfl, rfl⟩)
          go_round
          case rel => exact ⟨i + 1, _, by omega, by go_num, rfl, Lib.hid (skip_pow2 HX.out HB.out)⟩
          case measure => simp [intOf]; omega
      · have em : ((i : Int) + n + bs) % bs = (i : Int) + n - bs := by rw [Int.add_emod_right, ← Int.sub_emod_right]; exact Int.emod_eq_of_lt (by omega) (by omega)
        have hbit : mov 4 bs a n / 2 ^ i % 2 = a / 2 ^ (i + n - bs) % 2 := mov4_hi a ha0 HA.out hn hlt (by omega)
        rcases (show a / 2 ^ (i + n - bs) % 2 = 1 ∨ a / 2 ^ (i + n - bs) % 2 = 0 by omega) with hx | hx
        · have ci : ∀ w, Calls Tryd.prog 50 #[.int .u64 a, .int .i64 ((i : Int) + n - bs)] w fun e w' => e = .returned (.int .i64 1) ∧ w = w' := fun w => by
            have h := num_bit a (i + n - bs) (by omega) w
            rwa [hx, show ((i + n - bs : Nat) : Int) = (i : Int) + n - bs by omega] at h
          have HB := Lib.hid (hbit.trans hx)
          clear hx hbit
          go_wp2_with (go_at_call 50; (with_reducible refine (ci _).mono ?_); rintro e w' ⟨rfl, rfl⟩)
          go_round
          case rel => exact ⟨i + 1, _, by omega, by go_num, rfl, Lib.hid (or_pow2 (by omega) HX.out HB.out)⟩
          case measure => simp [intOf]; omega
        · have ci : ∀ w, Calls Tryd.prog 50 #[.int .u64 a, .int .i64 ((i : Int) + n - bs)] w fun e w' => e = .returned (.int .i64 0) ∧ w = w' := fun w => by
            have h := num_bit a (i + n - bs) (by omega) w
            rwa [hx, show ((i + n - bs : Nat) : Int) = (i : Int) + n - bs by omega] at h
          have HB := Lib.hid (hbit.trans hx)
          clear hx hbit
          go_wp2_with (go_at_call 50; (with_reducible refine (ci _).mono ?_); rintro e w' ⟨rfl, rfl⟩)
          go_round
          case rel => exact ⟨i + 1, _, by omega, by go_num, rfl, Lib.hid (skip_pow2 HX.out HB.out)⟩
          case measure => simp [intOf]; omega
    · obtain rfl : i = bs := by omega
      go_wp2
      go_ret
      exact ⟨ret_int (by rw [HR.out, HX.out]; exact Int.emod_eq_of_lt HM.out.1 HM.out.2), rfl⟩
end Go.Proofs.YtfbgejgapdpjcaaDoor
