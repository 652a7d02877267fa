/-
  The document's own answer to what is read with a sign: walked. A contract that the proofs call; no statement is proved here.
-/
import Derived.Test.YtoebkicmjglmcaaLebRefTake
namespace Go.Proofs.Ytoebkicmjglmcaa
open Go.RowKit

set_option maxRecDepth 100000 in
set_option maxHeartbeats 1000000 in
theorem ref_take_s (s : ByteArray) (a bs most k : Nat) (v : Int) (hs : s.size ≤ maxLen) (hb1 : 1 ≤ bs) (hbs : bs ≤ 64) (hm : most = (bs + 6) / 7) (hsz : szr most 0 (s.data.toList.drop a) = k) (hk1 : 1 ≤ k) (hk : k ≤ 10) (hak : a + k ≤ s.size)
    (hbit : ∀ i, i < 7 * k → bitOf (s.data.toList.drop a) i = v / 2 ^ i % 2) (lb : Int) (hlb : lb = 0 ∨ lb = 1) (hla : bitOf (s.data.toList.drop a) (7 * k - 1) = lb) (hov : ∀ i, 7 * k ≤ i → v / 2 ^ i % 2 = lb) (want : Int) (hwant : v / 2 ^ (bs - 1) % 2 = want) (w : World) :
    Calls Try.prog 25 #[.string s, .int .i64 a, .int .i64 bs, .bool true] w fun e w' => e = .returned (.tuple #[.int .u64 (takeOut (v % 2 ^ bs) ((a : Int) + k) (chk v want (7 * k - bs) bs)).1, .int .i64 (takeOut (v % 2 ^ bs) ((a : Int) + k) (chk v want (7 * k - bs) bs)).2.1, .int .i64 (takeOut (v % 2 ^ bs) ((a : Int) + k) (chk v want (7 * k - bs) bs)).2.2]) ∧ w = w' := by
  have c1 := ref_size s a most (by omega) hs (by omega)
  rw [hsz] at c1
  have em : ((bs : Int) + 6) / 7 = (most : Int) := by omega
  have hd1 : decide (s.size < a) = false := by simp; omega
  have cl : ∀ w, Calls Try.prog 31 #[.string s, .int .i64 a, .int .i64 (7 * (k : Int) - 1)] w fun e w' => e = .returned (.int .i64 (bitOf (s.data.toList.drop a) (7 * k - 1))) ∧ w = w' := fun w => by
    have h := ref_bit s a (7 * k - 1) (by omega) hs w
    rwa [show ((7 * k - 1 : Nat) : Int) = 7 * (k : Int) - 1 by omega] at h
  have cb : ∀ (i : Nat) (x : Int), i < 7 * k → v / 2 ^ i % 2 = x → ∀ w, Calls Try.prog 31 #[.string s, .int .i64 a, .int .i64 i] w fun e w' => e = .returned (.int .i64 x) ∧ w = w' := fun i x hi hx w => by
    have h := ref_bit s a i (by omega) hs w
    rwa [hbit i hi, hx] at h
  generalize hC : chk v want (7 * k - bs) bs = C
  rw [hla] at cl
  have HC : Hid (C = chk v want (7 * k - bs) bs) := Lib.hid hC.symm
  have CB := Lib.hid cb
  have HOV := Lib.hid hov
  have HW := Lib.hid hwant
  clear hC hsz hm hbit cb hov hla hwant
  unfold maxLen at hs
  have hkz : ((k : Int) == 0) = false := beq_eq_false_iff_ne.2 (by omega)
  go_enter Try.func25, Try.ntmps25
  go_wp2_with (first
    | (go_at_call 30; (with_reducible refine (c1 _).mono ?_); rintro e w' ⟨rfl, rfl⟩)
    | (go_at_call 31; (with_reducible refine (cl _).mono ?_); rintro e w' ⟨rfl, rfl⟩))
  clear c1 cl em
  go_loop [12, 14] (fun n u => ∃ (i : Nat) (X : Int), i ≤ bs ∧ u = .int .i64 i ∧ n = .int .u64 X ∧ Hid (X = v % 2 ^ i)) (fun _ u => bs - (intOf u).toNat)
  case atStart => exact ⟨0, 0, by omega, rfl, rfl, Lib.hid (by simp)⟩
  case round =>
    obtain ⟨i, X, hi, rfl, rfl, HX⟩ := hrel
    by_cases hlt : i < bs
    · by_cases h7 : i < 7 * k
      · rcases (show v / 2 ^ i % 2 = 1 ∨ v / 2 ^ i % 2 = 0 by omega) with hx | hx
        · have ci := CB.out i 1 h7 hx
          have HB := Lib.hid hx
          clear hx
          go_wp2_with (go_at_call 31; (with_reducible refine (ci _).mono ?_); rintro e w' ⟨rfl, rfl⟩)
          go_round
          case rel => exact ⟨i + 1, _, by omega, by go_num, rfl, Lib.hid (or_pow (by omega) HX.out HB.out)⟩
          case measure => simp [intOf]; omega
        · have ci := CB.out i 0 h7 hx
          have HB := Lib.hid hx
          clear hx
          go_wp2_with (go_at_call 31; (with_reducible refine (ci _).mono ?_); rintro e w' ⟨rfl, rfl⟩)
          go_round
          case rel => exact ⟨i + 1, _, by omega, by go_num, rfl, Lib.hid (skip_pow HX.out HB.out)⟩
          case measure => simp [intOf]; omega
      · rcases hlb with rfl | rfl
        · have HB := Lib.hid (HOV.out i (by omega))
          go_wp2
          go_round
          case rel => exact ⟨i + 1, _, by omega, by go_num, rfl, Lib.hid (skip_pow HX.out HB.out)⟩
          case measure => simp [intOf]; omega
        · have HB := Lib.hid (HOV.out i (by omega))
          go_wp2
          go_round
          case rel => exact ⟨i + 1, _, by omega, by go_num, rfl, Lib.hid (or_pow (by omega) HX.out HB.out)⟩
          case measure => simp [intOf]; omega
    · obtain rfl : i = bs := by omega
      have htop : X / 2 ^ (i - 1) = want := by
        have h := top_bit (v := v) (X := X) (n := i - 1) (by rw [show i - 1 + 1 = i by omega]; exact HX.out)
        rw [h, HW.out]
      have e1 : ((i : Int) - 1).toNat = i - 1 := by omega
      have hw01 : want = 0 ∨ want = 1 := by have := HW.out; omega
      have hand : bits .and .u64 want 1 = want := and_one_u want (by omega) (by omega)
      go_wp2
      go_loop [15, 16] (fun u _ => ∃ j : Nat, i ≤ j ∧ u = .int .i64 j ∧ Hid (C = chk v want (7 * k - j) j)) (fun u _ => 7 * k - (intOf u).toNat)
      case atStart => exact ⟨i, by omega, rfl, HC⟩
      case round =>
        clear HC
        obtain ⟨j, hj, rfl, HC⟩ := hrel
        by_cases h7 : j < 7 * k
        · rcases hw01 with rfl | rfl
          · rcases (show v / 2 ^ j % 2 = 1 ∨ v / 2 ^ j % 2 = 0 by omega) with hx | hx
            · have ci := CB.out j 1 h7 hx
              have HB := Lib.hid hx
              clear hx
              go_wp2_with (go_at_call 31; (with_reducible refine (ci _).mono ?_); rintro e w' ⟨rfl, rfl⟩)
              go_ret3
              have hv : C = false := by rw [HC.out]; exact chk_no (by omega) (by rw [HB.out]; decide)
              exact ⟨by rw [hv]; rfl, rfl⟩
            · have ci := CB.out j 0 h7 hx
              have HB := Lib.hid hx
              clear hx
              go_wp2_with (go_at_call 31; (with_reducible refine (ci _).mono ?_); rintro e w' ⟨rfl, rfl⟩)
              go_round
              case rel => exact ⟨j + 1, by omega, by go_num, Lib.hid (by rw [HC.out, chk_yes (by omega) HB.out]; rfl)⟩
              case measure => simp [intOf]; omega
          · rcases (show v / 2 ^ j % 2 = 1 ∨ v / 2 ^ j % 2 = 0 by omega) with hx | hx
            · have ci := CB.out j 1 h7 hx
              have HB := Lib.hid hx
              clear hx
              go_wp2_with (go_at_call 31; (with_reducible refine (ci _).mono ?_); rintro e w' ⟨rfl, rfl⟩)
              go_round
              case rel => exact ⟨j + 1, by omega, by go_num, Lib.hid (by rw [HC.out, chk_yes (by omega) HB.out]; rfl)⟩
              case measure => simp [intOf]; omega
            · have ci := CB.out j 0 h7 hx
              have HB := Lib.hid hx
              clear hx
              go_wp2_with (go_at_call 31; (with_reducible refine (ci _).mono ?_); rintro e w' ⟨rfl, rfl⟩)
              go_ret3
              have hv : C = false := by rw [HC.out]; exact chk_no (by omega) (by rw [HB.out]; decide)
              exact ⟨by rw [hv]; rfl, rfl⟩
        · have hv : Hid (C = true) := Lib.hid (by rw [HC.out, show 7 * k - j = 0 by omega]; rfl)
          go_wp2
          go_ret3
          exact ⟨by rw [hv.out, ← HX.out]; rfl, rfl⟩
end Go.Proofs.Ytoebkicmjglmcaa
