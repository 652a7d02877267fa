/-
  Package num's own parts: what is made of two numbers, walked. Contracts that the proofs call; no statement is proved here.
-/
import Derived.Test.YtfbgejgapdpjcaaDoorNumMoved
namespace Go.Proofs.YtfbgejgapdpjcaaDoor
open Go.RowKit

theorem bv32 {n : Nat} (h : n < 4294967296) : (BitVec.ofInt 32 (n : Int)).toNat = n := by
  rw [BitVec.ofInt_natCast, BitVec.toNat_ofNat]; exact Nat.mod_eq_of_lt (by omega)
theorem and_less32 {a b : Int} (ha0 : 0 ≤ a) (ha1 : a < 4294967296) (hb0 : 0 ≤ b) (hb1 : b < 4294967296) : bits .and .u64 a b = bits .and .u32 a b := by
  obtain ⟨x, rfl⟩ := Int.eq_ofNat_of_zero_le ha0
  obtain ⟨y, rfl⟩ := Int.eq_ofNat_of_zero_le hb0
  rw [bits_and_u64_nat x y (by omega) (by omega), bits_and_u32_nat x y (by omega) (by omega)]
theorem or_less32 {a b : Int} (ha0 : 0 ≤ a) (ha1 : a < 4294967296) (hb0 : 0 ≤ b) (hb1 : b < 4294967296) : bits .or .u64 a b = bits .or .u32 a b := by
  obtain ⟨x, rfl⟩ := Int.eq_ofNat_of_zero_le ha0
  obtain ⟨y, rfl⟩ := Int.eq_ofNat_of_zero_le hb0
  have hx : x ||| y < 2 ^ 32 := Nat.or_lt_two_pow (by omega) (by omega)
  rw [bits_or_u64_nat x y (by omega) (by omega)]
  show _ = IntKind.u32.wrap ((BitVec.ofInt 32 (x : Int) ||| BitVec.ofInt 32 (y : Int)).toNat : Int)
  rw [BitVec.toNat_or, bv32 (by omega), bv32 (by omega), IntKind.wrap_u32]
  omega
theorem xor_less32 {a b : Int} (ha0 : 0 ≤ a) (ha1 : a < 4294967296) (hb0 : 0 ≤ b) (hb1 : b < 4294967296) : bits .xor .u64 a b = bits .xor .u32 a b := by
  obtain ⟨x, rfl⟩ := Int.eq_ofNat_of_zero_le ha0
  obtain ⟨y, rfl⟩ := Int.eq_ofNat_of_zero_le hb0
  have hx : x ^^^ y < 2 ^ 32 := Nat.xor_lt_two_pow (by omega) (by omega)
  rw [bits_xor_u64_nat x y (by omega) (by omega)]
  show _ = IntKind.u32.wrap ((BitVec.ofInt 32 (x : Int) ^^^ BitVec.ofInt 32 (y : Int)).toNat : Int)
  rw [BitVec.toNat_xor, bv32 (by omega), bv32 (by omega), IntKind.wrap_u32]
  omega

set_option maxHeartbeats 2000000 in
theorem code_made32 (k a b : Int) (hk0 : 0 ≤ k) (hk1 : k ≤ 14) (ha0 : 0 ≤ a) (ha1 : a < 4294967296) (hb0 : 0 ≤ b) (hb1 : b < 4294967296) (w : World) :
    Calls Tryd.prog 28 #[.int .i64 k, .int .u32 a, .int .u32 b] w fun e w' => e = .returned (.tuple #[.int .u32 (twoK (k + 10) 32 a b).1, .int .i64 (twoK (k + 10) 32 a b).2]) ∧ w = w' := by
  obtain rfl | rfl | rfl | rfl | rfl | rfl | rfl | rfl | rfl | rfl | rfl | rfl | rfl | rfl | rfl : k = 0 ∨ k = 1 ∨ k = 2 ∨ k = 3 ∨ k = 4 ∨ k = 5 ∨ k = 6 ∨ k = 7 ∨ k = 8 ∨ k = 9 ∨ k = 10 ∨ k = 11 ∨ k = 12 ∨ k = 13 ∨ k = 14 := by omega
  · have e : twoK (0 + 10) 32 a b = ((a + b) % 4294967296, 0) := rfl
    rw [e]
    go_enter Tryd.func28, Tryd.ntmps28
    go_wp2
    go_ret2
    exact ⟨rfl, rfl⟩
  · have e : twoK (1 + 10) 32 a b = ((a - b) % 4294967296, 0) := rfl
    rw [e]
    go_enter Tryd.func28, Tryd.ntmps28
    go_wp2
    go_ret2
    exact ⟨rfl, rfl⟩
  · have e : twoK (2 + 10) 32 a b = (a * b % 4294967296, 0) := rfl
    rw [e]
    go_enter Tryd.func28, Tryd.ntmps28
    go_wp2
    go_ret2
    exact ⟨rfl, rfl⟩
  · have e : twoK (3 + 10) 32 a b = dvd 0 32 a b := rfl
    rw [e]
    have c : ∀ w, Calls Tryd.prog 51 #[.int .i64 3, .int .u32 a, .int .u32 b] w fun e w' => e = .returned (.tuple #[.int .u32 (dvd 0 32 a b).1, .int .i64 (dvd 0 32 a b).2]) ∧ w = w' := code_divided32 0 a b (by decide) (by decide) ha0 ha1 hb0 hb1
    generalize dvd 0 32 a b = r at c ⊢
    go_enter Tryd.func28, Tryd.ntmps28
    go_wp2_with (go_at_call 51; (with_reducible refine (c _).mono ?_); rintro e w' ⟨rfl, rfl⟩)
    go_ret2
    exact ⟨rfl, rfl⟩
  · have e : twoK (4 + 10) 32 a b = dvd 1 32 a b := rfl
    rw [e]
    have c : ∀ w, Calls Tryd.prog 51 #[.int .i64 4, .int .u32 a, .int .u32 b] w fun e w' => e = .returned (.tuple #[.int .u32 (dvd 1 32 a b).1, .int .i64 (dvd 1 32 a b).2]) ∧ w = w' := code_divided32 1 a b (by decide) (by decide) ha0 ha1 hb0 hb1
    generalize dvd 1 32 a b = r at c ⊢
    go_enter Tryd.func28, Tryd.ntmps28
    go_wp2_with (go_at_call 51; (with_reducible refine (c _).mono ?_); rintro e w' ⟨rfl, rfl⟩)
    go_ret2
    exact ⟨rfl, rfl⟩
  · have e : twoK (5 + 10) 32 a b = dvd 2 32 a b := rfl
    rw [e]
    have c : ∀ w, Calls Tryd.prog 51 #[.int .i64 5, .int .u32 a, .int .u32 b] w fun e w' => e = .returned (.tuple #[.int .u32 (dvd 2 32 a b).1, .int .i64 (dvd 2 32 a b).2]) ∧ w = w' := code_divided32 2 a b (by decide) (by decide) ha0 ha1 hb0 hb1
    generalize dvd 2 32 a b = r at c ⊢
    go_enter Tryd.func28, Tryd.ntmps28
    go_wp2_with (go_at_call 51; (with_reducible refine (c _).mono ?_); rintro e w' ⟨rfl, rfl⟩)
    go_ret2
    exact ⟨rfl, rfl⟩
  · have e : twoK (6 + 10) 32 a b = dvd 3 32 a b := rfl
    rw [e]
    have c : ∀ w, Calls Tryd.prog 51 #[.int .i64 6, .int .u32 a, .int .u32 b] w fun e w' => e = .returned (.tuple #[.int .u32 (dvd 3 32 a b).1, .int .i64 (dvd 3 32 a b).2]) ∧ w = w' := code_divided32 3 a b (by decide) (by decide) ha0 ha1 hb0 hb1
    generalize dvd 3 32 a b = r at c ⊢
    go_enter Tryd.func28, Tryd.ntmps28
    go_wp2_with (go_at_call 51; (with_reducible refine (c _).mono ?_); rintro e w' ⟨rfl, rfl⟩)
    go_ret2
    exact ⟨rfl, rfl⟩
  · have e : twoK (7 + 10) 32 a b = (bits .and .u32 a b, 0) := by rw [← and_less32 ha0 ha1 hb0 hb1]; rfl
    rw [e]
    go_enter Tryd.func28, Tryd.ntmps28
    go_wp2
    go_ret2
    exact ⟨rfl, rfl⟩
  · have e : twoK (8 + 10) 32 a b = (bits .or .u32 a b, 0) := by rw [← or_less32 ha0 ha1 hb0 hb1]; rfl
    rw [e]
    go_enter Tryd.func28, Tryd.ntmps28
    go_wp2
    go_ret2
    exact ⟨rfl, rfl⟩
  · have e : twoK (9 + 10) 32 a b = (bits .xor .u32 a b, 0) := by rw [← xor_less32 ha0 ha1 hb0 hb1]; rfl
    rw [e]
    go_enter Tryd.func28, Tryd.ntmps28
    go_wp2
    go_ret2
    exact ⟨rfl, rfl⟩
  · have e : twoK (10 + 10) 32 a b = (mov 0 32 a (b % 32).toNat, 0) := rfl
    rw [e]
    have c : ∀ w, Calls Tryd.prog 52 #[.int .i64 10, .int .u32 a, .int .u32 b] w fun e w' => e = .returned (.int .u32 (mov 0 32 a (b % 32).toNat)) ∧ w = w' := code_moved32 0 a b (b % 32).toNat (by decide) (by decide) ha0 ha1 hb0 hb1 (by omega)
    generalize mov 0 32 a (b % 32).toNat = r at c ⊢
    go_enter Tryd.func28, Tryd.ntmps28
    go_wp2_with (go_at_call 52; (with_reducible refine (c _).mono ?_); rintro e w' ⟨rfl, rfl⟩)
    go_ret2
    exact ⟨rfl, rfl⟩
  · have e : twoK (11 + 10) 32 a b = (mov 1 32 a (b % 32).toNat, 0) := rfl
    rw [e]
    have c : ∀ w, Calls Tryd.prog 52 #[.int .i64 11, .int .u32 a, .int .u32 b] w fun e w' => e = .returned (.int .u32 (mov 1 32 a (b % 32).toNat)) ∧ w = w' := code_moved32 1 a b (b % 32).toNat (by decide) (by decide) ha0 ha1 hb0 hb1 (by omega)
    generalize mov 1 32 a (b % 32).toNat = r at c ⊢
    go_enter Tryd.func28, Tryd.ntmps28
    go_wp2_with (go_at_call 52; (with_reducible refine (c _).mono ?_); rintro e w' ⟨rfl, rfl⟩)
    go_ret2
    exact ⟨rfl, rfl⟩
  · have e : twoK (12 + 10) 32 a b = (mov 2 32 a (b % 32).toNat, 0) := rfl
    rw [e]
    have c : ∀ w, Calls Tryd.prog 52 #[.int .i64 12, .int .u32 a, .int .u32 b] w fun e w' => e = .returned (.int .u32 (mov 2 32 a (b % 32).toNat)) ∧ w = w' := code_moved32 2 a b (b % 32).toNat (by decide) (by decide) ha0 ha1 hb0 hb1 (by omega)
    generalize mov 2 32 a (b % 32).toNat = r at c ⊢
    go_enter Tryd.func28, Tryd.ntmps28
    go_wp2_with (go_at_call 52; (with_reducible refine (c _).mono ?_); rintro e w' ⟨rfl, rfl⟩)
    go_ret2
    exact ⟨rfl, rfl⟩
  · have e : twoK (13 + 10) 32 a b = (mov 3 32 a (b % 32).toNat, 0) := rfl
    rw [e]
    have c : ∀ w, Calls Tryd.prog 52 #[.int .i64 13, .int .u32 a, .int .u32 b] w fun e w' => e = .returned (.int .u32 (mov 3 32 a (b % 32).toNat)) ∧ w = w' := code_moved32 3 a b (b % 32).toNat (by decide) (by decide) ha0 ha1 hb0 hb1 (by omega)
    generalize mov 3 32 a (b % 32).toNat = r at c ⊢
    go_enter Tryd.func28, Tryd.ntmps28
    go_wp2_with (go_at_call 52; (with_reducible refine (c _).mono ?_); rintro e w' ⟨rfl, rfl⟩)
    go_ret2
    exact ⟨rfl, rfl⟩
  · have e : twoK (14 + 10) 32 a b = (mov 4 32 a (b % 32).toNat, 0) := rfl
    rw [e]
    have c : ∀ w, Calls Tryd.prog 52 #[.int .i64 14, .int .u32 a, .int .u32 b] w fun e w' => e = .returned (.int .u32 (mov 4 32 a (b % 32).toNat)) ∧ w = w' := code_moved32 4 a b (b % 32).toNat (by decide) (by decide) ha0 ha1 hb0 hb1 (by omega)
    generalize mov 4 32 a (b % 32).toNat = r at c ⊢
    go_enter Tryd.func28, Tryd.ntmps28
    go_wp2_with (go_at_call 52; (with_reducible refine (c _).mono ?_); rintro e w' ⟨rfl, rfl⟩)
    go_ret2
    exact ⟨rfl, rfl⟩

set_option maxHeartbeats 2000000 in
theorem code_made64 (k a b : Int) (hk0 : 0 ≤ k) (hk1 : k ≤ 14) (ha0 : 0 ≤ a) (ha1 : a < 18446744073709551616) (hb0 : 0 ≤ b) (hb1 : b < 18446744073709551616) (w : World) :
    Calls Tryd.prog 29 #[.int .i64 k, .int .u64 a, .int .u64 b] w fun e w' => e = .returned (.tuple #[.int .u64 (twoK (k + 10) 64 a b).1, .int .i64 (twoK (k + 10) 64 a b).2]) ∧ w = w' := by
  obtain rfl | rfl | rfl | rfl | rfl | rfl | rfl | rfl | rfl | rfl | rfl | rfl | rfl | rfl | rfl : k = 0 ∨ k = 1 ∨ k = 2 ∨ k = 3 ∨ k = 4 ∨ k = 5 ∨ k = 6 ∨ k = 7 ∨ k = 8 ∨ k = 9 ∨ k = 10 ∨ k = 11 ∨ k = 12 ∨ k = 13 ∨ k = 14 := by omega
  · have e : twoK (0 + 10) 64 a b = ((a + b) % 18446744073709551616, 0) := rfl
    rw [e]
    have wr := IntKind.wrap_u64 (a + b)
    go_enter Tryd.func29, Tryd.ntmps29
    go_wp2
    go_ret2
    exact ⟨rfl, rfl⟩
  · have e : twoK (1 + 10) 64 a b = ((a - b) % 18446744073709551616, 0) := rfl
    rw [e]
    have wr := IntKind.wrap_u64 (a - b)
    go_enter Tryd.func29, Tryd.ntmps29
    go_wp2
    go_ret2
    exact ⟨rfl, rfl⟩
  · have e : twoK (2 + 10) 64 a b = (a * b % 18446744073709551616, 0) := rfl
    rw [e]
    have wr := IntKind.wrap_u64 (a * b)
    go_enter Tryd.func29, Tryd.ntmps29
    go_wp2
    go_ret2
    exact ⟨rfl, rfl⟩
  · have e : twoK (3 + 10) 64 a b = dvd 0 64 a b := rfl
    rw [e]
    have c : ∀ w, Calls Tryd.prog 53 #[.int .i64 3, .int .u64 a, .int .u64 b] w fun e w' => e = .returned (.tuple #[.int .u64 (dvd 0 64 a b).1, .int .i64 (dvd 0 64 a b).2]) ∧ w = w' := code_divided64 0 a b (by decide) (by decide) ha0 ha1 hb0 hb1
    generalize dvd 0 64 a b = r at c ⊢
    go_enter Tryd.func29, Tryd.ntmps29
    go_wp2_with (go_at_call 53; (with_reducible refine (c _).mono ?_); rintro e w' ⟨rfl, rfl⟩)
    go_ret2
    exact ⟨rfl, rfl⟩
  · have e : twoK (4 + 10) 64 a b = dvd 1 64 a b := rfl
    rw [e]
    have c : ∀ w, Calls Tryd.prog 53 #[.int .i64 4, .int .u64 a, .int .u64 b] w fun e w' => e = .returned (.tuple #[.int .u64 (dvd 1 64 a b).1, .int .i64 (dvd 1 64 a b).2]) ∧ w = w' := code_divided64 1 a b (by decide) (by decide) ha0 ha1 hb0 hb1
    generalize dvd 1 64 a b = r at c ⊢
    go_enter Tryd.func29, Tryd.ntmps29
    go_wp2_with (go_at_call 53; (with_reducible refine (c _).mono ?_); rintro e w' ⟨rfl, rfl⟩)
    go_ret2
    exact ⟨rfl, rfl⟩
  · have e : twoK (5 + 10) 64 a b = dvd 2 64 a b := rfl
    rw [e]
    have c : ∀ w, Calls Tryd.prog 53 #[.int .i64 5, .int .u64 a, .int .u64 b] w fun e w' => e = .returned (.tuple #[.int .u64 (dvd 2 64 a b).1, .int .i64 (dvd 2 64 a b).2]) ∧ w = w' := code_divided64 2 a b (by decide) (by decide) ha0 ha1 hb0 hb1
    generalize dvd 2 64 a b = r at c ⊢
    go_enter Tryd.func29, Tryd.ntmps29
    go_wp2_with (go_at_call 53; (with_reducible refine (c _).mono ?_); rintro e w' ⟨rfl, rfl⟩)
    go_ret2
    exact ⟨rfl, rfl⟩
  · have e : twoK (6 + 10) 64 a b = dvd 3 64 a b := rfl
    rw [e]
    have c : ∀ w, Calls Tryd.prog 53 #[.int .i64 6, .int .u64 a, .int .u64 b] w fun e w' => e = .returned (.tuple #[.int .u64 (dvd 3 64 a b).1, .int .i64 (dvd 3 64 a b).2]) ∧ w = w' := code_divided64 3 a b (by decide) (by decide) ha0 ha1 hb0 hb1
    generalize dvd 3 64 a b = r at c ⊢
    go_enter Tryd.func29, Tryd.ntmps29
    go_wp2_with (go_at_call 53; (with_reducible refine (c _).mono ?_); rintro e w' ⟨rfl, rfl⟩)
    go_ret2
    exact ⟨rfl, rfl⟩
  · have e : twoK (7 + 10) 64 a b = (bits .and .u64 a b, 0) := rfl
    rw [e]
    go_enter Tryd.func29, Tryd.ntmps29
    go_wp2
    go_ret2
    exact ⟨rfl, rfl⟩
  · have e : twoK (8 + 10) 64 a b = (bits .or .u64 a b, 0) := rfl
    rw [e]
    go_enter Tryd.func29, Tryd.ntmps29
    go_wp2
    go_ret2
    exact ⟨rfl, rfl⟩
  · have e : twoK (9 + 10) 64 a b = (bits .xor .u64 a b, 0) := rfl
    rw [e]
    go_enter Tryd.func29, Tryd.ntmps29
    go_wp2
    go_ret2
    exact ⟨rfl, rfl⟩
  · have e : twoK (10 + 10) 64 a b = (mov 0 64 a (b % 64).toNat, 0) := rfl
    rw [e]
    have c : ∀ w, Calls Tryd.prog 54 #[.int .i64 10, .int .u64 a, .int .u64 b] w fun e w' => e = .returned (.int .u64 (mov 0 64 a (b % 64).toNat)) ∧ w = w' := code_moved64 0 a b (b % 64).toNat (by decide) (by decide) ha0 ha1 hb0 hb1 (by omega)
    generalize mov 0 64 a (b % 64).toNat = r at c ⊢
    go_enter Tryd.func29, Tryd.ntmps29
    go_wp2_with (go_at_call 54; (with_reducible refine (c _).mono ?_); rintro e w' ⟨rfl, rfl⟩)
    go_ret2
    exact ⟨rfl, rfl⟩
  · have e : twoK (11 + 10) 64 a b = (mov 1 64 a (b % 64).toNat, 0) := rfl
    rw [e]
    have c : ∀ w, Calls Tryd.prog 54 #[.int .i64 11, .int .u64 a, .int .u64 b] w fun e w' => e = .returned (.int .u64 (mov 1 64 a (b % 64).toNat)) ∧ w = w' := code_moved64 1 a b (b % 64).toNat (by decide) (by decide) ha0 ha1 hb0 hb1 (by omega)
    generalize mov 1 64 a (b % 64).toNat = r at c ⊢
    go_enter Tryd.func29, Tryd.ntmps29
    go_wp2_with (go_at_call 54; (with_reducible refine (c _).mono ?_); rintro e w' ⟨rfl, rfl⟩)
    go_ret2
    exact ⟨rfl, rfl⟩
  · have e : twoK (12 + 10) 64 a b = (mov 2 64 a (b % 64).toNat, 0) := rfl
    rw [e]
    have c : ∀ w, Calls Tryd.prog 54 #[.int .i64 12, .int .u64 a, .int .u64 b] w fun e w' => e = .returned (.int .u64 (mov 2 64 a (b % 64).toNat)) ∧ w = w' := code_moved64 2 a b (b % 64).toNat (by decide) (by decide) ha0 ha1 hb0 hb1 (by omega)
    generalize mov 2 64 a (b % 64).toNat = r at c ⊢
    go_enter Tryd.func29, Tryd.ntmps29
    go_wp2_with (go_at_call 54; (with_reducible refine (c _).mono ?_); rintro e w' ⟨rfl, rfl⟩)
    go_ret2
    exact ⟨rfl, rfl⟩
  · have e : twoK (13 + 10) 64 a b = (mov 3 64 a (b % 64).toNat, 0) := rfl
    rw [e]
    have c : ∀ w, Calls Tryd.prog 54 #[.int .i64 13, .int .u64 a, .int .u64 b] w fun e w' => e = .returned (.int .u64 (mov 3 64 a (b % 64).toNat)) ∧ w = w' := code_moved64 3 a b (b % 64).toNat (by decide) (by decide) ha0 ha1 hb0 hb1 (by omega)
    generalize mov 3 64 a (b % 64).toNat = r at c ⊢
    go_enter Tryd.func29, Tryd.ntmps29
    go_wp2_with (go_at_call 54; (with_reducible refine (c _).mono ?_); rintro e w' ⟨rfl, rfl⟩)
    go_ret2
    exact ⟨rfl, rfl⟩
  · have e : twoK (14 + 10) 64 a b = (mov 4 64 a (b % 64).toNat, 0) := rfl
    rw [e]
    have c : ∀ w, Calls Tryd.prog 54 #[.int .i64 14, .int .u64 a, .int .u64 b] w fun e w' => e = .returned (.int .u64 (mov 4 64 a (b % 64).toNat)) ∧ w = w' := code_moved64 4 a b (b % 64).toNat (by decide) (by decide) ha0 ha1 hb0 hb1 (by omega)
    generalize mov 4 64 a (b % 64).toNat = r at c ⊢
    go_enter Tryd.func29, Tryd.ntmps29
    go_wp2_with (go_at_call 54; (with_reducible refine (c _).mono ?_); rintro e w' ⟨rfl, rfl⟩)
    go_ret2
    exact ⟨rfl, rfl⟩
end Go.Proofs.YtfbgejgapdpjcaaDoor
