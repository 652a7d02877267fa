/-
  Package num's own parts: a number moved, and turned, walked. Contracts that the proofs call; no statement is proved here.
-/
import Derived.Test.YtfbgejgapdpjcaaDoorNumDivided
import Derived.Test.YtfbgejgapdpjcaaDoorNumZeros
import Derived.Test.YtfbgejgapdpjcaaDoorNumMov
namespace Go.Proofs.YtfbgejgapdpjcaaDoor
open Go.RowKit

theorem pow_pos2 (n : Nat) : (0 : Int) < 2 ^ n := Int.pow_pos (by decide)
theorem bits_or_swap (K : IntKind) (a b : Int) : bits .or K a b = bits .or K b a := by
  show K.wrap ((BitVec.ofInt _ a ||| BitVec.ofInt _ b).toNat : Nat) = K.wrap ((BitVec.ofInt _ b ||| BitVec.ofInt _ a).toNat : Nat)
  rw [BitVec.or_comm]
theorem div_low {a : Int} {bs n : Nat} (h1 : a < 2 ^ bs) (hn : n ≤ bs) : a / 2 ^ (bs - n) < 2 ^ n := by
  refine Int.ediv_lt_of_lt_mul (pow_pos2 _) ?_
  rw [← Int.pow_add, show n + (bs - n) = bs by omega]; exact h1
theorem mul_low {n bs : Nat} (a : Int) (h : n ≤ bs) : a * 2 ^ n % 2 ^ bs % 2 ^ n = 0 := by
  have hd : ((2 ^ n : Nat) : Int) ∣ ((2 ^ bs : Nat) : Int) := by exact_mod_cast Nat.pow_dvd_pow 2 h
  rw [Int.natCast_pow, Int.natCast_pow] at hd
  have e : a * 2 ^ n % 2 ^ bs % 2 ^ n = a * 2 ^ n % 2 ^ n := Int.emod_emod_of_dvd _ hd
  rw [e, Int.mul_emod_left]
theorem or_rot3 (K : IntKind) (hw : ∀ a b : Int, a % ((2 ^ K.bits : Nat) : Int) = b % ((2 ^ K.bits : Nat) : Int) → K.wrap a = K.wrap b) {a : Int} {bs n : Nat} (hK : K.bits = bs) (hin : ∀ {x : Int}, 0 ≤ x ∧ x < 2 ^ bs → K.wrap x = x)
    (ha0 : 0 ≤ a) (ha1 : a < 2 ^ bs) (hn : n < bs) : bits .or K (a * 2 ^ n % 2 ^ bs) (a / 2 ^ (bs - n)) = mov 3 bs a n := by
  rw [bits_or_swap, or_add K hw n (by omega) _ _ (Int.ediv_nonneg ha0 (Int.le_of_lt (pow_pos2 _))) (div_low ha1 (by omega)) (mul_low a (by omega)), Int.add_comm]
  exact hin (mov_bd (kind := 3) (bs := bs) (n := n) (by decide) ha0 ha1 (by omega))
theorem or_rot4 (K : IntKind) (hw : ∀ a b : Int, a % ((2 ^ K.bits : Nat) : Int) = b % ((2 ^ K.bits : Nat) : Int) → K.wrap a = K.wrap b) {a : Int} {bs n : Nat} (hK : K.bits = bs) (hin : ∀ {x : Int}, 0 ≤ x ∧ x < 2 ^ bs → K.wrap x = x)
    (ha0 : 0 ≤ a) (ha1 : a < 2 ^ bs) (hn : n < bs) : bits .or K (a / 2 ^ n) (a * 2 ^ (bs - n) % 2 ^ bs) = mov 4 bs a n := by
  have h := div_low (bs := bs) (n := bs - n) ha1 (by omega)
  rw [show bs - (bs - n) = n by omega] at h
  rw [or_add K hw (bs - n) (by omega) _ _ (Int.ediv_nonneg ha0 (Int.le_of_lt (pow_pos2 _))) h (mul_low a (by omega))]
  exact hin (mov_bd (kind := 4) (bs := bs) (n := n) (by decide) ha0 ha1 (by omega))
theorem wrap_in32 {x : Int} (h : 0 ≤ x ∧ x < 4294967296) : IntKind.u32.wrap x = x := by rw [IntKind.wrap_u32]; omega
theorem wrap_in64 {x : Int} (h : 0 ≤ x ∧ x < 18446744073709551616) : IntKind.u64.wrap x = x := by rw [IntKind.wrap_u64]; omega
theorem or_rot3_32 {a : Int} {n : Nat} (ha0 : 0 ≤ a) (ha1 : a < 4294967296) (hn : n < 32) : bits .or .u32 (a * 2 ^ n % 4294967296) (a / 2 ^ (32 - n)) = mov 3 32 a n := by
  have e : (2 : Int) ^ 32 = 4294967296 := by decide
  have h := or_rot3 .u32 wr_u32 (bs := 32) (a := a) (n := n) rfl (fun {x} hx => wrap_in32 (by rwa [e] at hx)) ha0 (by rw [e]; exact ha1) hn
  rwa [e] at h
theorem or_rot4_32 {a : Int} {n : Nat} (ha0 : 0 ≤ a) (ha1 : a < 4294967296) (hn : n < 32) : bits .or .u32 (a / 2 ^ n) (a * 2 ^ (32 - n) % 4294967296) = mov 4 32 a n := by
  have e : (2 : Int) ^ 32 = 4294967296 := by decide
  have h := or_rot4 .u32 wr_u32 (bs := 32) (a := a) (n := n) rfl (fun {x} hx => wrap_in32 (by rwa [e] at hx)) ha0 (by rw [e]; exact ha1) hn
  rwa [e] at h
theorem or_rot3_64 {a : Int} {n : Nat} (ha0 : 0 ≤ a) (ha1 : a < 18446744073709551616) (hn : n < 64) : bits .or .u64 (a * 2 ^ n % 18446744073709551616) (a / 2 ^ (64 - n)) = mov 3 64 a n := by
  have e : (2 : Int) ^ 64 = 18446744073709551616 := by decide
  have h := or_rot3 .u64 wr_u64 (bs := 64) (a := a) (n := n) rfl (fun {x} hx => wrap_in64 (by rwa [e] at hx)) ha0 (by rw [e]; exact ha1) hn
  rwa [e] at h
theorem or_rot4_64 {a : Int} {n : Nat} (ha0 : 0 ≤ a) (ha1 : a < 18446744073709551616) (hn : n < 64) : bits .or .u64 (a / 2 ^ n) (a * 2 ^ (64 - n) % 18446744073709551616) = mov 4 64 a n := by
  have e : (2 : Int) ^ 64 = 18446744073709551616 := by decide
  have h := or_rot4 .u64 wr_u64 (bs := 64) (a := a) (n := n) rfl (fun {x} hx => wrap_in64 (by rwa [e] at hx)) ha0 (by rw [e]; exact ha1) hn
  rwa [e] at h
theorem ret_num {k : IntKind} {a b : Int} (h : a = b) : Ending.returned (.int k a) = .returned (.int k b) := by rw [h]

set_option maxHeartbeats 1000000 in
theorem code_moved32 (k a b : Int) (n : Nat) (hk0 : 0 ≤ k) (hk1 : k ≤ 4) (ha0 : 0 ≤ a) (ha1 : a < 4294967296) (hb0 : 0 ≤ b) (hb1 : b < 4294967296) (hn : b % 32 = n) (w : World) :
    Calls Tryd.prog 52 #[.int .i64 (k + 10), .int .u32 a, .int .u32 b] w fun e w' => e = .returned (.int .u32 (mov k 32 a n)) ∧ w = w' := by
  have c : ∀ w, Calls Tryd.prog 48 #[.int .u64 4294967295] w fun e w' => e = .returned (.int .i64 32) ∧ w = w' := fun w => by
    have h := lib_ones64 4294967295 (by decide) w
    have e : pcr 64 ((4294967295 : Nat) : Int) = 32 := by decide +kernel
    rw [e] at h
    exact h
  have hx : bits BinOp.xor IntKind.u32 IntKind.u32.max 0 = 4294967295 := by decide +kernel
  have hx2 : IntKind.u64.wrap (bits BinOp.xor IntKind.u32 IntKind.u32.max 0) = 4294967295 := by decide +kernel
  have hx3 : IntKind.u64.wrap 4294967295 = 4294967295 := by decide +kernel
  have hn1 : n < 32 := by omega
  obtain rfl | rfl | rfl | rfl | rfl : k = 0 ∨ k = 1 ∨ k = 2 ∨ k = 3 ∨ k = 4 := by omega
  all_goals
    (go_enter Tryd.func52, Tryd.ntmps52; go_wp2_with (go_at_call 48; (with_reducible refine (c _).mono ?_); rintro e w' ⟨rfl, rfl⟩); all_goals go_ret)
    refine ⟨ret_num ?_, rfl⟩
  all_goals clear c hx hx2 hx3
  · rfl
  · rw [wrap32_sgn ha0 ha1]; rfl
  · rfl
  · exact or_rot3_32 ha0 ha1 hn1
  · exact or_rot4_32 ha0 ha1 hn1

set_option maxHeartbeats 1000000 in
theorem code_moved64 (k a b : Int) (n : Nat) (hk0 : 0 ≤ k) (hk1 : k ≤ 4) (ha0 : 0 ≤ a) (ha1 : a < 18446744073709551616) (hb0 : 0 ≤ b) (hb1 : b < 18446744073709551616) (hn : b % 64 = n) (w : World) :
    Calls Tryd.prog 54 #[.int .i64 (k + 10), .int .u64 a, .int .u64 b] w fun e w' => e = .returned (.int .u64 (mov k 64 a n)) ∧ w = w' := by
  have c : ∀ w, Calls Tryd.prog 48 #[.int .u64 18446744073709551615] w fun e w' => e = .returned (.int .i64 64) ∧ w = w' := fun w => by
    have h := lib_ones64 18446744073709551615 (by decide) w
    have e : pcr 64 ((18446744073709551615 : Nat) : Int) = 64 := by decide +kernel
    rw [e] at h
    exact h
  have hx : bits BinOp.xor IntKind.u64 IntKind.u64.max 0 = 18446744073709551615 := by decide +kernel
  have hx2 : IntKind.u64.wrap (bits BinOp.xor IntKind.u64 IntKind.u64.max 0) = 18446744073709551615 := by decide +kernel
  have hx3 : IntKind.u64.wrap 18446744073709551615 = 18446744073709551615 := by decide +kernel
  have hn1 : n < 64 := by omega
  obtain rfl | rfl | rfl | rfl | rfl : k = 0 ∨ k = 1 ∨ k = 2 ∨ k = 3 ∨ k = 4 := by omega
  all_goals
    (go_enter Tryd.func54, Tryd.ntmps54; go_wp2_with (go_at_call 48; (with_reducible refine (c _).mono ?_); rintro e w' ⟨rfl, rfl⟩); all_goals go_ret)
    refine ⟨ret_num ?_, rfl⟩
  all_goals clear c hx hx2 hx3
  · simp only [IntKind.wrap_u64]; rfl
  · simp only [IntKind.wrap_u64]; rw [wrap64_sgn ha0 ha1]; rfl
  · rfl
  · simp only [IntKind.wrap_u64]; exact or_rot3_64 ha0 ha1 hn1
  · simp only [IntKind.wrap_u64]; exact or_rot4_64 ha0 ha1 hn1
end Go.Proofs.YtfbgejgapdpjcaaDoor
