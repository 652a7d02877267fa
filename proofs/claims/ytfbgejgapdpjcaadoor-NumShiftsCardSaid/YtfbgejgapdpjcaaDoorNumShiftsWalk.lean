/-
  NumShifts, walked: moved right with its sign a number is divided by a power of two, towards below; moved left it is multiplied by it.
-/
import Derived.Test.YtfbgejgapdpjcaaDoorNumAddsWalk
namespace Go.Proofs.YtfbgejgapdpjcaaDoor
open Go.RowKit

theorem mov1_val {bs : Nat} (hbs : bs = 32 ∨ bs = 64) (x : Int) (n : Nat) (h0 : 0 ≤ x) (h1 : x < 2 ^ bs) : sgnv bs (mov 1 bs x n) = sgnv bs x / 2 ^ n := by
  have hp := pow2_pos n
  have hb : -(2 ^ (bs - 1)) ≤ sgnv bs x ∧ sgnv bs x < 2 ^ (bs - 1) := by
    rcases hbs with rfl | rfl <;> (unfold sgnv; simp at *; split <;> omega)
  have hq : -(2 ^ (bs - 1)) ≤ sgnv bs x / 2 ^ n ∧ sgnv bs x / 2 ^ n < 2 ^ (bs - 1) := by
    have h1p : (1 : Int) ≤ 2 ^ n := by omega
    have hpp := pow2_pos (bs - 1)
    constructor
    · apply Int.le_ediv_of_mul_le hp
      have : -(2 ^ (bs - 1)) * 2 ^ n ≤ -(2 ^ (bs - 1)) * 1 := Int.mul_le_mul_of_nonpos_left (by omega) h1p
      omega
    · by_cases hs : 0 ≤ sgnv bs x
      · have := Int.ediv_le_self (a := sgnv bs x) (2 ^ n) hs
        omega
      · have := Int.ediv_neg_of_neg_of_pos (a := sgnv bs x) (b := 2 ^ n) (by omega) hp
        omega
  have hm : mov 1 bs x n = sgnv bs x / 2 ^ n % 2 ^ bs := by unfold mov; rw [if_neg (by decide), if_pos rfl]
  rw [hm]
  generalize sgnv bs x / 2 ^ n = q at hq
  rcases hbs with rfl | rfl <;> (unfold sgnv; simp at *; split <;> omega)

theorem wrap64_sgnv {x : Int} (h0 : 0 ≤ x) (h1 : x < 18446744073709551616) : wrap64 x = sgnv 64 x := by unfold wrap64 sgnv; simp; split <;> omega
theorem wrap32_sgnv {x : Int} (h0 : 0 ≤ x) (h1 : x < 4294967296) : wrap32 x = sgnv 32 x := by unfold wrap32 sgnv; simp; split <;> omega

set_option maxRecDepth 100000 in
set_option maxHeartbeats 4000000 in
theorem numShifts_walk (a n : Int) (ha0 : 0 ≤ a) (ha1 : a ≤ 18446744073709551615) (hn0 : 0 ≤ n) (hn1 : n ≤ 255) (w : World) (hLaid : Laid w) :
    Calls Tryd.prog 11 #[.int .u64 a, .int .u8 n] w fun e w' => e = .returned (.bool true) ∧ Below w.heap.size w w' := by
  have hB := Below.refl w.heap.size w
  obtain ⟨k, hk⟩ : ∃ k : Nat, n % 64 = k := Int.eq_ofNat_of_zero_le (by omega)
  obtain ⟨j, hj⟩ : ∃ j : Nat, n % 32 = j := Int.eq_ofNat_of_zero_le (by omega)
  have hk2 : k < 64 := by omega
  have hj2 : j < 32 := by omega
  obtain ⟨x, hx⟩ : ∃ x, a % 4294967296 = x := ⟨_, rfl⟩
  have hx2 : 0 ≤ x ∧ x < 4294967296 := by omega
  have ekm : ((k : Int) % (64 : Nat)).toNat = k := by omega
  have ejm : ((j : Int) % (32 : Nat)).toNat = j := by omega
  have pk := pow2_pos k
  have pk2 : (2 : Int) ^ k ≤ 9223372036854775808 := by
    have h : (2 : Int) ^ k ≤ 2 ^ 63 := by exact_mod_cast Nat.pow_le_pow_right (by decide) (show k ≤ 63 by omega)
    exact h
  obtain ⟨M1, hM1⟩ : ∃ M, mov 1 64 a k = M := ⟨_, rfl⟩
  obtain ⟨M2, hM2⟩ : ∃ M, mov 1 32 x j = M := ⟨_, rfl⟩
  have b1 := mov_bd (kind := 1) (bs := 64) (n := k) (by decide) ha0 (show a < 2 ^ 64 by omega) (by omega)
  have b2 := mov_bd (kind := 1) (bs := 32) (n := j) (by decide) hx2.1 (show x < 2 ^ 32 by omega) (by omega)
  have s1 := mov1_val (bs := 64) (by decide) a k ha0 (by omega)
  have s2 := mov1_val (bs := 32) (by decide) x j hx2.1 (by omega)
  rw [hM1] at b1 s1
  rw [hM2] at b2 s2
  have b1' : 0 ≤ M1 ∧ M1 ≤ 18446744073709551615 := by omega
  have b2' : 0 ≤ M2 ∧ M2 < 4294967296 := by omega
  have w1 : wrap64 M1 = wrap64 a / 2 ^ k := by rw [wrap64_sgnv b1'.1 (by omega), wrap64_sgnv ha0 (by omega), s1]
  have w2 : wrap32 M2 = wrap32 x / 2 ^ j := by rw [wrap32_sgnv b2'.1 b2'.2, wrap32_sgnv hx2.1 hx2.2, s2]
  obtain ⟨S, hS⟩ : ∃ S, a * 2 ^ k % 18446744073709551616 = S := ⟨_, rfl⟩
  have hwS : IntKind.u64.wrap (a * 2 ^ k) = S := by rw [IntKind.wrap_u64, hS]
  have c1 := ltwo_is 135 a k (x := M1) (by rw [show (135 : Int) = 114 + 21 from rfl, k_val64 21 a k (by decide)]; show mov 1 64 a ((k : Int) % (64 : Nat)).toNat = M1; rw [ekm, hM1]) (by omega) (by omega)
  have c2 := ltwo_is 134 a k (x := S) (by rw [show (134 : Int) = 114 + 20 from rfl, k_val64 20 a k (by decide)]; show mov 0 64 a ((k : Int) % (64 : Nat)).toNat = S; rw [ekm, ← hS]; rfl) (by omega) (by omega)
  have c3 := ltwo_is 136 a k (x := a / 2 ^ k) (by rw [show (136 : Int) = 114 + 22 from rfl, k_val64 22 a k (by decide)]; show mov 2 64 a ((k : Int) % (64 : Nat)).toNat = a / 2 ^ k; rw [ekm]; rfl) (by omega) (by omega)
  have c4 := ltwo_is 117 x j (x := M2) (by rw [show (117 : Int) = 96 + 21 from rfl, k_val32 21 x j (by decide) hx2 (by omega)]; show mov 1 32 x ((j : Int) % (32 : Nat)).toNat = M2; rw [ejm, hM2]) (by omega) (by omega)
  have c5 := ltwo_is 118 x j (x := x / 2 ^ j) (by rw [show (118 : Int) = 96 + 22 from rfl, k_val32 22 x j (by decide) hx2 (by omega)]; show mov 2 32 x ((j : Int) % (32 : Nat)).toNat = x / 2 ^ j; rw [ejm]; rfl) (by omega) (by omega)
  have c6 := ltwo_is 126 a (2 ^ k) (x := S) (by rw [show (126 : Int) = 114 + 12 from rfl, k_val64 12 a (2 ^ k) (by decide)]; exact hS) (by omega) (by omega)
  have hone : (2 : Int) ^ k % 18446744073709551616 = 2 ^ k := Int.emod_eq_of_lt (by omega) (by omega)
  clear hM1 hM2 s1 s2 b1 b2 hS ekm ejm
  go_enter Tryd.func11, Tryd.ntmps11
  go_wp2_with (first
    | (go_at_call 12; (with_reducible refine (head_num _ hLaid).mono ?_); rintro e w1 ⟨rfl, hb⟩; replace hB := bt hB hb; clear hb)
    | (go_at_call 18; (with_reducible refine (c1 _).mono ?_); rintro e w1 ⟨rfl, hb⟩; replace hB := bt hB hb; clear hb)
    | (go_at_call 18; (with_reducible refine (c2 _).mono ?_); rintro e w1 ⟨rfl, hb⟩; replace hB := bt hB hb; clear hb)
    | (go_at_call 18; (with_reducible refine (c3 _).mono ?_); rintro e w1 ⟨rfl, hb⟩; replace hB := bt hB hb; clear hb)
    | (go_at_call 18; (with_reducible refine (c4 _).mono ?_); rintro e w1 ⟨rfl, hb⟩; replace hB := bt hB hb; clear hb)
    | (go_at_call 18; (with_reducible refine (c5 _).mono ?_); rintro e w1 ⟨rfl, hb⟩; replace hB := bt hB hb; clear hb)
    | (go_at_call 18; (with_reducible refine (c6 _).mono ?_); rintro e w1 ⟨rfl, hb⟩; replace hB := bt hB hb; clear hb))
  go_ret
  exact ⟨by first | rfl | exact ret_true (by simp), hB⟩
end Go.Proofs.YtfbgejgapdpjcaaDoor
