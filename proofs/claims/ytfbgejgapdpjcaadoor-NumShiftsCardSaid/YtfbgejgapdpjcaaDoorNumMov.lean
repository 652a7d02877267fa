/-
  Bits that are moved and turned: plain facts on integers; no program is looked at.
-/
import Derived.Test.YtfbgejgapdpjcaaDoorNumSpec
namespace Go.Proofs.YtfbgejgapdpjcaaDoor

theorem bit_emod (x : Int) {m i : Nat} (h : i < m) : x % 2 ^ m / 2 ^ i % 2 = x / 2 ^ i % 2 := by
  have h1 := Int.mul_ediv_add_emod x (2 ^ m)
  have e : x = x % 2 ^ m + 2 ^ (i + 1) * (2 ^ (m - (i + 1)) * (x / 2 ^ m)) := by
    rw [← Int.mul_assoc, ← Int.pow_add, show i + 1 + (m - (i + 1)) = m by omega]
    omega
  conv => rhs; rw [e]
  rw [bit_shift]

theorem ediv_pow (x : Int) (m i : Nat) : x / 2 ^ m / 2 ^ i = x / 2 ^ (m + i) := by
  rw [Int.ediv_ediv_of_nonneg (Int.le_of_lt (pow2_pos m)), ← Int.pow_add]

theorem mul_pow_div (x : Int) {n i : Nat} (h : n ≤ i) : x * 2 ^ n / 2 ^ i = x / 2 ^ (i - n) := by
  rw [show i = n + (i - n) by omega, ← ediv_pow, Int.mul_ediv_cancel _ (Int.ne_of_gt (pow2_pos n))]
  congr 2; omega
theorem mul_pow_even (x : Int) {n i : Nat} (h : i < n) : x * 2 ^ n / 2 ^ i % 2 = 0 := by
  have e : x * 2 ^ n = 0 + 2 ^ (i + 1) * (2 ^ (n - (i + 1)) * x) := by
    rw [← Int.mul_assoc, ← Int.pow_add, show i + 1 + (n - (i + 1)) = n by omega, Int.mul_comm]
    omega
  rw [e, bit_shift]
  simp

theorem mov0_lo {bs n i : Nat} (a : Int) (hi : i < bs) (h : i < n) : mov 0 bs a n / 2 ^ i % 2 = 0 := by
  unfold mov; rw [if_pos rfl, bit_emod _ hi, mul_pow_even _ h]
theorem mov0_hi {bs n i : Nat} (a : Int) (hi : i < bs) (h : n ≤ i) : mov 0 bs a n / 2 ^ i % 2 = a / 2 ^ (i - n) % 2 := by
  unfold mov; rw [if_pos rfl, bit_emod _ hi, mul_pow_div _ h]

theorem mov2_lo {bs n i : Nat} (a : Int) : mov 2 bs a n / 2 ^ i % 2 = a / 2 ^ (i + n) % 2 := by
  unfold mov; rw [if_neg (by decide), if_neg (by decide), if_pos rfl, ediv_pow, Nat.add_comm]
theorem bit_past {bs j : Nat} {a : Int} (h0 : 0 ≤ a) (h1 : a < 2 ^ bs) (h : bs ≤ j) : a / 2 ^ j % 2 = 0 := by
  have hp : (2 : Int) ^ bs ≤ 2 ^ j := by exact_mod_cast Nat.pow_le_pow_right (by decide) h
  rw [Int.ediv_eq_zero_of_lt h0 (by omega)]; rfl

theorem sgnv_mod {bs : Nat} (a : Int) (h0 : 0 ≤ a) (h1 : a < 2 ^ bs) : sgnv bs a % 2 ^ bs = a := by
  unfold sgnv
  split
  · rw [Int.sub_emod_right, Int.emod_eq_of_lt h0 h1]
  · exact Int.emod_eq_of_lt h0 h1
theorem mov1_bit {bs n i : Nat} (a : Int) (hi : i < bs) : mov 1 bs a n / 2 ^ i % 2 = sgnv bs a / 2 ^ (n + i) % 2 := by
  unfold mov; rw [if_neg (by decide), if_pos rfl, bit_emod _ hi, ediv_pow]
theorem mov1_lo {bs n i : Nat} (a : Int) (h0 : 0 ≤ a) (h1 : a < 2 ^ bs) (hi : i < bs) (h : i + n < bs) : mov 1 bs a n / 2 ^ i % 2 = a / 2 ^ (i + n) % 2 := by
  rw [mov1_bit a hi, ← bit_emod (sgnv bs a) (show n + i < bs by omega), sgnv_mod a h0 h1, Nat.add_comm]
theorem mov1_hi {bs n i : Nat} (a : Int) (h0 : 0 ≤ a) (h1 : a < 2 ^ bs) (hb : 1 ≤ bs) (hi : i < bs) (h : bs - 1 ≤ i + n) : mov 1 bs a n / 2 ^ i % 2 = a / 2 ^ (bs - 1) % 2 := by
  rw [mov1_bit a hi]
  have e : (2 : Int) ^ bs = 2 * 2 ^ (bs - 1) := by rw [show bs = (bs - 1) + 1 by omega, Int.pow_succ]; simp; omega
  have hp : (2 : Int) ^ (bs - 1) ≤ 2 ^ (n + i) := by exact_mod_cast Nat.pow_le_pow_right (by decide) (by omega)
  have hp0 := pow2_pos (bs - 1)
  unfold sgnv
  by_cases hs : 2 ^ (bs - 1) ≤ a
  · rw [if_pos hs, neg_div (by omega) (by omega)]
    have h2 : a / 2 ^ (bs - 1) = 1 := by
      have h3 : 1 ≤ a / 2 ^ (bs - 1) := Int.le_ediv_of_mul_le hp0 (by omega)
      have h4 : a / 2 ^ (bs - 1) < 2 := Int.ediv_lt_of_lt_mul hp0 (by omega)
      omega
    rw [h2]; rfl
  · rw [if_neg hs, Int.ediv_eq_zero_of_lt h0 (by omega), Int.ediv_eq_zero_of_lt h0 (by omega)]

/-- Turned left by n, n at most as many as there are bits. -/
def rot (bs : Nat) (a : Int) (n : Nat) : Int := a * 2 ^ n % 2 ^ bs + a / 2 ^ (bs - n)
theorem rot_form {bs n : Nat} (a : Int) (hn : n ≤ bs) : rot bs a n = a / 2 ^ (bs - n) + 2 ^ n * (a % 2 ^ (bs - n)) := by
  unfold rot
  have e : (2 : Int) ^ bs = 2 ^ n * 2 ^ (bs - n) := by rw [← Int.pow_add, show n + (bs - n) = bs by omega]
  rw [e, Int.mul_comm a, Int.mul_emod_mul_of_pos _ _ (pow2_pos n)]
  omega
theorem rot_hi {bs n i : Nat} (a : Int) (h0 : 0 ≤ a) (h1 : a < 2 ^ bs) (hn : n ≤ bs) (hi : i < bs) (h : n ≤ i) : rot bs a n / 2 ^ i % 2 = a / 2 ^ (i - n) % 2 := by
  have e : (2 : Int) ^ bs = 2 ^ n * 2 ^ (bs - n) := by rw [← Int.pow_add, show n + (bs - n) = bs by omega]
  have l0 : 0 ≤ a / 2 ^ (bs - n) := Int.ediv_nonneg h0 (Int.le_of_lt (pow2_pos _))
  have l1 : a / 2 ^ (bs - n) < 2 ^ n := Int.ediv_lt_of_lt_mul (pow2_pos _) (by rw [← e]; exact h1)
  rw [rot_form a hn, show i = n + (i - n) by omega, ← ediv_pow, Int.add_mul_ediv_left _ _ (Int.ne_of_gt (pow2_pos n)), Int.ediv_eq_zero_of_lt l0 l1, Int.zero_add, bit_emod _ (by omega)]
  congr 3; omega
theorem rot_lo {bs n i : Nat} (a : Int) (hn : n ≤ bs) (h : i < n) : rot bs a n / 2 ^ i % 2 = a / 2 ^ (i + bs - n) % 2 := by
  have e : (2 : Int) ^ n * (a % 2 ^ (bs - n)) = 2 ^ (i + 1) * (2 ^ (n - (i + 1)) * (a % 2 ^ (bs - n))) := by
    rw [← Int.mul_assoc, ← Int.pow_add, show i + 1 + (n - (i + 1)) = n by omega]
  rw [rot_form a hn, e, bit_shift, ediv_pow, show bs - n + i = i + bs - n by omega]
theorem mov3_rot (bs n : Nat) (a : Int) : mov 3 bs a n = rot bs a n := by
  unfold mov rot; rw [if_neg (by decide), if_neg (by decide), if_neg (by decide), if_pos rfl]
theorem mov4_rot {bs n : Nat} (a : Int) (hn : n ≤ bs) : mov 4 bs a n = rot bs a (bs - n) := by
  unfold mov rot; rw [if_neg (by decide), if_neg (by decide), if_neg (by decide), if_neg (by decide), show bs - (bs - n) = n by omega]; omega

theorem mov3_hi {bs n i : Nat} (a : Int) (h0 : 0 ≤ a) (h1 : a < 2 ^ bs) (hn : n < bs) (hi : i < bs) (h : n ≤ i) : mov 3 bs a n / 2 ^ i % 2 = a / 2 ^ (i - n) % 2 := by rw [mov3_rot, rot_hi a h0 h1 (by omega) hi h]
theorem mov3_lo {bs n i : Nat} (a : Int) (hn : n < bs) (h : i < n) : mov 3 bs a n / 2 ^ i % 2 = a / 2 ^ (i + bs - n) % 2 := by rw [mov3_rot, rot_lo a (by omega) h]
theorem mov4_hi {bs n i : Nat} (a : Int) (h0 : 0 ≤ a) (h1 : a < 2 ^ bs) (hn : n < bs) (hi : i < bs) (h : bs ≤ i + n) : mov 4 bs a n / 2 ^ i % 2 = a / 2 ^ (i + n - bs) % 2 := by
  rw [mov4_rot a (by omega), rot_hi a h0 h1 (by omega) hi (by omega)]; congr 3; omega
theorem mov4_lo {bs n i : Nat} (a : Int) (hn : n < bs) (h : i + n < bs) : mov 4 bs a n / 2 ^ i % 2 = a / 2 ^ (i + n) % 2 := by
  rw [mov4_rot a (by omega), rot_lo a (by omega) (by omega)]; congr 3; omega

theorem or_pow2 {v X : Int} {i : Nat} (hi : i < 64) (hX : X = v % 2 ^ i) (h1 : v / 2 ^ i % 2 = 1) : bits .or .u64 X (2 ^ i % 18446744073709551616) = v % 2 ^ (i + 1) := by
  have hp := pow2_pos i
  have hle : (2 : Int) ^ i ≤ 2 ^ 63 := by exact_mod_cast Nat.pow_le_pow_right (by decide) (by omega)
  have e : (2 : Int) ^ i % 18446744073709551616 = 2 ^ i := Int.emod_eq_of_lt (by omega) (by omega)
  have h0 : 0 ≤ X := by rw [hX]; exact Int.emod_nonneg v (Int.ne_of_gt hp)
  have hl : X < 2 ^ i := by rw [hX]; exact Int.emod_lt_of_pos v hp
  rw [e, or_add .u64 wr_u64 i (by simp [IntKind.bits]; omega) X (2 ^ i) h0 hl (by simp), low_succ v i, h1, ← hX, IntKind.wrap_u64]
  omega
theorem skip_pow2 {v X : Int} {i : Nat} (hX : X = v % 2 ^ i) (h1 : v / 2 ^ i % 2 = 0) : X = v % 2 ^ (i + 1) := by
  rw [low_succ v i, h1, hX]; omega

theorem mov_bd {kind : Int} {bs n : Nat} {a : Int} (hk : kind = 0 ∨ kind = 1 ∨ kind = 2 ∨ kind = 3 ∨ kind = 4) (h0 : 0 ≤ a) (h1 : a < 2 ^ bs) (hn : n ≤ bs) : 0 ≤ mov kind bs a n ∧ mov kind bs a n < 2 ^ bs := by
  have hp := pow2_pos bs
  have rb : ∀ m, m ≤ bs → 0 ≤ rot bs a m ∧ rot bs a m < 2 ^ bs := fun m hm => by
    have e : (2 : Int) ^ bs = 2 ^ m * 2 ^ (bs - m) := by rw [← Int.pow_add, show m + (bs - m) = bs by omega]
    have l0 : 0 ≤ a / 2 ^ (bs - m) := Int.ediv_nonneg h0 (Int.le_of_lt (pow2_pos _))
    have l1 : a / 2 ^ (bs - m) < 2 ^ m := Int.ediv_lt_of_lt_mul (pow2_pos _) (by rw [← e]; exact h1)
    have g0 := Int.emod_nonneg a (Int.ne_of_gt (pow2_pos (bs - m)))
    have g1 := Int.emod_lt_of_pos a (pow2_pos (bs - m))
    rw [rot_form a hm]
    have m0 : 0 ≤ 2 ^ m * (a % 2 ^ (bs - m)) := Int.mul_nonneg (Int.le_of_lt (pow2_pos m)) g0
    have m1 : 2 ^ m * (a % 2 ^ (bs - m)) ≤ 2 ^ m * (2 ^ (bs - m) - 1) := Int.mul_le_mul_of_nonneg_left (by omega) (Int.le_of_lt (pow2_pos m))
    rw [Int.mul_sub, ← e] at m1
    omega
  rcases hk with rfl | rfl | rfl | rfl | rfl
  · exact ⟨Int.emod_nonneg _ (Int.ne_of_gt hp), Int.emod_lt_of_pos _ hp⟩
  · exact ⟨Int.emod_nonneg _ (Int.ne_of_gt hp), Int.emod_lt_of_pos _ hp⟩
  · have := Int.ediv_le_self (a := a) (2 ^ n) h0
    have := Int.ediv_nonneg h0 (Int.le_of_lt (pow2_pos n))
    show 0 ≤ a / 2 ^ n ∧ a / 2 ^ n < 2 ^ bs
    omega
  · rw [mov3_rot]; exact rb n hn
  · rw [mov4_rot a hn]; exact rb (bs - n) (by omega)
end Go.Proofs.YtfbgejgapdpjcaaDoor
