/-
  The bits that have no room are as they must be just where the number has room: plain facts on integers; no program is looked at.
-/
import Derived.Test.YtoebkicmjglmcaaLebRefTake
namespace Go.Proofs.Ytoebkicmjglmcaa

theorem chk_u32 {v : Int} {k : Nat} (hk : k ≤ 5) (h : 0 ≤ v ∧ v < 2 ^ (7 * k)) : chk v 0 (7 * k - 32) 32 = decide (v ≤ 4294967295) := by
  rcases (show k ≤ 4 ∨ k = 5 by omega) with hk4 | rfl
  · have hp : (2 : Int) ^ (7 * k) ≤ 2 ^ 28 := by exact_mod_cast Nat.pow_le_pow_right (by decide) (by omega)
    rw [show 7 * k - 32 = 0 by omega]
    have : v ≤ 4294967295 := by omega
    simp [chk, this]
  · have h2 : v < 34359738368 := h.2
    by_cases hv : v ≤ 4294967295
    · simp only [hv, decide_true]
      simp [chk]
      omega
    · simp only [hv, decide_false]
      simp [chk]
      omega

theorem chk_u64 {v : Int} {k : Nat} (hk : k ≤ 10) (h : 0 ≤ v ∧ v < 2 ^ (7 * k)) : chk v 0 (7 * k - 64) 64 = decide (v ≤ 18446744073709551615) := by
  rcases (show k ≤ 9 ∨ k = 10 by omega) with hk4 | rfl
  · have hp : (2 : Int) ^ (7 * k) ≤ 2 ^ 63 := by exact_mod_cast Nat.pow_le_pow_right (by decide) (by omega)
    rw [show 7 * k - 64 = 0 by omega]
    have : v ≤ 18446744073709551615 := by omega
    simp [chk, this]
  · have h2 : v < 1180591620717411303424 := h.2
    by_cases hv : v ≤ 18446744073709551615
    · simp only [hv, decide_true]
      simp [chk]
      omega
    · simp only [hv, decide_false]
      simp [chk]
      omega

theorem chk_i32 {v : Int} {k : Nat} (hk : k ≤ 5) (h : -(2 ^ (7 * k)) ≤ 2 * v ∧ 2 * v < 2 ^ (7 * k)) : chk v (v / 2 ^ 31 % 2) (7 * k - 32) 32 = decide (-2147483648 ≤ v ∧ v ≤ 2147483647) := by
  rcases (show k ≤ 4 ∨ k = 5 by omega) with hk4 | rfl
  · have hp : (2 : Int) ^ (7 * k) ≤ 2 ^ 28 := by exact_mod_cast Nat.pow_le_pow_right (by decide) (by omega)
    rw [show 7 * k - 32 = 0 by omega]
    have : -2147483648 ≤ v ∧ v ≤ 2147483647 := by omega
    simp [chk, this]
  · have h2 : -34359738368 ≤ 2 * v ∧ 2 * v < 34359738368 := h
    by_cases hv : -2147483648 ≤ v ∧ v ≤ 2147483647
    · have e : decide (-2147483648 ≤ v ∧ v ≤ 2147483647) = true := decide_eq_true hv
      rw [e]
      simp [chk]
      rcases Int.lt_or_le v 0 with h0 | h0 <;> omega
    · simp only [hv, decide_false]
      simp [chk]
      omega

theorem chk_i64 {v : Int} {k : Nat} (hk : k ≤ 10) (h : -(2 ^ (7 * k)) ≤ 2 * v ∧ 2 * v < 2 ^ (7 * k)) : chk v (v / 2 ^ 63 % 2) (7 * k - 64) 64 = decide (-9223372036854775808 ≤ v ∧ v ≤ 9223372036854775807) := by
  rcases (show k ≤ 9 ∨ k = 10 by omega) with hk4 | rfl
  · have hp : (2 : Int) ^ (7 * k) ≤ 2 ^ 63 := by exact_mod_cast Nat.pow_le_pow_right (by decide) (by omega)
    rw [show 7 * k - 64 = 0 by omega]
    have : -9223372036854775808 ≤ v ∧ v ≤ 9223372036854775807 := by omega
    simp [chk, this]
  · have h2 : -1180591620717411303424 ≤ 2 * v ∧ 2 * v < 1180591620717411303424 := h
    by_cases hv : -9223372036854775808 ≤ v ∧ v ≤ 9223372036854775807
    · have e : decide (-9223372036854775808 ≤ v ∧ v ≤ 9223372036854775807) = true := decide_eq_true hv
      rw [e]
      simp [chk]
      rcases Int.lt_or_le v 0 with h0 | h0 <;> omega
    · simp only [hv, decide_false]
      simp [chk]
      omega
end Go.Proofs.Ytoebkicmjglmcaa
