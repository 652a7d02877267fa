/-
  What follows of chapter 2, said on Lean's own integers: plain facts; no program is looked at.
-/
import Derived.Test.YtfbgejgapdpjcaaDoorNumMov
namespace Go.Proofs.YtfbgejgapdpjcaaDoor

theorem two_32_t {op a b : Int} (h0 : 70 ≤ op) (h1 : op ≤ 79) : two op a b = twoK (op - 70) 32 (a % 2 ^ 32) (b % 2 ^ 32) := by unfold two; rw [if_pos ⟨h0, h1⟩]
theorem two_64_t {op a b : Int} (h0 : 81 ≤ op) (h1 : op ≤ 90) : two op a b = twoK (op - 81) 64 a b := by unfold two; rw [if_neg (by omega), if_pos ⟨h0, h1⟩]
theorem two_32_k {op a b : Int} (h0 : 106 ≤ op) (h1 : op ≤ 120) : two op a b = twoK (op - 106 + 10) 32 (a % 2 ^ 32) (b % 2 ^ 32) := by
  unfold two; rw [if_neg (by omega), if_neg (by omega), if_pos ⟨h0, h1⟩]
theorem two_64_k {op a b : Int} (h0 : 124 ≤ op) (h1 : op ≤ 138) : two op a b = twoK (op - 124 + 10) 64 a b := by
  unfold two; rw [if_neg (by omega), if_neg (by omega), if_neg (by omega), if_pos ⟨h0, h1⟩]

theorem mod_mod32 (a : Int) : a % 2 ^ 32 % 2 ^ 32 = a % 2 ^ 32 := Int.emod_emod_of_dvd a (Int.dvd_refl _)
theorem two_halves {op a b : Int} (h : (70 ≤ op ∧ op ≤ 79) ∨ (106 ≤ op ∧ op ≤ 120)) : two op (a % 2 ^ 32) (b % 2 ^ 32) = two op a b := by
  rcases h with h | h
  · rw [two_32_t h.1 h.2, two_32_t h.1 h.2, mod_mod32, mod_mod32]
  · rw [two_32_k h.1 h.2, two_32_k h.1 h.2, mod_mod32, mod_mod32]

theorem truth_le (b : Bool) : 0 ≤ truth b ∧ truth b ≤ 1 := by cases b <;> decide
theorem bits_nat64 (a b : Int) (ha0 : 0 ≤ a) (ha1 : a < 4294967296) (hb0 : 0 ≤ b) (hb1 : b < 4294967296) :
    (0 ≤ bits .and .u64 a b ∧ bits .and .u64 a b < 4294967296) ∧ (0 ≤ bits .or .u64 a b ∧ bits .or .u64 a b < 4294967296) ∧ (0 ≤ bits .xor .u64 a b ∧ bits .xor .u64 a b < 4294967296) := by
  obtain ⟨m, rfl⟩ := Int.eq_ofNat_of_zero_le ha0
  obtain ⟨n, rfl⟩ := Int.eq_ofNat_of_zero_le hb0
  have hm : m < 2 ^ 32 := by omega
  have hn : n < 2 ^ 32 := by omega
  have h := bits_nat .u64 64 (by decide) wraps_u64 m n (by omega) (by omega)
  have hx : bits .xor .u64 (m : Int) (n : Int) = ((m ^^^ n : Nat) : Int) := by
    have em : m % 2 ^ IntKind.u64.bits = m := Nat.mod_eq_of_lt (by show m < 2 ^ 64; omega)
    have en : n % 2 ^ IntKind.u64.bits = n := Nat.mod_eq_of_lt (by show n < 2 ^ 64; omega)
    have hlt : m ^^^ n < 2 ^ 32 := Nat.xor_lt_two_pow hm hn
    simp only [bits, BitVec.ofInt_natCast, BitVec.toNat_xor, BitVec.toNat_ofNat, em, en]
    exact wraps_u64 _ (Int.natCast_nonneg _) (by omega)
  have h1 : m &&& n < 2 ^ 32 := Nat.and_lt_two_pow _ hn
  have h2 : m ||| n < 2 ^ 32 := Nat.or_lt_two_pow hm hn
  have h3 : m ^^^ n < 2 ^ 32 := Nat.xor_lt_two_pow hm hn
  rw [h.1, h.2, hx]
  omega

theorem dvd_bd {kind a b : Int} : 0 ≤ (dvd kind 32 (a % 2 ^ 32) (b % 2 ^ 32)).1 ∧ (dvd kind 32 (a % 2 ^ 32) (b % 2 ^ 32)).1 < 4294967296 := by
  rw [dvd_raw (by decide) (by omega) (by omega) (by omega) (by omega)]
  split
  · show 0 ≤ _ % 2 ^ 32 ∧ _ % 2 ^ 32 < 4294967296
    omega
  · decide

theorem twoK_bd {kind a b : Int} (hk : kind ≤ 24) : 0 ≤ (twoK kind 32 (a % 2 ^ 32) (b % 2 ^ 32)).1 ∧ (twoK kind 32 (a % 2 ^ 32) (b % 2 ^ 32)).1 < 4294967296 := by
  have hb := bits_nat64 (a % 2 ^ 32) (b % 2 ^ 32) (by omega) (by omega) (by omega) (by omega)
  have ht := truth_le (tst kind 32 (a % 2 ^ 32) (b % 2 ^ 32))
  unfold twoK
  split
  · exact ⟨ht.1, by show truth _ < _; omega⟩
  · split
    · show 0 ≤ _ % 2 ^ 32 ∧ _ % 2 ^ 32 < 4294967296; omega
    · split
      · show 0 ≤ _ % 2 ^ 32 ∧ _ % 2 ^ 32 < 4294967296; omega
      · split
        · show 0 ≤ _ % 2 ^ 32 ∧ _ % 2 ^ 32 < 4294967296; omega
        · split
          · exact hb.1
          · split
            · exact hb.2.1
            · split
              · exact hb.2.2
              · split
                · exact mov_bd (by omega) (by omega) (by omega) (by omega)
                · exact dvd_bd

theorem two_32_bd {op a b : Int} (h : (70 ≤ op ∧ op ≤ 79) ∨ (106 ≤ op ∧ op ≤ 120)) : 0 ≤ (two op a b).1 ∧ (two op a b).1 < 4294967296 := by
  rcases h with h | h
  · rw [two_32_t h.1 h.2]; exact twoK_bd (by omega)
  · rw [two_32_k h.1 h.2]; exact twoK_bd (by omega)

/-! ### Bits: how many are 0 in front, behind, and how many are 1 -/
theorem lz_zero : ∀ (n : Nat) (a : Int) (j : Nat), n - lzr n a ≤ j → j < n → a / 2 ^ j % 2 = 0
  | 0, _, _, _, h => by omega
  | n + 1, a, j, h0, h1 => by
    simp only [lzr] at h0
    by_cases hb : a / 2 ^ n % 2 = 1
    · rw [if_pos hb] at h0; omega
    · rw [if_neg hb] at h0
      by_cases hj : j = n
      · subst hj; omega
      · exact lz_zero n a j (by have := lzr_le n a; omega) (by omega)
theorem lz_one : ∀ (n : Nat) (a : Int), lzr n a < n → a / 2 ^ (n - 1 - lzr n a) % 2 = 1
  | 0, _, h => by omega
  | n + 1, a, h => by
    simp only [lzr] at h ⊢
    by_cases hb : a / 2 ^ n % 2 = 1
    · rw [if_pos hb]; simpa using hb
    · rw [if_neg hb] at h ⊢
      have := lz_one n a (by omega)
      rw [show n + 1 - 1 - (lzr n a + 1) = n - 1 - lzr n a by omega]
      exact this
theorem tz_zero : ∀ (f i : Nat) (a : Int) (j : Nat), i ≤ j → j < i + tzr f i a → a / 2 ^ j % 2 = 0
  | 0, _, _, _, h0, h1 => by simp only [tzr] at h1; omega
  | f + 1, i, a, j, h0, h1 => by
    simp only [tzr] at h1
    by_cases hb : a / 2 ^ i % 2 = 1
    · rw [if_pos hb] at h1; omega
    · rw [if_neg hb] at h1
      by_cases hj : j = i
      · subst hj; omega
      · exact tz_zero f (i + 1) a j (by omega) (by omega)
theorem tz_one : ∀ (f i : Nat) (a : Int), tzr f i a < f → a / 2 ^ (i + tzr f i a) % 2 = 1
  | 0, _, _, h => by omega
  | f + 1, i, a, h => by
    simp only [tzr] at h ⊢
    by_cases hb : a / 2 ^ i % 2 = 1
    · rw [if_pos hb]; exact hb
    · rw [if_neg hb] at h ⊢
      have := tz_one f (i + 1) a (by omega)
      rw [show i + (tzr f (i + 1) a + 1) = i + 1 + tzr f (i + 1) a by omega]
      exact this
theorem pc_le (a : Int) (t h : Nat) (hz : ∀ j, j < t ∨ h ≤ j → j < 64 → a / 2 ^ j % 2 = 0) : ∀ n, n ≤ 64 → pcr n a ≤ min n h - min n t
  | 0, _ => by simp [pcr]
  | n + 1, hn => by
    have ih := pc_le a t h hz n (by omega)
    simp only [pcr]
    by_cases hc : n < t ∨ h ≤ n
    · rw [hz n hc (by omega)]
      simp; omega
    · have : (a / 2 ^ n % 2).toNat ≤ 1 := by omega
      omega
theorem pc_pos {a : Int} {j : Nat} (hb : a / 2 ^ j % 2 = 1) : ∀ n, j < n → 1 ≤ pcr n a
  | 0, h => by omega
  | n + 1, h => by
    simp only [pcr]
    by_cases hj : j = n
    · subst hj; rw [hb]; simp
    · have := pc_pos hb n (by omega); omega
theorem low_zero {a : Int} : ∀ n, (∀ j, j < n → a / 2 ^ j % 2 = 0) → a % 2 ^ n = 0
  | 0, _ => by simp
  | n + 1, h => by rw [low_succ a n, h n (by omega), low_zero n (fun j hj => h j (by omega))]; omega

/-- What NumBits asks of the counts. -/
theorem counts {a : Int} (h0 : 0 ≤ a) (h1 : a ≤ 18446744073709551615) :
    (a = 0 → lzr 64 a = 64 ∧ tzr 64 0 a = 64 ∧ pcr 64 a = 0) ∧ (a ≠ 0 → lzr 64 a + tzr 64 0 a < 64 ∧ 1 ≤ pcr 64 a ∧ pcr 64 a ≤ 64 - lzr 64 a - tzr 64 0 a) := by
  constructor
  · rintro rfl; decide +kernel
  · intro hne
    have hl := lzr_le 64 a
    have ht := tzr_le 64 0 a
    have hlz := lz_zero 64 a
    have htz := tz_zero 64 0 a
    have hne2 : ¬ ∀ j, j < 64 → a / 2 ^ j % 2 = 0 := fun h => by
      have := low_zero 64 h
      omega
    have hl2 : lzr 64 a < 64 := by
      rcases Nat.lt_or_ge (lzr 64 a) 64 with h | h
      · exact h
      · exact absurd (fun j hj => hlz j (by omega) hj) hne2
    have ht2 : tzr 64 0 a < 64 := by
      rcases Nat.lt_or_ge (tzr 64 0 a) 64 with h | h
      · exact h
      · exact absurd (fun j hj => htz j (by omega) (by omega)) hne2
    have hone := tz_one 64 0 a ht2
    rw [Nat.zero_add] at hone
    have hlt : tzr 64 0 a < 64 - lzr 64 a := by
      rcases Nat.lt_or_ge (tzr 64 0 a) (64 - lzr 64 a) with h | h
      · exact h
      · have := hlz (tzr 64 0 a) h ht2; omega
    have hp := pc_pos hone 64 ht2
    have hle := pc_le a (tzr 64 0 a) (64 - lzr 64 a) (fun j hj hj2 => by
      rcases hj with hj | hj
      · exact htz j (by omega) (by omega)
      · exact hlz j hj hj2) 64 (by omega)
    omega

theorem flip_bit {a : Int} {j : Nat} (hj : j < 64) : (18446744073709551615 - a) / 2 ^ j % 2 = 1 - a / 2 ^ j % 2 := by
  have hp := pow2_pos j
  have h1 := Int.mul_ediv_add_emod a (2 ^ j)
  have h2 := Int.emod_nonneg a (Int.ne_of_gt hp)
  have h3 := Int.emod_lt_of_pos a hp
  obtain ⟨m, hm⟩ : ∃ m, 64 = j + 1 + m := ⟨63 - j, by omega⟩
  have e64 : (18446744073709551616 : Int) = 2 ^ j * (2 * 2 ^ m) := by
    rw [show (18446744073709551616 : Int) = 2 ^ 64 from rfl, hm, Int.pow_add, Int.pow_succ, Int.mul_assoc]
  have e : 18446744073709551615 - a = (2 ^ j - 1 - a % 2 ^ j) + 2 ^ j * (2 * 2 ^ m - 1 - a / 2 ^ j) := by
    rw [Int.mul_sub, Int.mul_sub, ← e64]; omega
  rw [e, Int.add_mul_ediv_left _ _ (Int.ne_of_gt hp), Int.ediv_eq_zero_of_lt (by omega) (by omega)]
  omega
theorem pc_flip {a : Int} : ∀ n, n ≤ 64 → pcr n a + pcr n (18446744073709551615 - a) = n
  | 0, _ => rfl
  | n + 1, h => by
    have ih := pc_flip (a := a) n (by omega)
    simp only [pcr]
    rw [flip_bit (by omega)]
    have : 0 ≤ a / 2 ^ n % 2 ∧ a / 2 ^ n % 2 ≤ 1 := by omega
    omega
end Go.Proofs.YtfbgejgapdpjcaaDoor
