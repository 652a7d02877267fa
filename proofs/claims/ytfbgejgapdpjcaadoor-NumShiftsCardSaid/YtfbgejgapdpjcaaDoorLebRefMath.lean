/-
  The document's way to read a number bit by bit: plain facts on lists and integers; no program is looked at.
-/
import Derived.Test.YtfbgejgapdpjcaaDoorLebMath
namespace Go.Proofs.YtfbgejgapdpjcaaDoor

/-- How many bytes a number has, from the i-th byte on; 0: it is none. -/
def szr (most : Nat) : Nat → List UInt8 → Nat
  | _, [] => 0
  | i, b :: l => if i < most then (if b.toNat < 128 then i + 1 else szr most (i + 1) l) else 0

theorem szr_dec (p : Int → Int) (most : Nat) (l : List UInt8) : ∀ i, i ≤ most → szr most i l = match dec p l with
    | none => 0
    | some (_, n) => if i + n ≤ most then i + n else 0 := by
  induction l with
  | nil => intro i _; rfl
  | cons b l ih =>
    intro i hi
    simp only [szr, dec]
    by_cases h : i < most
    · rw [if_pos h]
      by_cases h8 : b.toNat < 128
      · rw [if_pos h8, if_pos h8]
        simp only
        rw [if_pos (by omega)]
      · rw [if_neg h8, if_neg h8, ih (i + 1) (by omega)]
        cases hd : dec p l with
        | none => rfl
        | some x =>
          obtain ⟨v, n⟩ := x
          simp only [Option.map_some, show i + 1 + n = i + (n + 1) by omega]
    · rw [if_neg h]
      by_cases h8 : b.toNat < 128
      · rw [if_pos h8]
        simp only
        rw [if_neg (by omega)]
      · rw [if_neg h8]
        cases hd : dec p l with
        | none => rfl
        | some x =>
          obtain ⟨v, n⟩ := x
          have := dec_pos hd
          simp only [Option.map_some]
          rw [if_neg (by omega)]

theorem szr_end {most i : Nat} {l : List UInt8} (h : ¬ i < most) : szr most i l = 0 := by cases l <;> simp [szr, h]
theorem szr_last {most i : Nat} {b : UInt8} {l : List UInt8} (h : i < most) (h8 : (b.toNat : Int) < 128) : szr most i (b :: l) = i + 1 := by
  simp only [szr, if_pos h]; rw [if_pos (by omega)]
theorem szr_more {most i : Nat} {b : UInt8} {l : List UInt8} (h : i < most) (h8 : 128 ≤ (b.toNat : Int)) : szr most i (b :: l) = szr most (i + 1) l := by
  simp only [szr, if_pos h]; rw [if_neg (by omega)]

/-- A bit of a number's bytes. -/
def bitOf (l : List UInt8) (i : Nat) : Int := ((l.getD (i / 7) 0).toNat : Int) / 2 ^ (i % 7) % 2

theorem pow2_pos (a : Nat) : (0 : Int) < 2 ^ a := Int.pow_pos (by decide)

/-- (x + 2^(i+1) y) / 2^i has x's bit. -/
theorem bit_shift (x y : Int) (i : Nat) : (x + 2 ^ (i + 1) * y) / 2 ^ i % 2 = x / 2 ^ i % 2 := by
  have e : x + 2 ^ (i + 1) * y = x + (2 * y) * 2 ^ i := by rw [Int.pow_succ, Int.mul_comm (2 ^ i) 2, Int.mul_assoc, Int.mul_comm (2 ^ i) y, Int.mul_assoc]
  rw [e, Int.add_mul_ediv_right _ _ (Int.ne_of_gt (pow2_pos i))]
  omega

theorem bit_low (b i : Nat) (hi : i < 7) (V : Int) : ((b : Int) % 128 + 128 * V) / 2 ^ i % 2 = (b : Int) / 2 ^ i % 2 := by
  rcases (show i = 0 ∨ i = 1 ∨ i = 2 ∨ i = 3 ∨ i = 4 ∨ i = 5 ∨ i = 6 by omega) with rfl | rfl | rfl | rfl | rfl | rfl | rfl <;> simp <;> omega

theorem bit_high (b : Nat) (i : Nat) (V : Int) : ((b : Int) % 128 + 128 * V) / 2 ^ (i + 7) = V / 2 ^ i := by
  rw [show i + 7 = 7 + i by omega, Int.pow_add, ← Int.ediv_ediv_of_nonneg (by decide)]
  congr 1
  omega

theorem bit_last_u (b i : Nat) (hi : i < 7) : usg b / 2 ^ i % 2 = (b : Int) / 2 ^ i % 2 := by
  have := bit_low b i hi 0
  simpa [usg] using this
theorem bit_last_s (b i : Nat) (hi : i < 7) : sgn b / 2 ^ i % 2 = (b : Int) / 2 ^ i % 2 := by
  unfold sgn
  split
  · have := bit_low b i hi (-1)
    rw [← this]
    congr 2
    omega
  · have := bit_low b i hi 0
    simpa using this

/-- The bits of the bytes are the number's own, with a sign or without. -/
theorem bit_dec {p : Int → Int} (hp : ∀ b i : Nat, i < 7 → p b / 2 ^ i % 2 = (b : Int) / 2 ^ i % 2) : ∀ (l : List UInt8) (v : Int) (k : Nat), dec p l = some (v, k) → ∀ i, i < 7 * k → bitOf l i = v / 2 ^ i % 2
  | [], _, _, h, _, _ => by simp [dec] at h
  | b :: l, v, k, h, i, hi => by
    simp only [dec] at h
    by_cases h8 : b.toNat < 128
    · rw [if_pos h8] at h
      simp only [Option.some.injEq, Prod.mk.injEq] at h
      obtain ⟨rfl, rfl⟩ := h
      rw [hp b.toNat i (by omega)]
      simp [bitOf, show i / 7 = 0 by omega, show i % 7 = i by omega]
    · rw [if_neg h8] at h
      cases hd : dec p l with
      | none => simp [hd] at h
      | some x =>
        obtain ⟨v', n⟩ := x
        rw [hd] at h
        simp only [Option.map_some, Option.some.injEq, Prod.mk.injEq] at h
        obtain ⟨rfl, rfl⟩ := h
        by_cases h7 : i < 7
        · rw [bit_low b.toNat i h7]
          simp [bitOf, show i / 7 = 0 by omega, show i % 7 = i by omega]
        · obtain ⟨j, rfl⟩ : ∃ j, i = j + 7 := ⟨i - 7, by omega⟩
          rw [bit_high b.toNat j v', ← bit_dec hp l v' n hd j (by omega)]
          simp [bitOf, show (j + 7) / 7 = j / 7 + 1 by omega, show (j + 7) % 7 = j % 7 by omega]

theorem dec_u_bd : ∀ (l : List UInt8) (v : Int) (k : Nat), dec usg l = some (v, k) → 0 ≤ v ∧ v < 2 ^ (7 * k)
  | [], _, _, h => by simp [dec] at h
  | b :: l, v, k, h => by
    simp only [dec] at h
    by_cases h8 : b.toNat < 128
    · rw [if_pos h8] at h
      simp only [Option.some.injEq, Prod.mk.injEq] at h
      obtain ⟨rfl, rfl⟩ := h
      have := usg_bd (b := b.toNat)
      simpa using this
    · rw [if_neg h8] at h
      cases hd : dec usg l with
      | none => simp [hd] at h
      | some x =>
        obtain ⟨v', n⟩ := x
        rw [hd] at h
        simp only [Option.map_some, Option.some.injEq, Prod.mk.injEq] at h
        obtain ⟨rfl, rfl⟩ := h
        have := dec_u_bd l v' n hd
        rw [pow7_succ]
        omega

theorem dec_s_bd : ∀ (l : List UInt8) (v : Int) (k : Nat), dec sgn l = some (v, k) → -(2 ^ (7 * k)) ≤ 2 * v ∧ 2 * v < 2 ^ (7 * k)
  | [], _, _, h => by simp [dec] at h
  | b :: l, v, k, h => by
    simp only [dec] at h
    by_cases h8 : b.toNat < 128
    · rw [if_pos h8] at h
      simp only [Option.some.injEq, Prod.mk.injEq] at h
      obtain ⟨rfl, rfl⟩ := h
      have hb := byte_lt b
      have := sgn_bd hb.1 hb.2
      simp
      omega
    · rw [if_neg h8] at h
      cases hd : dec sgn l with
      | none => simp [hd] at h
      | some x =>
        obtain ⟨v', n⟩ := x
        rw [hd] at h
        simp only [Option.map_some, Option.some.injEq, Prod.mk.injEq] at h
        obtain ⟨rfl, rfl⟩ := h
        have := dec_s_bd l v' n hd
        have hn := dec_pos hd
        have e : (2 : Int) ^ (7 * n) = 2 * 2 ^ (7 * n - 1) := by rw [show 7 * n = (7 * n - 1) + 1 by omega, Int.pow_succ]; simp; omega
        rw [pow7_succ]
        omega

/-- Bits from the 7k-th on: 0 without a sign; the sign's with one. -/
theorem bit_over_u {v : Int} {k i : Nat} (h : 0 ≤ v ∧ v < 2 ^ (7 * k)) (hi : 7 * k ≤ i) : v / 2 ^ i % 2 = 0 := by
  have hp : (2 : Int) ^ (7 * k) ≤ 2 ^ i := by exact_mod_cast Nat.pow_le_pow_right (by decide) hi
  rw [Int.ediv_eq_zero_of_lt h.1 (by omega)]; rfl
theorem neg_div {v : Int} {i : Nat} (h0 : v < 0) (h1 : -(2 ^ i) ≤ v) : v / 2 ^ i = -1 := by
  have h2 : v / 2 ^ i < 0 := Int.ediv_neg_of_neg_of_pos h0 (pow2_pos i)
  have h3 : -1 ≤ v / 2 ^ i := Int.le_ediv_of_mul_le (pow2_pos i) (by omega)
  omega
theorem bit_over_s {v : Int} {k i : Nat} (h : -(2 ^ (7 * k)) ≤ 2 * v ∧ 2 * v < 2 ^ (7 * k)) (hk : 1 ≤ k) (hi : 7 * k - 1 ≤ i) : v / 2 ^ i % 2 = if v < 0 then 1 else 0 := by
  have e : (2 : Int) ^ (7 * k) = 2 * 2 ^ (7 * k - 1) := by rw [show 7 * k = (7 * k - 1) + 1 by omega, Int.pow_succ]; simp; omega
  have hp : (2 : Int) ^ (7 * k - 1) ≤ 2 ^ i := by exact_mod_cast Nat.pow_le_pow_right (by decide) hi
  by_cases hv : v < 0
  · rw [if_pos hv, neg_div hv (by omega)]; rfl
  · rw [if_neg hv, Int.ediv_eq_zero_of_lt (by omega) (by omega)]; rfl

/-- What the low bits are, one more. -/
theorem low_succ (v : Int) (i : Nat) : v % 2 ^ (i + 1) = v % 2 ^ i + v / 2 ^ i % 2 * 2 ^ i := by
  have hp := pow2_pos i
  have h1 := Int.mul_ediv_add_emod v (2 ^ i)
  have h2 := Int.emod_nonneg v (Int.ne_of_gt hp)
  have h3 := Int.emod_lt_of_pos v hp
  have h4 := Int.mul_ediv_add_emod (v / 2 ^ i) 2
  have e : v = (v % 2 ^ i + v / 2 ^ i % 2 * 2 ^ i) + 2 ^ (i + 1) * (v / 2 ^ i / 2) := by
    rw [Int.pow_succ, Int.mul_assoc]
    have : 2 ^ i * (2 * (v / 2 ^ i / 2)) + v / 2 ^ i % 2 * 2 ^ i = 2 ^ i * (v / 2 ^ i) := by
      rw [Int.mul_comm (v / 2 ^ i % 2), ← Int.mul_add, h4]
    omega
  have hb : 0 ≤ v / 2 ^ i % 2 ∧ v / 2 ^ i % 2 ≤ 1 := by omega
  have hl : 0 ≤ v / 2 ^ i % 2 * 2 ^ i ∧ v / 2 ^ i % 2 * 2 ^ i ≤ 2 ^ i := by
    rcases (show v / 2 ^ i % 2 = 0 ∨ v / 2 ^ i % 2 = 1 by omega) with h | h <;> rw [h] <;> omega
  have hpp : (2 : Int) ^ (i + 1) = 2 * 2 ^ i := by rw [Int.pow_succ]; omega
  conv => lhs; rw [e]
  rw [Int.add_mul_emod_self_left]
  exact Int.emod_eq_of_lt (by omega) (by omega)
end Go.Proofs.YtfbgejgapdpjcaaDoor
