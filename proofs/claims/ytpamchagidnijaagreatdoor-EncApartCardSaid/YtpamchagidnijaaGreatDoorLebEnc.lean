/-
  The bytes of a number, without a sign and with one; that they are read back; how many they are. Plain facts on lists and integers; no program is looked at.
-/
import Derived.Test.YtpamchagidnijaaGreatDoorLebMath
namespace Go.Proofs.YtpamchagidnijaaGreatDoor

def putU (n : Int) : List UInt8 :=
  if n < 128 then [UInt8.ofNat n.toNat] else UInt8.ofNat (n % 128 + 128).toNat :: putU (n / 128)
  termination_by n.toNat
  decreasing_by omega

def putS (n : Int) : List UInt8 :=
  if (n / 128 = 0 ∧ n % 128 < 64) ∨ (n / 128 = -1 ∧ 64 ≤ n % 128) then [UInt8.ofNat (n % 128).toNat] else UInt8.ofNat (n % 128 + 128).toNat :: putS (n / 128)
  termination_by n.natAbs
  decreasing_by omega

theorem putU_last {n : Int} (h : n < 128) : putU n = [UInt8.ofNat n.toNat] := by rw [putU, if_pos h]
theorem putU_more {n : Int} (h : 128 ≤ n) : putU n = UInt8.ofNat (n % 128 + 128).toNat :: putU (n / 128) := by rw [putU, if_neg (by omega)]
theorem putS_last {n : Int} (h : (n / 128 = 0 ∧ n % 128 < 64) ∨ (n / 128 = -1 ∧ 64 ≤ n % 128)) : putS n = [UInt8.ofNat (n % 128).toNat] := by rw [putS, if_pos h]
theorem putS_more {n : Int} (h : ¬ ((n / 128 = 0 ∧ n % 128 < 64) ∨ (n / 128 = -1 ∧ 64 ≤ n % 128))) : putS n = UInt8.ofNat (n % 128 + 128).toNat :: putS (n / 128) := by rw [putS, if_neg h]

theorem byte_of {x : Int} (h0 : 0 ≤ x) (h1 : x < 256) : ((UInt8.ofNat x.toNat).toNat : Int) = x := by
  rw [UInt8.toNat_ofNat']; omega

/-- Numbers without a sign, and any sort of numbers: by what is left. -/
theorem ind_u {P : Int → Prop} (last : ∀ n, 0 ≤ n → n < 128 → P n) (more : ∀ n, 128 ≤ n → P (n / 128) → P n) : ∀ n, 0 ≤ n → P n := by
  have : ∀ (k : Nat) (n : Int), n.toNat ≤ k → 0 ≤ n → P n := by
    intro k
    induction k with
    | zero => intro n hn h0; exact last n h0 (by omega)
    | succ k ih =>
      intro n hn h0
      by_cases h : n < 128
      · exact last n h0 h
      · exact more n (by omega) (ih _ (by omega) (by omega))
  exact fun n h0 => this n.toNat n (Nat.le_refl _) h0

theorem ind_s {P : Int → Prop} (last : ∀ n, ((n / 128 = 0 ∧ n % 128 < 64) ∨ (n / 128 = -1 ∧ 64 ≤ n % 128)) → P n)
    (more : ∀ n, ¬ ((n / 128 = 0 ∧ n % 128 < 64) ∨ (n / 128 = -1 ∧ 64 ≤ n % 128)) → P (n / 128) → P n) : ∀ n, P n := by
  have : ∀ (k : Nat) (n : Int), n.natAbs ≤ k → P n := by
    intro k
    induction k with
    | zero => intro n hn; exact last n (by omega)
    | succ k ih =>
      intro n hn
      by_cases h : (n / 128 = 0 ∧ n % 128 < 64) ∨ (n / 128 = -1 ∧ 64 ≤ n % 128)
      · exact last n h
      · exact more n h (ih _ (by omega))
  exact fun n => this n.natAbs n (Nat.le_refl _)

theorem dec_putU (t : List UInt8) : ∀ n, 0 ≤ n → dec usg (putU n ++ t) = some (n, (putU n).length) := by
  apply ind_u
  · intro n h0 h1
    rw [putU_last h1]
    have hb := byte_of (x := n) h0 (by omega)
    simp only [List.cons_append, dec]
    rw [if_pos (by omega), hb]
    simp [usg]; omega
  · intro n h ih
    rw [putU_more h]
    have hb := byte_of (x := n % 128 + 128) (by omega) (by omega)
    simp only [List.cons_append, dec]
    rw [if_neg (by omega), ih, hb]
    simp; omega

theorem dec_putS (t : List UInt8) : ∀ n, dec sgn (putS n ++ t) = some (n, (putS n).length) := by
  apply ind_s
  · intro n h
    rw [putS_last h]
    have hb := byte_of (x := n % 128) (by omega) (by omega)
    simp only [List.cons_append, dec]
    rw [if_pos (by omega), hb]
    simp only [List.length_cons, List.length_nil, Option.some.injEq, Prod.mk.injEq, and_true]
    unfold sgn
    split <;> omega
  · intro n h ih
    rw [putS_more h]
    have hb := byte_of (x := n % 128 + 128) (by omega) (by omega)
    simp only [List.cons_append, dec]
    rw [if_neg (by omega), ih, hb]
    simp; omega

/-- No byte below 128: no number. -/
theorem dec_open (p : Int → Int) : ∀ l : List UInt8, (∀ b ∈ l, 128 ≤ b.toNat) → dec p l = none
  | [], _ => rfl
  | b :: l, h => by
    simp only [dec]
    rw [if_neg (by have := h b (by simp); omega), dec_open p l (fun x hx => h x (by simp [hx]))]
    rfl

theorem putU_ne (n : Int) : putU n ≠ [] := by rw [putU]; split <;> simp
theorem putS_ne (n : Int) : putS n ≠ [] := by rw [putS]; split <;> simp

theorem putU_cut : ∀ n, 0 ≤ n → ∀ b ∈ (putU n).dropLast, 128 ≤ b.toNat := by
  apply ind_u
  · intro n h0 h1; rw [putU_last h1]; simp
  · intro n h ih b hb
    rw [putU_more h, List.dropLast_cons_of_ne_nil (putU_ne _)] at hb
    rcases List.mem_cons.1 hb with rfl | hb
    · have := byte_of (x := n % 128 + 128) (by omega) (by omega); omega
    · exact ih b hb

theorem putS_cut : ∀ n, ∀ b ∈ (putS n).dropLast, 128 ≤ b.toNat := by
  apply ind_s
  · intro n h; rw [putS_last h]; simp
  · intro n h ih b hb
    rw [putS_more h, List.dropLast_cons_of_ne_nil (putS_ne _)] at hb
    rcases List.mem_cons.1 hb with rfl | hb
    · have := byte_of (x := n % 128 + 128) (by omega) (by omega); omega
    · exact ih b hb

theorem one_le_pow (k : Nat) : (1 : Int) ≤ 128 ^ k := by
  have : 0 < (128 : Int) ^ k := Int.pow_pos (by decide)
  omega

/-- How many bytes: at most so many just if the number has room in so many times seven bits. -/
theorem putU_len : ∀ n, 0 ≤ n → ∀ k : Nat, (putU n).length ≤ k + 1 ↔ n < 128 ^ (k + 1) := by
  apply ind_u
  · intro n h0 h1 k
    rw [putU_last h1]
    have h2 : (1 : Int) ≤ 128 ^ k := one_le_pow k
    rw [Int.pow_succ]
    simp; omega
  · intro n h ih k
    rw [putU_more h]
    cases k with
    | zero =>
      have : 1 ≤ (putU (n / 128)).length := by have := putU_ne (n / 128); cases hp : putU (n / 128) <;> simp_all
      simp only [List.length_cons, Nat.zero_add, Int.pow_one]
      omega
    | succ k =>
      have := ih k
      rw [Int.pow_succ]
      simp only [List.length_cons]
      omega

theorem putS_len : ∀ n, ∀ k : Nat, (putS n).length ≤ k + 1 ↔ -(64 * 128 ^ k) ≤ n ∧ n < 64 * 128 ^ k := by
  apply ind_s
  · intro n h k
    rw [putS_last h]
    have h2 : (1 : Int) ≤ 128 ^ k := one_le_pow k
    simp; omega
  · intro n h ih k
    rw [putS_more h]
    cases k with
    | zero =>
      have : 1 ≤ (putS (n / 128)).length := by have := putS_ne (n / 128); cases hp : putS (n / 128) <;> simp_all
      simp only [List.length_cons, Nat.zero_add, Int.pow_zero]
      omega
    | succ k =>
      have := ih k
      rw [Int.pow_succ]
      simp only [List.length_cons]
      omega

theorem putU_len10 {n : Int} (h0 : 0 ≤ n) (h1 : n ≤ 18446744073709551615) : (putU n).length ≤ 10 := (putU_len n h0 9).2 (by omega)
theorem putS_len10 {n : Int} (h0 : -9223372036854775808 ≤ n) (h1 : n ≤ 9223372036854775807) : (putS n).length ≤ 10 := (putS_len n 9).2 (by omega)
end Go.Proofs.YtpamchagidnijaaGreatDoor
