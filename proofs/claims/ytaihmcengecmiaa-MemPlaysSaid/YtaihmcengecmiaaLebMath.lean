/-
  Numbers in bytes of seven bits: what the bytes of a number are, what number bytes are, and that the one turns back the other. Plain facts on lists and integers; no program is looked at.
-/
import Derived.Laws.BitsLemmas
import Derived.Lib.EndianBits
namespace Go.Proofs.Ytaihmcengecmiaa

/-- A byte's seven bits, without a sign and with one. -/
def usg (b : Int) : Int := b % 128
def sgn (b : Int) : Int := if 64 ≤ b ∧ b < 128 then b - 128 else b % 128
theorem sgn_yes {b : Int} (h : b < 128) (h2 : 64 ≤ b) : b % 128 - 128 = sgn b := by unfold sgn; rw [if_pos ⟨h2, h⟩]; omega
theorem sgn_no {b : Int} (h : b < 64 ∨ 128 ≤ b) : b % 128 = sgn b := by unfold sgn; rw [if_neg (by omega)]

/-- What the loop does: from the k-th byte on, X gathered so far. -/
def rd (K : IntKind) (p : Int → Int) (most : Nat) : Nat → Int → List UInt8 → Option (Int × Nat)
  | _, _, [] => none
  | k, X, b :: l =>
    if k < most then
      if K.wrap (p b.toNat * 2 ^ (7 * k)) / 2 ^ (7 * k) = p b.toNat then
        if b.toNat < 128 then some (bits .or K X (K.wrap (p b.toNat * 2 ^ (7 * k))), k + 1)
        else rd K p most (k + 1) (bits .or K X (K.wrap (p b.toNat * 2 ^ (7 * k)))) l
      else none
    else none

/-- The number that bytes are, and how many they are. -/
def dec (p : Int → Int) : List UInt8 → Option (Int × Nat)
  | [] => none
  | b :: l => if b.toNat < 128 then some (p b.toNat, 1) else (dec p l).map fun x => ((b.toNat : Int) % 128 + 128 * x.1, x.2 + 1)

def fit (K : IntKind) (most : Nat) : Option (Int × Nat) → Option (Int × Nat)
  | none => none
  | some (v, n) => if n ≤ most ∧ K.min ≤ v ∧ v ≤ K.max then some (v, n) else none

theorem dec_pos {p : Int → Int} {l : List UInt8} {v : Int} {n : Nat} (h : dec p l = some (v, n)) : 1 ≤ n := by
  cases l with
  | nil => simp [dec] at h
  | cons b l =>
    simp only [dec] at h
    split at h
    · simp at h; omega
    · cases hd : dec p l with
      | none => simp [hd] at h
      | some x => simp [hd] at h; omega

/-! ### 'x | y' where x lies below 2^i and y is a multiple of it, with whatever sign -/
theorem or_add (K : IntKind) (hw : ∀ a b : Int, a % ((2 ^ K.bits : Nat) : Int) = b % ((2 ^ K.bits : Nat) : Int) → K.wrap a = K.wrap b) (i : Nat) (hi : i ≤ K.bits) (X Y : Int)
    (h0 : 0 ≤ X) (h1 : X < 2 ^ i) (hY : Y % 2 ^ i = 0) : bits .or K X Y = K.wrap (X + Y) := by
  obtain ⟨x, rfl⟩ := Int.eq_ofNat_of_zero_le h0
  have hx : x < 2 ^ i := by exact_mod_cast h1
  have hp : 2 ^ i ≤ 2 ^ K.bits := Nat.pow_le_pow_right (by decide) hi
  have hx' : x % 2 ^ K.bits = x := Nat.mod_eq_of_lt (Nat.lt_of_lt_of_le hx hp)
  have hpos : (0 : Int) < ((2 ^ K.bits : Nat) : Int) := by exact_mod_cast Nat.two_pow_pos _
  obtain ⟨y, hy⟩ := Int.eq_ofNat_of_zero_le (Int.emod_nonneg Y (Int.ne_of_gt hpos))
  have hd : ((2 ^ i : Nat) : Int) ∣ ((2 ^ K.bits : Nat) : Int) := by exact_mod_cast Nat.pow_dvd_pow 2 hi
  have hy0 : y % 2 ^ i = 0 := by
    have := Int.emod_emod_of_dvd Y hd
    rw [hy] at this
    have h2 : Y % ((2 ^ i : Nat) : Int) = 0 := by simpa using hY
    rw [h2] at this
    exact_mod_cast this
  have hq : y = 2 ^ i * (y / 2 ^ i) := by have := Nat.div_add_mod y (2 ^ i); omega
  have hor : x ||| y = x + y := by
    rw [Nat.or_comm]
    rw [hq, ← Nat.two_pow_add_eq_or_of_lt hx (y / 2 ^ i)]
    omega
  have hb : (BitVec.ofInt K.bits (x : Int) ||| BitVec.ofInt K.bits Y).toNat = x + y := by
    rw [BitVec.toNat_or, BitVec.ofInt_natCast, BitVec.toNat_ofNat, hx', BitVec.toNat_ofInt, hy]
    simpa using hor
  show K.wrap ((BitVec.ofInt K.bits (x : Int) ||| BitVec.ofInt K.bits Y).toNat : Int) = _
  rw [hb]
  apply hw
  rw [Int.natCast_add, ← hy]
  simp

theorem wr_u32 (a b : Int) (h : a % ((2 ^ IntKind.u32.bits : Nat) : Int) = b % ((2 ^ IntKind.u32.bits : Nat) : Int)) : IntKind.u32.wrap a = IntKind.u32.wrap b := by
  rw [IntKind.wrap_u32, IntKind.wrap_u32]; simp [IntKind.bits] at h; omega
theorem wr_i32 (a b : Int) (h : a % ((2 ^ IntKind.i32.bits : Nat) : Int) = b % ((2 ^ IntKind.i32.bits : Nat) : Int)) : IntKind.i32.wrap a = IntKind.i32.wrap b := by
  rw [IntKind.wrap_i32, IntKind.wrap_i32]; simp [IntKind.bits] at h; omega
theorem wr_u64 (a b : Int) (h : a % ((2 ^ IntKind.u64.bits : Nat) : Int) = b % ((2 ^ IntKind.u64.bits : Nat) : Int)) : IntKind.u64.wrap a = IntKind.u64.wrap b := by
  rw [IntKind.wrap_u64, IntKind.wrap_u64]; simp [IntKind.bits] at h; omega
theorem wr_i64 (a b : Int) (h : a % ((2 ^ IntKind.i64.bits : Nat) : Int) = b % ((2 ^ IntKind.i64.bits : Nat) : Int)) : IntKind.i64.wrap a = IntKind.i64.wrap b := by
  rw [IntKind.wrap_i64, IntKind.wrap_i64]; simp [IntKind.bits] at h; omega

/-- What is asked of a kind, its byte's reading and its most bytes: one step of the loop. -/
structure Step (K : IntKind) (p : Int → Int) (most : Nat) : Prop where
  part : ∀ b : Int, 128 ≤ b → b < 256 → p b = b % 128
  same : ∀ (k : Nat) (b : Int), k < most → 0 ≤ b → b < 256 → (K.wrap (p b * 2 ^ (7 * k)) / 2 ^ (7 * k) = p b ↔ K.min ≤ p b * 2 ^ (7 * k) ∧ p b * 2 ^ (7 * k) ≤ K.max)
  join : ∀ (k : Nat) (b X : Int), k < most → 0 ≤ b → b < 256 → 0 ≤ X → X < 2 ^ (7 * k) → K.min ≤ p b * 2 ^ (7 * k) → p b * 2 ^ (7 * k) ≤ K.max → bits .or K X (K.wrap (p b * 2 ^ (7 * k))) = X + p b * 2 ^ (7 * k)
  last : ∀ (k : Nat) (b X : Int), k < most → 0 ≤ b → b < 256 → 0 ≤ X → X < 2 ^ (7 * k) → (K.min ≤ p b * 2 ^ (7 * k) ∧ p b * 2 ^ (7 * k) ≤ K.max ↔ K.min ≤ X + p b * 2 ^ (7 * k) ∧ X + p b * 2 ^ (7 * k) ≤ K.max)
  over : ∀ (k : Nat) (b : Int), k < most → 128 ≤ b → b < 256 → ¬ (K.min ≤ p b * 2 ^ (7 * k) ∧ p b * 2 ^ (7 * k) ≤ K.max) → most ≤ k + 1

theorem usg_bd {b : Int} : 0 ≤ usg b ∧ usg b < 128 := by unfold usg; omega
theorem sgn_bd {b : Int} (h0 : 0 ≤ b) (h1 : b < 256) : -64 ≤ sgn b ∧ sgn b < 128 ∧ (128 ≤ b ∨ sgn b < 64) := by unfold sgn; split <;> omega

theorem ten {k : Nat} (h : k < 10) : k = 0 ∨ k = 1 ∨ k = 2 ∨ k = 3 ∨ k = 4 ∨ k = 5 ∨ k = 6 ∨ k = 7 ∨ k = 8 ∨ k = 9 := by omega

theorem step_u32 : Step IntKind.u32 usg 5 where
  part b _ _ := rfl
  same k b hk h0 h1 := by
    have hb := usg_bd (b := b)
    generalize usg b = q at *
    rw [IntKind.wrap_u32]
    rcases (show k = 0 ∨ k = 1 ∨ k = 2 ∨ k = 3 ∨ k = 4 by omega) with rfl | rfl | rfl | rfl | rfl <;> simp [IntKind.min, IntKind.max, IntKind.signed, IntKind.bits] <;> omega
  join k b X hk h0 h1 hX0 hX1 hl hh := by
    have hb := usg_bd (b := b)
    generalize usg b = q at *
    have e : IntKind.u32.wrap (q * 2 ^ (7 * k)) = q * 2 ^ (7 * k) := by
      rw [IntKind.wrap_u32]
      simp [IntKind.min, IntKind.max, IntKind.signed, IntKind.bits] at hl hh
      omega
    rw [e, or_add _ wr_u32 (7 * k) (by simp [IntKind.bits]; omega) X _ hX0 hX1 (by simp), IntKind.wrap_u32]
    simp [IntKind.min, IntKind.max, IntKind.signed, IntKind.bits] at hl hh
    rcases (show k = 0 ∨ k = 1 ∨ k = 2 ∨ k = 3 ∨ k = 4 by omega) with rfl | rfl | rfl | rfl | rfl <;> simp at * <;> omega
  last k b X hk h0 h1 hX0 hX1 := by
    have hb := usg_bd (b := b)
    generalize usg b = q at *
    rcases (show k = 0 ∨ k = 1 ∨ k = 2 ∨ k = 3 ∨ k = 4 by omega) with rfl | rfl | rfl | rfl | rfl <;> simp [IntKind.min, IntKind.max, IntKind.signed, IntKind.bits] at * <;> omega
  over k b hk h0 h1 ho := by
    have hb := usg_bd (b := b)
    generalize usg b = q at *
    rcases (show k = 0 ∨ k = 1 ∨ k = 2 ∨ k = 3 ∨ k = 4 by omega) with rfl | rfl | rfl | rfl | rfl <;> simp [IntKind.min, IntKind.max, IntKind.signed, IntKind.bits] at * <;> omega

theorem step_u64 : Step IntKind.u64 usg 10 where
  part b _ _ := rfl
  same k b hk h0 h1 := by
    have hb := usg_bd (b := b)
    generalize usg b = q at *
    rw [IntKind.wrap_u64]
    rcases ten hk with rfl | rfl | rfl | rfl | rfl | rfl | rfl | rfl | rfl | rfl <;> simp [IntKind.min, IntKind.max, IntKind.signed, IntKind.bits] <;> omega
  join k b X hk h0 h1 hX0 hX1 hl hh := by
    have hb := usg_bd (b := b)
    generalize usg b = q at *
    have e : IntKind.u64.wrap (q * 2 ^ (7 * k)) = q * 2 ^ (7 * k) := by
      rw [IntKind.wrap_u64]
      simp [IntKind.min, IntKind.max, IntKind.signed, IntKind.bits] at hl hh
      omega
    rw [e, or_add _ wr_u64 (7 * k) (by simp [IntKind.bits]; omega) X _ hX0 hX1 (by simp), IntKind.wrap_u64]
    simp [IntKind.min, IntKind.max, IntKind.signed, IntKind.bits] at hl hh
    rcases ten hk with rfl | rfl | rfl | rfl | rfl | rfl | rfl | rfl | rfl | rfl <;> simp at * <;> omega
  last k b X hk h0 h1 hX0 hX1 := by
    have hb := usg_bd (b := b)
    generalize usg b = q at *
    rcases ten hk with rfl | rfl | rfl | rfl | rfl | rfl | rfl | rfl | rfl | rfl <;> simp [IntKind.min, IntKind.max, IntKind.signed, IntKind.bits] at * <;> omega
  over k b hk h0 h1 ho := by
    have hb := usg_bd (b := b)
    generalize usg b = q at *
    rcases ten hk with rfl | rfl | rfl | rfl | rfl | rfl | rfl | rfl | rfl | rfl <;> simp [IntKind.min, IntKind.max, IntKind.signed, IntKind.bits] at * <;> omega

theorem step_i32 : Step IntKind.i32 sgn 5 where
  part b h _ := (sgn_no (Or.inr h)).symm
  same k b hk h0 h1 := by
    have hb := sgn_bd h0 h1
    generalize sgn b = q at *
    rw [IntKind.wrap_i32]
    rcases (show k = 0 ∨ k = 1 ∨ k = 2 ∨ k = 3 ∨ k = 4 by omega) with rfl | rfl | rfl | rfl | rfl <;> simp [IntKind.min, IntKind.max, IntKind.signed, IntKind.bits] <;> omega
  join k b X hk h0 h1 hX0 hX1 hl hh := by
    have hb := sgn_bd h0 h1
    generalize sgn b = q at *
    have e : IntKind.i32.wrap (q * 2 ^ (7 * k)) = q * 2 ^ (7 * k) := by
      rw [IntKind.wrap_i32]
      simp [IntKind.min, IntKind.max, IntKind.signed, IntKind.bits] at hl hh
      omega
    rw [e, or_add _ wr_i32 (7 * k) (by simp [IntKind.bits]; omega) X _ hX0 hX1 (by simp), IntKind.wrap_i32]
    simp [IntKind.min, IntKind.max, IntKind.signed, IntKind.bits] at hl hh
    rcases (show k = 0 ∨ k = 1 ∨ k = 2 ∨ k = 3 ∨ k = 4 by omega) with rfl | rfl | rfl | rfl | rfl <;> simp at * <;> omega
  last k b X hk h0 h1 hX0 hX1 := by
    have hb := sgn_bd h0 h1
    generalize sgn b = q at *
    rcases (show k = 0 ∨ k = 1 ∨ k = 2 ∨ k = 3 ∨ k = 4 by omega) with rfl | rfl | rfl | rfl | rfl <;> simp [IntKind.min, IntKind.max, IntKind.signed, IntKind.bits] at * <;> omega
  over k b hk h0 h1 ho := by
    have hb : 0 ≤ sgn b ∧ sgn b < 128 := by rw [← sgn_no (Or.inr h0)]; omega
    generalize sgn b = q at *
    rcases (show k = 0 ∨ k = 1 ∨ k = 2 ∨ k = 3 ∨ k = 4 by omega) with rfl | rfl | rfl | rfl | rfl <;> simp [IntKind.min, IntKind.max, IntKind.signed, IntKind.bits] at * <;> omega

theorem step_i64 : Step IntKind.i64 sgn 10 where
  part b h _ := (sgn_no (Or.inr h)).symm
  same k b hk h0 h1 := by
    have hb := sgn_bd h0 h1
    generalize sgn b = q at *
    rw [IntKind.wrap_i64]
    rcases ten hk with rfl | rfl | rfl | rfl | rfl | rfl | rfl | rfl | rfl | rfl <;> simp [IntKind.min, IntKind.max, IntKind.signed, IntKind.bits] <;> omega
  join k b X hk h0 h1 hX0 hX1 hl hh := by
    have hb := sgn_bd h0 h1
    generalize sgn b = q at *
    have e : IntKind.i64.wrap (q * 2 ^ (7 * k)) = q * 2 ^ (7 * k) := by
      rw [IntKind.wrap_i64]
      simp [IntKind.min, IntKind.max, IntKind.signed, IntKind.bits] at hl hh
      omega
    rw [e, or_add _ wr_i64 (7 * k) (by simp [IntKind.bits]; omega) X _ hX0 hX1 (by simp), IntKind.wrap_i64]
    simp [IntKind.min, IntKind.max, IntKind.signed, IntKind.bits] at hl hh
    rcases ten hk with rfl | rfl | rfl | rfl | rfl | rfl | rfl | rfl | rfl | rfl <;> simp at * <;> omega
  last k b X hk h0 h1 hX0 hX1 := by
    have hb := sgn_bd h0 h1
    generalize sgn b = q at *
    rcases ten hk with rfl | rfl | rfl | rfl | rfl | rfl | rfl | rfl | rfl | rfl <;> simp [IntKind.min, IntKind.max, IntKind.signed, IntKind.bits] at * <;> omega
  over k b hk h0 h1 ho := by
    have hb : 0 ≤ sgn b ∧ sgn b < 128 := by rw [← sgn_no (Or.inr h0)]; omega
    generalize sgn b = q at *
    rcases ten hk with rfl | rfl | rfl | rfl | rfl | rfl | rfl | rfl | rfl | rfl <;> simp [IntKind.min, IntKind.max, IntKind.signed, IntKind.bits] at * <;> omega

theorem byte_lt (b : UInt8) : (0 : Int) ≤ b.toNat ∧ (b.toNat : Int) < 256 := by have := UInt8.toNat_lt b; omega

theorem pow7_succ (k : Nat) : (2 : Int) ^ (7 * (k + 1)) = 128 * 2 ^ (7 * k) := by
  rw [show 7 * (k + 1) = 7 * k + 7 by omega, Int.pow_add]; omega

theorem rd_bad {K : IntKind} {p : Int → Int} {most k : Nat} {X : Int} {b : UInt8} {l : List UInt8} (h5 : k < most)
    (h : (K.wrap (p b.toNat * 2 ^ (7 * k)) / 2 ^ (7 * k) != p b.toNat) = true) : rd K p most k X (b :: l) = none := by
  simp only [rd, if_pos h5]; rw [if_neg (by simpa using h)]
theorem rd_end {K : IntKind} {p : Int → Int} {most k : Nat} {X : Int} {b : UInt8} {l : List UInt8} (h5 : k < most)
    (h : (K.wrap (p b.toNat * 2 ^ (7 * k)) / 2 ^ (7 * k) != p b.toNat) = false) (h8 : (b.toNat : Int) < 128) :
    rd K p most k X (b :: l) = some (bits .or K X (K.wrap (p b.toNat * 2 ^ (7 * k))), k + 1) := by
  simp only [rd, if_pos h5]; rw [if_pos (by simpa using h), if_pos (by omega)]
theorem rd_on {K : IntKind} {p : Int → Int} {most k : Nat} {X : Int} {b : UInt8} {l : List UInt8} (h5 : k < most)
    (h : (K.wrap (p b.toNat * 2 ^ (7 * k)) / 2 ^ (7 * k) != p b.toNat) = false) (h8 : 128 ≤ (b.toNat : Int)) :
    rd K p most k X (b :: l) = rd K p most (k + 1) (bits .or K X (K.wrap (p b.toNat * 2 ^ (7 * k)))) l := by
  simp only [rd, if_pos h5]; rw [if_pos (by simpa using h), if_neg (by omega)]

theorem rd_dec_any {K : IntKind} {p : Int → Int} {most : Nat} (st : Step K p most) (l : List UInt8) : ∀ (k : Nat) (X : Int), k ≤ most → 0 ≤ X → X < 2 ^ (7 * k) →
    rd K p most k X l = match dec p l with
      | none => none
      | some (v, n) => if k + n ≤ most ∧ K.min ≤ X + v * 2 ^ (7 * k) ∧ X + v * 2 ^ (7 * k) ≤ K.max then some (X + v * 2 ^ (7 * k), k + n) else none := by
  induction l with
  | nil => intro k X _ _ _; simp [rd, dec]
  | cons b l ih =>
    intro k X hk hX0 hX1
    have hb := byte_lt b
    simp only [rd]
    by_cases hkm : k < most
    · rw [if_pos hkm]
      have hsame := st.same k b.toNat hkm hb.1 hb.2
      by_cases hin : K.min ≤ p b.toNat * 2 ^ (7 * k) ∧ p b.toNat * 2 ^ (7 * k) ≤ K.max
      · rw [if_pos (hsame.2 hin), st.join k b.toNat X hkm hb.1 hb.2 hX0 hX1 hin.1 hin.2]
        by_cases h8 : b.toNat < 128
        · have hl := (st.last k b.toNat X hkm hb.1 hb.2 hX0 hX1).1 hin
          simp only [dec, if_pos h8]
          rw [if_pos ⟨by omega, hl.1, hl.2⟩]
        · have hp := st.part b.toNat (by omega) hb.2
          have hp0 : 0 ≤ p b.toNat ∧ p b.toNat < 128 := by rw [hp]; omega
          have hpw : (0 : Int) < 2 ^ (7 * k) := Int.pow_pos (by decide)
          have hmul : p b.toNat * 2 ^ (7 * k) ≤ 127 * 2 ^ (7 * k) := Int.mul_le_mul_of_nonneg_right (by omega) (Int.le_of_lt hpw)
          have hmul0 : 0 ≤ p b.toNat * 2 ^ (7 * k) := Int.mul_nonneg hp0.1 (Int.le_of_lt hpw)
          simp only [dec, if_neg h8]
          rw [ih (k + 1) _ (by omega) (by omega) (by rw [pow7_succ]; omega)]
          cases hd : dec p l with
          | none => rfl
          | some x =>
            obtain ⟨v, n⟩ := x
            have e : X + p b.toNat * 2 ^ (7 * k) + v * 2 ^ (7 * (k + 1)) = X + ((b.toNat : Int) % 128 + 128 * v) * 2 ^ (7 * k) := by
              rw [pow7_succ, hp, Int.add_mul, Int.mul_assoc, Int.mul_left_comm 128 v]
              omega
            simp only [Option.map_some, e]
            rw [show k + 1 + n = k + (n + 1) by omega]
      · rw [if_neg (fun h => hin (hsame.1 h))]
        by_cases h8 : b.toNat < 128
        · simp only [dec, if_pos h8]
          rw [if_neg]
          intro h
          exact hin ((st.last k b.toNat X hkm hb.1 hb.2 hX0 hX1).2 h.2)
        · have ho := st.over k b.toNat hkm (by omega) hb.2 hin
          simp only [dec, if_neg h8]
          cases hd : dec p l with
          | none => rfl
          | some x =>
            obtain ⟨v, n⟩ := x
            have := dec_pos hd
            simp only [Option.map_some]
            rw [if_neg (by omega)]
    · rw [if_neg hkm]
      cases hd : dec p (b :: l) with
      | none => rfl
      | some x =>
        obtain ⟨v, n⟩ := x
        have := dec_pos hd
        simp only
        rw [if_neg (by omega)]

theorem rd_dec {K : IntKind} {p : Int → Int} {most : Nat} (st : Step K p most) (l : List UInt8) : rd K p most 0 0 l = fit K most (dec p l) := by
  rw [rd_dec_any st l 0 0 (by omega) (by decide) (by decide)]
  cases dec p l with
  | none => rfl
  | some x => simp [fit]

/-- What U32, S32, U64, S64 answer: the number, the place behind, the error. -/
def ans (K : IntKind) (p : Int → Int) (most : Nat) (s : List UInt8) (place : Int) : Int × Int × Int :=
  if place < 0 ∨ (s.length : Int) < place then (0, 0, 1)
  else match fit K most (dec p (s.drop place.toNat)) with
    | none => (0, 0, 2)
    | some (v, n) => (v, place + n, 0)
end Go.Proofs.Ytaihmcengecmiaa
