/-
  What integers do, said on Lean's own integers: the document's chapter 2. Plain facts; no program is looked at.
-/
import Derived.Test.YtfbgejgapdpjcaaDoorLebRefMath
namespace Go.Proofs.YtfbgejgapdpjcaaDoor

/-- A number of so many bits, with its sign. -/
def sgnv (bs : Nat) (a : Int) : Int := if 2 ^ (bs - 1) ≤ a then a - 2 ^ bs else a
def truth (p : Bool) : Int := if p then 1 else 0

/-- How many bits are 0 ahead, behind; how many are 1. -/
def lzr : Nat → Int → Nat
  | 0, _ => 0
  | n + 1, a => if a / 2 ^ n % 2 = 1 then 0 else lzr n a + 1
def tzr : Nat → Nat → Int → Nat
  | 0, _, _ => 0
  | f + 1, i, a => if a / 2 ^ i % 2 = 1 then 0 else tzr f (i + 1) a + 1
def pcr : Nat → Int → Nat
  | 0, _ => 0
  | n + 1, a => pcr n a + (a / 2 ^ n % 2).toNat

theorem lzr_le : ∀ n a, lzr n a ≤ n
  | 0, _ => Nat.le_refl _
  | n + 1, a => by have := lzr_le n a; simp only [lzr]; split <;> omega
theorem tzr_le : ∀ f i a, tzr f i a ≤ f
  | 0, _, _ => Nat.le_refl _
  | f + 1, i, a => by have := tzr_le f (i + 1) a; simp only [tzr]; split <;> omega
theorem pcr_le : ∀ n a, pcr n a ≤ n
  | 0, _ => Nat.le_refl _
  | n + 1, a => by have := pcr_le n a; simp only [pcr]; omega

def one (op a : Int) : Int × Int :=
  if op = 69 then (truth (decide (a % 2 ^ 32 = 0)), 0)
  else if op = 80 then (truth (decide (a = 0)), 0)
  else if op = 103 then (lzr 32 (a % 2 ^ 32), 0)
  else if op = 104 then (tzr 32 0 (a % 2 ^ 32), 0)
  else if op = 105 then (pcr 32 (a % 2 ^ 32), 0)
  else if op = 121 then (lzr 64 a, 0)
  else if op = 122 then (tzr 64 0 a, 0)
  else if op = 123 then (pcr 64 a, 0)
  else if op = 167 then (a % 2 ^ 32, 0)
  else if op = 173 then (a % 2 ^ 32, 0)
  else if op = 172 then (sgnv 32 (a % 2 ^ 32) % 2 ^ 64, 0)
  else (0, 3)

def less (kind : Int) (bs : Nat) (a b : Int) : Bool := if kind % 2 = 1 then decide (a < b) else decide (sgnv bs a < sgnv bs b)
def tst (kind : Int) (bs : Nat) (a b : Int) : Bool :=
  if kind / 2 = 0 then (a == b) == (kind == 0)
  else if kind / 2 = 1 then less kind bs a b
  else if kind / 2 = 2 then !less kind bs a b && a != b
  else if kind / 2 = 3 then less kind bs a b || a == b
  else !less kind bs a b

def dvd (kind : Int) (bs : Nat) (a b : Int) : Int × Int :=
  if b = 0 then (0, 6)
  else if kind = 0 then (if sgnv bs a = -(2 ^ (bs - 1)) ∧ sgnv bs b = -1 then (0, 6) else ((sgnv bs a).tdiv (sgnv bs b) % 2 ^ bs, 0))
  else if kind = 1 then (a / b, 0)
  else if kind = 2 then (if sgnv bs b = -1 then (0, 0) else ((sgnv bs a).tmod (sgnv bs b) % 2 ^ bs, 0))
  else (a % b, 0)

/-- The same ahead of the last cut: the number, and whether it does not trap. -/
def dvdRaw (kind : Int) (bs : Nat) (a b : Int) : Int × Bool :=
  if b = 0 then (0, false)
  else if kind = 0 then (if sgnv bs a = -(2 ^ (bs - 1)) ∧ sgnv bs b = -1 then (0, false) else ((sgnv bs a).tdiv (sgnv bs b) % 2 ^ 64, true))
  else if kind = 1 then (a / b, true)
  else if kind = 2 then (if sgnv bs b = -1 then (0, true) else ((sgnv bs a).tmod (sgnv bs b) % 2 ^ 64, true))
  else (a % b, true)

theorem cut_cut {bs : Nat} (h : bs ≤ 64) (x : Int) : x % 2 ^ 64 % 2 ^ bs = x % 2 ^ bs := by
  apply Int.emod_emod_of_dvd
  exact_mod_cast Nat.pow_dvd_pow 2 h

theorem dvd_raw {kind : Int} {bs : Nat} {a b : Int} (h : bs ≤ 64) (ha0 : 0 ≤ a) (ha1 : a < 2 ^ bs) (hb0 : 0 ≤ b) (hb1 : b < 2 ^ bs) : dvd kind bs a b = if (dvdRaw kind bs a b).2 then ((dvdRaw kind bs a b).1 % 2 ^ bs, 0) else (0, 6) := by
  unfold dvd dvdRaw
  by_cases hb : b = 0
  · simp [hb]
  · rw [if_neg hb, if_neg hb]
    by_cases h0 : kind = 0
    · rw [if_pos h0, if_pos h0]
      split
      · simp
      · rw [if_pos rfl]; exact congrArg (fun n => (n, (0 : Int))) (cut_cut h _).symm
    · rw [if_neg h0, if_neg h0]
      by_cases h1 : kind = 1
      · rw [if_pos h1, if_pos h1]
        have := Int.ediv_le_self (a := a) b ha0
        have := Int.ediv_nonneg ha0 hb0
        simp [Int.emod_eq_of_lt (show 0 ≤ a / b by omega) (show a / b < 2 ^ bs by omega)]
      · rw [if_neg h1, if_neg h1]
        by_cases h2 : kind = 2
        · rw [if_pos h2, if_pos h2]
          split
          · simp
          · rw [if_pos rfl]; exact congrArg (fun n => (n, (0 : Int))) (cut_cut h _).symm
        · rw [if_neg h2, if_neg h2]
          have h3 := Int.emod_nonneg a hb
          have h4 := Int.emod_lt_of_pos a (show 0 < b by omega)
          simp [Int.emod_eq_of_lt h3 (show a % b < 2 ^ bs by omega)]

theorem dvdRaw_bd {kind : Int} {bs : Nat} {a b : Int} (ha0 : 0 ≤ a) (ha1 : a < 2 ^ bs) (hb0 : 0 ≤ b) (hb1 : b < 2 ^ bs) (hbs : bs = 32 ∨ bs = 64) : 0 ≤ (dvdRaw kind bs a b).1 ∧ (dvdRaw kind bs a b).1 < 18446744073709551616 := by
  have hp : (2 : Int) ^ bs ≤ 18446744073709551616 := by rcases hbs with rfl | rfl <;> decide
  have hm : ∀ x : Int, 0 ≤ x % 2 ^ 64 ∧ x % 2 ^ 64 < 18446744073709551616 := fun x => by omega
  unfold dvdRaw
  by_cases hb : b = 0
  · rw [if_pos hb]; decide
  · rw [if_neg hb]
    split
    · split
      · decide
      · exact hm _
    · split
      · have := Int.ediv_le_self (a := a) b ha0
        have := Int.ediv_nonneg ha0 hb0
        exact ⟨by simpa using this, by show a / b < _; omega⟩
      · split
        · split
          · decide
          · exact hm _
        · have h3 := Int.emod_nonneg a hb
          have h4 := Int.emod_lt_of_pos a (show 0 < b by omega)
          exact ⟨h3, by show a % b < _; omega⟩

def mov (kind : Int) (bs : Nat) (a : Int) (n : Nat) : Int :=
  if kind = 0 then a * 2 ^ n % 2 ^ bs
  else if kind = 1 then sgnv bs a / 2 ^ n % 2 ^ bs
  else if kind = 2 then a / 2 ^ n
  else if kind = 3 then a * 2 ^ n % 2 ^ bs + a / 2 ^ (bs - n)
  else a / 2 ^ n + a * 2 ^ (bs - n) % 2 ^ bs

def twoK (kind : Int) (bs : Nat) (a b : Int) : Int × Int :=
  if kind < 10 then (truth (tst kind bs a b), 0)
  else if kind = 10 then ((a + b) % 2 ^ bs, 0)
  else if kind = 11 then ((a - b) % 2 ^ bs, 0)
  else if kind = 12 then (a * b % 2 ^ bs, 0)
  else if kind = 17 then (bits .and .u64 a b, 0)
  else if kind = 18 then (bits .or .u64 a b, 0)
  else if kind = 19 then (bits .xor .u64 a b, 0)
  else if 20 ≤ kind then (mov (kind - 20) bs a (b % bs).toNat, 0)
  else dvd (kind - 13) bs a b

def two (op a b : Int) : Int × Int :=
  if 70 ≤ op ∧ op ≤ 79 then twoK (op - 70) 32 (a % 2 ^ 32) (b % 2 ^ 32)
  else if 81 ≤ op ∧ op ≤ 90 then twoK (op - 81) 64 a b
  else if 106 ≤ op ∧ op ≤ 120 then twoK (op - 106 + 10) 32 (a % 2 ^ 32) (b % 2 ^ 32)
  else if 124 ≤ op ∧ op ≤ 138 then twoK (op - 124 + 10) 64 a b
  else (0, 3)
end Go.Proofs.YtfbgejgapdpjcaaDoor
