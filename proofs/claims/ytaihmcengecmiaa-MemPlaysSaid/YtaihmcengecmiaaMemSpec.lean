/-
  Chapter 8 as numbers and lists: bytes by their places. Plain mathematics; no program is looked at.
-/
import Derived.RowKit3
namespace Go.Proofs.Ytaihmcengecmiaa

/-- The number that k bytes from a place on make, the lowest one first. -/
def leN (f : Nat → UInt8) (a : Nat) : Nat → Nat
  | 0 => 0
  | k + 1 => leN f a k + (f (a + k)).toNat * 256 ^ k
/-- k bytes of a number stand from a place on. -/
def putN (f : Nat → UInt8) (a k n : Nat) : Nat → UInt8 := fun i => if a ≤ i ∧ i < a + k then UInt8.ofNat (n / 256 ^ (i - a)) else f i
/-- A text stands from a place on. -/
def putS (f : Nat → UInt8) (a : Nat) (s : List UInt8) : Nat → UInt8 := fun i => if a ≤ i ∧ i < a + s.length then s.getD (i - a) 0 else f i
/-- The bytes from a place on. -/
def txtN (f : Nat → UInt8) (a k : Nat) : List UInt8 := (List.range k).map fun j => f (a + j)
/-- Are there so many bytes? -/
def inN (n a : Nat) (size : Int) : Bool := decide (0 ≤ size ∧ (a : Int) ≤ n * 65536 ∧ size ≤ n * 65536 - a)
theorem inN_iff {n a : Nat} {size : Int} : inN n a size = true ↔ 0 ≤ size ∧ (a : Int) ≤ n * 65536 ∧ size ≤ n * 65536 - a := by unfold inN; exact decide_eq_true_iff
theorem leN_lt (f : Nat → UInt8) (a : Nat) : ∀ k, leN f a k < 256 ^ k
  | 0 => by simp [leN]
  | k + 1 => by
    have h := leN_lt f a k
    have hb : (f (a + k)).toNat ≤ 255 := by have := (f (a + k)).toNat_lt; omega
    have h2 : (f (a + k)).toNat * 256 ^ k ≤ 255 * 256 ^ k := Nat.mul_le_mul_right _ hb
    unfold leN
    have h3 : 256 ^ (k + 1) = 256 * 256 ^ k := by rw [Nat.pow_succ, Nat.mul_comm]
    omega
theorem putN_zero (f : Nat → UInt8) (a n : Nat) : putN f a 0 n = f := by
  funext i
  unfold putN
  rw [if_neg (by omega)]
theorem putN_succ (f : Nat → UInt8) (a k n : Nat) : putN f a (k + 1) n = fun i => if i = a + k then UInt8.ofNat (n / 256 ^ k) else putN f a k n i := by
  funext i
  unfold putN
  by_cases h : i = a + k
  · subst h
    rw [if_pos (by omega), if_pos rfl, Nat.add_sub_cancel_left]
  · rw [if_neg h]
    by_cases h2 : a ≤ i ∧ i < a + k
    · rw [if_pos h2, if_pos (by omega)]
    · rw [if_neg h2, if_neg (by omega)]
theorem txtN_len (f : Nat → UInt8) (a k : Nat) : (txtN f a k).length = k := by simp [txtN]
theorem txtN_add (f : Nat → UInt8) (a k m : Nat) : txtN f a (k + m) = txtN f a k ++ txtN f (a + k) m := by
  unfold txtN
  rw [List.range_add, List.map_append, List.map_map]
  congr 1
  apply List.map_congr_left
  intro j _
  simp [Nat.add_assoc]
theorem txtN_at (f : Nat → UInt8) (a k j : Nat) (h : j < k) : (txtN f a k)[j]? = some (f (a + j)) := by
  unfold txtN
  simp [h]
/-- What was stored is loaded. -/
theorem leN_put (f : Nat → UInt8) (a k n : Nat) : ∀ j, j ≤ k → leN (putN f a k n) a j = n % 256 ^ j
  | 0, _ => by simp [leN, Nat.mod_one]
  | j + 1, h => by
    have ih := leN_put f a k n j (by omega)
    unfold leN
    rw [ih]
    unfold putN
    rw [if_pos (by omega), Nat.add_sub_cancel_left]
    have e1 : (UInt8.ofNat (n / 256 ^ j)).toNat = n / 256 ^ j % 256 := by simp
    rw [e1, Nat.pow_succ, Nat.mod_mul]
    rw [Nat.mul_comm (n / 256 ^ j % 256)]
theorem leN_congr {f g : Nat → UInt8} {a : Nat} : ∀ k, (∀ j, j < k → f (a + j) = g (a + j)) → leN f a k = leN g a k
  | 0, _ => rfl
  | k + 1, h => by
    unfold leN
    rw [leN_congr k (fun j hj => h j (by omega)), h k (by omega)]
theorem txtN_congr {f g : Nat → UInt8} {a k : Nat} (h : ∀ j, j < k → f (a + j) = g (a + j)) : txtN f a k = txtN g a k := by
  unfold txtN
  apply List.map_congr_left
  intro j hj
  exact h j (List.mem_range.1 hj)
end Go.Proofs.Ytaihmcengecmiaa
