/-
  'x | y' as a sum, where one lies below a power of two and the other is a multiple of it. No program is looked at.
-/
import Derived.Laws.BitsLemmas
import Derived.Lib.EndianBits
import Derived.RowKit
namespace Go.Proofs.YtfjoobopfjahcaaDoor
open Go.RowKit

/-! ### 'x | y' where x lies below 2^i and y is a multiple of it, with whatever sign -/
theorem or_add (K : IntKind) (hw : ∀ a b : Int, a % ((2 ^ K.bits : Nat) : Int) = b % ((2 ^ K.bits : Nat) : Int) → K.wrap a = K.wrap b) (i : Nat) (hi : i ≤ K.bits) (X Y : Int)
    (h0 : 0 ≤ X) (h1 : X < 2 ^ i) (hY : Y % 2 ^ i = 0) : bits .or K X Y = K.wrap (X + Y) := by
  obtain ⟨x, rfl⟩ := Int.eq_ofNat_of_zero_le h0
  have hx : x < 2 ^ i := by exact_mod_cast h1
  have hp : 2 ^ i ≤ 2 ^ K.bits := Nat.pow_le_pow_right (by decide) hi
  have hx' : x % 2 ^ K.bits = x := Nat.mod_eq_of_lt (Nat.lt_of_lt_of_le hx hp)
  have hpos : (0 : Int) < ((2 ^ K.bits : Nat) : Int) := by exact_mod_cast Nat.two_pow_pos _
  obtain ⟨y, hy⟩ := Int.eq_ofNat_of_zero_le (Int.emod_nonneg Y (Int.ne_of_gt hpos))
  have hd : ((2 ^ i : Nat) : Int) ∣ ((2 ^ K.bits : Nat) : Int) := by exact_mod_cast Nat.pow_dvd_pow 2 hi
  have hy0 : y % 2 ^ i = 0 := by
    have := Int.emod_emod_of_dvd Y hd
    rw [hy] at this
    have h2 : Y % ((2 ^ i : Nat) : Int) = 0 := by simpa using hY
    rw [h2] at this
    exact_mod_cast this
  have hq : y = 2 ^ i * (y / 2 ^ i) := by have := Nat.div_add_mod y (2 ^ i); omega
  have hor : x ||| y = x + y := by
    rw [Nat.or_comm]
    rw [hq, ← Nat.two_pow_add_eq_or_of_lt hx (y / 2 ^ i)]
    omega
  have hb : (BitVec.ofInt K.bits (x : Int) ||| BitVec.ofInt K.bits Y).toNat = x + y := by
    rw [BitVec.toNat_or, BitVec.ofInt_natCast, BitVec.toNat_ofNat, hx', BitVec.toNat_ofInt, hy]
    simpa using hor
  show K.wrap ((BitVec.ofInt K.bits (x : Int) ||| BitVec.ofInt K.bits Y).toNat : Int) = _
  rw [hb]
  apply hw
  rw [Int.natCast_add, ← hy]
  simp

theorem wr_i64 (a b : Int) (h : a % ((2 ^ IntKind.i64.bits : Nat) : Int) = b % ((2 ^ IntKind.i64.bits : Nat) : Int)) : IntKind.i64.wrap a = IntKind.i64.wrap b := by
  rw [IntKind.wrap_i64, IntKind.wrap_i64]; simp [IntKind.bits] at h; omega

theorem or_low (i : Nat) (hi : i ≤ 64) (Y X : Int) (h0 : 0 ≤ X) (h1 : X < 2 ^ i) (hY : Y % 2 ^ i = 0) : bits .or .i64 Y X = wrap64 (X + Y) := by
  have e : bits .or .i64 Y X = bits .or .i64 X Y := by
    show IntKind.i64.wrap _ = IntKind.i64.wrap _
    rw [BitVec.or_comm]
  rw [e, or_add .i64 wr_i64 i hi X Y h0 h1 hY]
  exact IntKind.wrap_i64 _
end Go.Proofs.YtfjoobopfjahcaaDoor
