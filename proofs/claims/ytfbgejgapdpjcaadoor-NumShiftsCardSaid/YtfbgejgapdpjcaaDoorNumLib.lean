/-
  The library's functions that package num calls, walked in this program's own text: how many bits are 1, 0 ahead, 0 behind. Contracts that the proofs call; no statement is proved here.
-/
import Derived.Test.YtfbgejgapdpjcaaDoorNumPop
import Derived.Test.YtfbgejgapdpjcaaDoorRows
import Derived.WalkKit
import Derived.WalkSpells
import Derived.WalkLawsBesides
import Derived.Lib.Hide
import Derived.Shelf.Spec.TrailingZeros
import Derived.Lib.Tables
import Derived.Deep.QuietTactic
import Derived.BigQuiet
namespace Go.Proofs.YtfbgejgapdpjcaaDoor
open Go.RowKit

theorem u64_andm {a b m : Nat} {A M : Int} (ha : a < 18446744073709551616) (hm : m < 18446744073709551616) (h : a &&& m = b) (hA : A = (a : Int)) (hM : M = (m : Int)) : bits .and .u64 A M = (b : Int) := by
  rw [hA, hM, bits_and_u64_nat a m ha hm, h]
theorem u32_and255 (a : Int) (h0 : 0 ≤ a) (h1 : a ≤ 4294967295) : bits .and .u32 a 255 = a % 256 := by
  obtain ⟨n, rfl⟩ : ∃ n : Nat, a = n := ⟨a.toNat, by omega⟩
  have := bits_and_u32_nat n 255 (by omega) (by decide)
  rw [show (255 : Nat) = 2 ^ 8 - 1 by decide, Nat.and_two_pow_sub_one_eq_mod] at this
  exact this
theorem i64_and127 (n : Int) : bits .and .i64 n 127 = n % 128 := by
  have h1 : (BitVec.ofInt 64 127).toNat = 2 ^ 7 - 1 := by decide
  have key : (BitVec.ofInt 64 n &&& BitVec.ofInt 64 127).toNat = (n % ((2 ^ 64 : Nat) : Int)).toNat % 2 ^ 7 := by
    rw [BitVec.toNat_and, BitVec.toNat_ofInt, h1, Nat.and_two_pow_sub_one_eq_mod]
  show IntKind.i64.wrap ((BitVec.ofInt 64 n &&& BitVec.ofInt 64 127).toNat : Nat) = n % 128
  rw [key, IntKind.wrap_i64]
  omega

set_option maxHeartbeats 1000000 in
theorem lib_ones64 (x : Nat) (hx : x < 18446744073709551616) (w : World) :
    Calls Tryd.prog 48 #[.int .u64 (x : Int)] w fun e w' => e = .returned (.int .i64 (pcr 64 (x : Int) : Nat)) ∧ w = w' := by
  obtain ⟨A, B, C, D, Y, hA, hB, hC, hD, hY, lA, lB, lC, lD, lY, hS⟩ := pop_sum x
  have fA : bits .and .u64 ((x : Int) / 2) 6148914691236517205 = (A : Int) := u64_andm (by omega) (by decide) hA (by omega) rfl
  have fB : bits .and .u64 (x : Int) 6148914691236517205 = (B : Int) := u64_andm (by omega) (by decide) hB (by omega) rfl
  have fC : bits .and .u64 (((A : Int) + B) / 4) 3689348814741910323 = (C : Int) := u64_andm (by omega) (by decide) hC (by omega) rfl
  have fD : bits .and .u64 ((A : Int) + B) 3689348814741910323 = (D : Int) := u64_andm (by omega) (by decide) hD (by omega) rfl
  have fY : bits .and .u64 (((C : Int) + D) / 16 + ((C : Int) + D)) 1085102592571150095 = (Y : Int) := u64_andm (by omega) (by decide) hY (by omega) rfl
  have hp := pcr_le 64 (x : Int)
  have fZ : bits .and .i64 ((Y : Int) + Y / 256 + ((Y : Int) + Y / 256) / 65536 + ((Y : Int) + Y / 256 + ((Y : Int) + Y / 256) / 65536) / 4294967296) 127 = (pcr 64 (x : Int) : Nat) := by
    rw [i64_and127, ← hS]; simp only [Int.natCast_add, Int.natCast_ediv, Int.natCast_emod]; rfl
  generalize pcr 64 (x : Int) = R at *
  clear hA hB hC hD hY hS
  go_enter Tryd.func48, Tryd.ntmps48
  go_wp2
  go_ret
  exact ⟨rfl, rfl⟩

theorem pop8_n (b : Int) (h0 : 0 ≤ b) (h1 : b ≤ 255) : Lib.pop8 b = (pop8n b.toNat : Int) ∧ 0 ≤ Lib.pop8 b ∧ Lib.pop8 b ≤ 8 := by
  have h := Lib.pop8_eq ⟨b.toNat, by omega⟩
  have h2 := pop8n_lib ⟨b.toNat, by omega⟩
  have h3 := (pop8n_is ⟨b.toNat, by omega⟩).2
  simp only [show ((b.toNat : Nat) : Int) = b by omega] at h
  simp only at h2 h3
  omega

set_option maxRecDepth 100000 in
set_option maxHeartbeats 2000000 in
theorem lib_ones32 (x : Int) (h0 : 0 ≤ x) (h1 : x ≤ 4294967295) (w : World) :
    Calls Tryd.prog 39 #[.int .u32 x] w fun e w' => e = .returned (.int .i64 (pcr 32 x : Nat)) ∧ Below w.heap.size w w' := by
  have hS : (pcr 32 x : Nat) = Lib.pop8 (x / 16777216) + Lib.pop8 (x / 65536 % 256) + Lib.pop8 (x / 256 % 256) + Lib.pop8 (x % 256) := by
    obtain ⟨n, rfl⟩ : ∃ n : Nat, x = n := ⟨x.toNat, by omega⟩
    rw [pcr_popN 4 n]
    simp only [popN]
    rw [(pop8_n _ (by omega) (by omega)).1, (pop8_n _ (by omega) (by omega)).1, (pop8_n _ (by omega) (by omega)).1, (pop8_n _ (by omega) (by omega)).1]
    rw [show ((n : Int) / 16777216).toNat = n / 256 / 256 / 256 % 256 by omega, show ((n : Int) / 65536 % 256).toNat = n / 256 / 256 % 256 by omega, show ((n : Int) / 256 % 256).toNat = n / 256 % 256 by omega, show ((n : Int) % 256).toNat = n % 256 by omega]
    omega
  have b0 := (pop8_n (x / 16777216) (by omega) (by omega)).2
  have b1 := (pop8_n (x / 65536 % 256) (by omega) (by omega)).2
  have b2 := (pop8_n (x / 256 % 256) (by omega) (by omega)).2
  have b3 := (pop8_n (x % 256) (by omega) (by omega)).2
  rw [hS]
  clear hS
  have f1 := u32_and255 (x / 65536) (by omega) (by omega)
  have f2 := u32_and255 (x / 256) (by omega) (by omega)
  have f3 := u32_and255 x (by omega) (by omega)
  have i0 : 0 ≤ x / 16777216 := by omega
  have i1 : x / 16777216 ≤ 255 := by omega
  go_enter Tryd.func39, Tryd.ntmps39
  go_wp2
  simp only [List.append, Lib.fold_pop8tab]
  go_quiet (fail)
  go_wp2
  go_ret
  exact ⟨rfl, ((Below.refl _ w)).trans ⟨rfl, rfl, rfl, Nat.le_refl _, fun _ _ => rfl⟩⟩
end Go.Proofs.YtfbgejgapdpjcaaDoor
