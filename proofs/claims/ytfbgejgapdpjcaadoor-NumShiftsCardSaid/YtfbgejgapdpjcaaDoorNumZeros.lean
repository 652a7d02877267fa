/-
  The library's bits.LeadingZeros and TrailingZeros, of 32 and of 64 bits, walked in this program's own text, over its two tables as their initialisers lay them. Contracts that the proofs call; no statement is proved here.
-/
import Derived.Test.YtfbgejgapdpjcaaDoorNumLen
import Derived.Test.YtfbgejgapdpjcaaDoorNumLib
namespace Go.Proofs.YtfbgejgapdpjcaaDoor
open Go.RowKit

/-- The library's two tables lie in their variables. -/
def Laid (w : World) : Prop := TabAt 0 Lib.deBruijn32tab w ∧ TabAt 1 Lib.deBruijn64tab w ∧ 2 ≤ w.heap.size
theorem Laid.below {w w' : World} (h : Laid w) (hb : Below w.heap.size w w') : Laid w' := by
  obtain ⟨h1, h2, h3⟩ := h
  refine ⟨fun j hj => ?_, fun j hj => ?_, Nat.le_trans h3 hb.size⟩
  · rw [hb.cell (show (0 : Nat) < w.heap.size by omega)]; exact h1 j hj
  · rw [hb.cell (show (1 : Nat) < w.heap.size by omega)]; exact h2 j hj

set_option maxHeartbeats 1000000 in
theorem lib_lz32 (x : Int) (h0 : 0 ≤ x) (h1 : x ≤ 4294967295) (w : World) :
    Calls Tryd.prog 35 #[.int .u32 x] w fun e w' => e = .returned (.int .i64 (lzr 32 x : Nat)) ∧ w = w' := by
  have c := lib_len32 x h0 h1
  have hl := lz_lib 32 x.toNat (by decide) (by omega)
  rw [show ((x.toNat : Nat) : Int) = x by omega] at hl
  generalize Lib.bitLen x.toNat = b at *
  generalize lzr 32 x = r at *
  have hr : (32 : Int) - b = r := by omega
  have hr1 : 0 ≤ (r : Int) ∧ (r : Int) ≤ 32 := by omega
  go_enter Tryd.func35, Tryd.ntmps35
  go_wp2_with (go_at_call 55; (with_reducible refine (c _).mono ?_); rintro e w' ⟨rfl, rfl⟩)
  go_ret
  exact ⟨by rw [hl.1]; rfl, rfl⟩
set_option maxHeartbeats 1000000 in
theorem lib_lz64 (x : Int) (h0 : 0 ≤ x) (h1 : x ≤ 18446744073709551615) (w : World) :
    Calls Tryd.prog 44 #[.int .u64 x] w fun e w' => e = .returned (.int .i64 (lzr 64 x : Nat)) ∧ w = w' := by
  have c := lib_len64 x h0 h1
  have hl := lz_lib 64 x.toNat (by decide) (by omega)
  rw [show ((x.toNat : Nat) : Int) = x by omega] at hl
  generalize Lib.bitLen x.toNat = b at *
  generalize lzr 64 x = r at *
  have hr : (64 : Int) - b = r := by omega
  have hr1 : 0 ≤ (r : Int) ∧ (r : Int) ≤ 64 := by omega
  go_enter Tryd.func44, Tryd.ntmps44
  go_wp2_with (go_at_call 56; (with_reducible refine (c _).mono ?_); rintro e w' ⟨rfl, rfl⟩)
  go_ret
  exact ⟨by rw [hl.1]; rfl, rfl⟩

set_option maxHeartbeats 1000000 in
theorem lib_tz64_core (x k idx : Nat) (w : World) (hx0 : ((x : Int) == 0) = false)
    (key : IntKind.u64.wrap (bits BinOp.and IntKind.u64 (x : Int) (IntKind.u64.wrap (-(x : Int))) * 285870213051353865) / 288230376151711744 = (idx : Int))
    (hi : idx < 64) (hk : k < 64) (hcell : w.cell? ⟨1, idx, none⟩ = some (.int .u8 k)) :
    Calls Tryd.prog 46 #[.int .u64 x] w fun e w' => e = .returned (.int .i64 k) ∧ w = w' := by
  go_enter Tryd.func46, Tryd.ntmps46
  go_wp2_with (simp only [key])
  go_ret
  exact ⟨rfl, rfl⟩
set_option maxHeartbeats 1000000 in
theorem lib_tz32_core (x k idx : Nat) (w : World) (hx0 : ((x : Int) == 0) = false)
    (key : bits BinOp.and IntKind.u32 (x : Int) (-(x : Int) % 4294967296) * 125613361 % 4294967296 / 134217728 = (idx : Int))
    (hi : idx < 32) (hk : k < 32) (hcell : w.cell? ⟨0, idx, none⟩ = some (.int .u8 k)) :
    Calls Tryd.prog 37 #[.int .u32 x] w fun e w' => e = .returned (.int .i64 k) ∧ w = w' := by
  go_enter Tryd.func37, Tryd.ntmps37
  go_wp2_with (simp only [key])
  go_ret
  exact ⟨rfl, rfl⟩
set_option maxHeartbeats 1000000 in
theorem lib_tz64_zero (w : World) : Calls Tryd.prog 46 #[.int .u64 0] w fun e w' => e = .returned (.int .i64 64) ∧ w = w' := by
  go_enter Tryd.func46, Tryd.ntmps46
  go_wp2
  go_ret
  exact ⟨rfl, rfl⟩
set_option maxHeartbeats 1000000 in
theorem lib_tz32_zero (w : World) : Calls Tryd.prog 37 #[.int .u32 0] w fun e w' => e = .returned (.int .i64 32) ∧ w = w' := by
  go_enter Tryd.func37, Tryd.ntmps37
  go_wp2
  go_ret
  exact ⟨rfl, rfl⟩

theorem lib_tz64 (x : Int) (h0 : 0 ≤ x) (h1 : x ≤ 18446744073709551615) (w : World) (hT : Laid w) :
    Calls Tryd.prog 46 #[.int .u64 x] w fun e w' => e = .returned (.int .i64 (tzr 64 0 x : Nat)) ∧ w = w' := by
  obtain ⟨n, rfl⟩ : ∃ n : Nat, x = n := ⟨x.toNat, by omega⟩
  rw [← tz_lib]
  by_cases hx0 : n = 0
  · subst hx0; exact lib_tz64_zero w
  · obtain ⟨hlow, hk⟩ := Lib.lowest_bit 64 n hx0 (by omega)
    obtain ⟨hi, htab⟩ := Lib.deBruijn64_at _ hk
    have hcell := hT.2.1 _ hi
    rw [htab] at hcell
    exact lib_tz64_core n _ _ w (by simp; omega) (tz64_key n _ (by omega) hx0 hlow) hi hk hcell
theorem lib_tz32 (x : Int) (h0 : 0 ≤ x) (h1 : x ≤ 4294967295) (w : World) (hT : Laid w) :
    Calls Tryd.prog 37 #[.int .u32 x] w fun e w' => e = .returned (.int .i64 (tzr 32 0 x : Nat)) ∧ w = w' := by
  obtain ⟨n, rfl⟩ : ∃ n : Nat, x = n := ⟨x.toNat, by omega⟩
  rw [← tz_lib]
  by_cases hx0 : n = 0
  · subst hx0; exact lib_tz32_zero w
  · obtain ⟨hlow, hk⟩ := Lib.lowest_bit 32 n hx0 (by omega)
    obtain ⟨hi, htab⟩ := Lib.deBruijn32_at _ hk
    have hcell := hT.1 _ hi
    rw [htab] at hcell
    exact lib_tz32_core n _ _ w (by simp; omega) (tz32_key n _ (by omega) hx0 hlow) hi hk hcell
end Go.Proofs.YtfbgejgapdpjcaaDoor
