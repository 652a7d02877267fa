/-
  The library's bits.Len32 and Len64, walked in this program's own text. Contracts that the proofs call; no statement is proved here.
-/
import Derived.Test.YtfbgejgapdpjcaaDoorChecked
import Derived.Lib.Strings
import Derived.Lib.Slices
import Derived.Lib.Small
import Derived.Lib.Walk
import Derived.Lib.BitFns
namespace Go.Proofs.YtfbgejgapdpjcaaDoor

/-- The highest byte that is not 0 tells the length. -/
theorem len_part {x b : Int} {k : Nat} (h0 : 0 ≤ x) (h1 : x ≤ 18446744073709551615) (hb0 : 0 ≤ b ∧ b ≤ 255) (hb : b = x / ((2 ^ k : Nat) : Int)) (hk : k = 0 ∨ ((2 ^ k : Nat) : Int) ≤ x) : Lib.len8 b + k = (Lib.bitLen x.toNat : Int) ∧ 0 ≤ Lib.len8 b ∧ Lib.len8 b ≤ 8 := by
  have h8 := Lib.len8_of b hb0.1 hb0.2
  have hle := Lib.bitLen_le8' b hb0.1 hb0.2
  have e : b.toNat = x.toNat / 2 ^ k := by
    rw [hb]
    obtain ⟨n, rfl⟩ : ∃ n : Nat, x = n := ⟨x.toNat, by omega⟩
    rfl
  refine ⟨?_, by omega, by omega⟩
  rw [h8, e]
  rcases hk with rfl | hk
  · simp
  · have := Lib.bitLen_shift k x.toNat (by omega) (by omega)
    omega

set_option maxRecDepth 100000 in
set_option maxHeartbeats 4000000 in
theorem lib_len32 (x : Int) (h0 : 0 ≤ x) (h1 : x ≤ 4294967295) (w : World) :
    Calls Tryd.prog 55 #[.int .u32 x] w fun e w' => e = .returned (.int .i64 (Lib.bitLen x.toNat : Nat)) ∧ w = w' := by
  go_enter Tryd.func55, Tryd.ntmps55
  go_wp2
  all_goals (go_ret; refine ⟨congrArg Ending.returned (congrArg (Value.int IntKind.i64) ?_), rfl⟩)
  all_goals first
    | (have g := len_part (x := x) (k := 24) (b := x / 65536 / 256 % 256) h0 (by omega) (by omega) (by omega) (by omega); omega)
    | (have g := len_part (x := x) (k := 16) (b := x / 65536 % 256) h0 (by omega) (by omega) (by omega) (by omega); omega)
    | (have g := len_part (x := x) (k := 8) (b := x / 256 % 256) h0 (by omega) (by omega) (by omega) (by omega); omega)
    | (have g := len_part (x := x) (k := 0) (b := x % 256) h0 (by omega) (by omega) (by omega) (by omega); omega)

set_option maxRecDepth 100000 in
set_option maxHeartbeats 4000000 in
theorem lib_len64 (x : Int) (h0 : 0 ≤ x) (h1 : x ≤ 18446744073709551615) (w : World) :
    Calls Tryd.prog 56 #[.int .u64 x] w fun e w' => e = .returned (.int .i64 (Lib.bitLen x.toNat : Nat)) ∧ w = w' := by
  go_enter Tryd.func56, Tryd.ntmps56
  go_wp2
  all_goals (go_ret; refine ⟨congrArg Ending.returned (congrArg (Value.int IntKind.i64) ?_), rfl⟩)
  all_goals first
    | (have g := len_part (x := x) (k := 56) (b := x / 4294967296 / 65536 / 256 % 256) h0 (by omega) (by omega) (by omega) (by omega); omega)
    | (have g := len_part (x := x) (k := 48) (b := x / 4294967296 / 65536 % 256) h0 (by omega) (by omega) (by omega) (by omega); omega)
    | (have g := len_part (x := x) (k := 40) (b := x / 4294967296 / 256 % 256) h0 (by omega) (by omega) (by omega) (by omega); omega)
    | (have g := len_part (x := x) (k := 32) (b := x / 4294967296 % 256) h0 (by omega) (by omega) (by omega) (by omega); omega)
    | (have g := len_part (x := x) (k := 24) (b := x / 65536 / 256 % 256) h0 (by omega) (by omega) (by omega) (by omega); omega)
    | (have g := len_part (x := x) (k := 16) (b := x / 65536 % 256) h0 (by omega) (by omega) (by omega) (by omega); omega)
    | (have g := len_part (x := x) (k := 8) (b := x / 256 % 256) h0 (by omega) (by omega) (by omega) (by omega); omega)
    | (have g := len_part (x := x) (k := 0) (b := x % 256) h0 (by omega) (by omega) (by omega) (by omega); omega)
end Go.Proofs.YtfbgejgapdpjcaaDoor
