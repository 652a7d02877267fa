/-
  Package num's own parts: what is asked of two numbers, walked. Contracts that the proofs call; no statement is proved here.
-/
import Derived.Test.YtfbgejgapdpjcaaDoorRows
import Derived.WalkKit
import Derived.WalkSpells
import Derived.WalkLawsBesides
import Derived.Lib.Hide
import Derived.Test.YtfbgejgapdpjcaaDoorNumSpec
namespace Go.Proofs.YtfbgejgapdpjcaaDoor
open Go.RowKit

theorem wrap32_sgn {a : Int} (h0 : 0 ≤ a) (h1 : a < 4294967296) : wrap32 a = sgnv 32 a := by unfold wrap32 sgnv; split <;> omega
theorem wrap64_sgn {a : Int} (h0 : 0 ≤ a) (h1 : a < 18446744073709551616) : wrap64 a = sgnv 64 a := by unfold wrap64 sgnv; split <;> omega
theorem ret_boolc {a b : Bool} (h : a = b) : Ending.returned (.bool a) = .returned (.bool b) := by rw [h]

set_option maxHeartbeats 400000 in
theorem code_truth (b : Bool) (w : World) : Calls Tryd.prog 25 #[.bool b] w fun e w' => e = .returned (.int .u64 (truth b)) ∧ w = w' := by
  cases b
  all_goals
    go_enter Tryd.func25, Tryd.ntmps25
    go_wp2
    go_ret
    exact ⟨rfl, rfl⟩

set_option maxHeartbeats 1000000 in
theorem code_holds32 (k a b : Int) (hk0 : 0 ≤ k) (hk1 : k ≤ 9) (ha0 : 0 ≤ a) (ha1 : a < 4294967296) (hb0 : 0 ≤ b) (hb1 : b < 4294967296) (w : World) :
    Calls Tryd.prog 26 #[.int .i64 k, .int .u32 a, .int .u32 b] w fun e w' => e = .returned (.bool (tst k 32 a b)) ∧ w = w' := by
  have sa := wrap32_sgn ha0 ha1
  have sb := wrap32_sgn hb0 hb1
  have hab : a ≠ b → sgnv 32 a ≠ sgnv 32 b := by unfold sgnv; split <;> split <;> omega
  obtain rfl | rfl | rfl | rfl | rfl | rfl | rfl | rfl | rfl | rfl : k = 0 ∨ k = 1 ∨ k = 2 ∨ k = 3 ∨ k = 4 ∨ k = 5 ∨ k = 6 ∨ k = 7 ∨ k = 8 ∨ k = 9 := by omega
  all_goals
    go_enter Tryd.func26, Tryd.ntmps26
    go_wp2
    go_ret
    refine ⟨ret_boolc ?_, rfl⟩
    simp only [tst, less]
    try simp
  · rfl
  all_goals
    by_cases h : a = b
    · subst h; simp <;> omega
    · have := hab h
      rw [Bool.eq_iff_iff]; simp [h]; try omega

set_option maxHeartbeats 1000000 in
theorem code_holds64 (k a b : Int) (hk0 : 0 ≤ k) (hk1 : k ≤ 9) (ha0 : 0 ≤ a) (ha1 : a < 18446744073709551616) (hb0 : 0 ≤ b) (hb1 : b < 18446744073709551616) (w : World) :
    Calls Tryd.prog 27 #[.int .i64 k, .int .u64 a, .int .u64 b] w fun e w' => e = .returned (.bool (tst k 64 a b)) ∧ w = w' := by
  have sa := wrap64_sgn ha0 ha1
  have sb := wrap64_sgn hb0 hb1
  have hab : a ≠ b → sgnv 64 a ≠ sgnv 64 b := by unfold sgnv; split <;> split <;> omega
  obtain rfl | rfl | rfl | rfl | rfl | rfl | rfl | rfl | rfl | rfl : k = 0 ∨ k = 1 ∨ k = 2 ∨ k = 3 ∨ k = 4 ∨ k = 5 ∨ k = 6 ∨ k = 7 ∨ k = 8 ∨ k = 9 := by omega
  all_goals
    go_enter Tryd.func27, Tryd.ntmps27
    go_wp2
    go_ret
    refine ⟨ret_boolc ?_, rfl⟩
    simp only [tst, less]
    try simp
  · rfl
  all_goals
    by_cases h : a = b
    · subst h; simp <;> omega
    · have := hab h
      rw [Bool.eq_iff_iff]; simp [h]; try omega
end Go.Proofs.YtfbgejgapdpjcaaDoor
