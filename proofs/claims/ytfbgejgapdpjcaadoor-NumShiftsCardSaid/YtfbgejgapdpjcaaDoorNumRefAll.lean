/-
  The document's own answer to chapter 2, whole: operations of two numbers, whatever the code. A contract that the proofs call; no statement is proved here.
-/
import Derived.Test.YtfbgejgapdpjcaaDoorNumRefTwo32
import Derived.Test.YtfbgejgapdpjcaaDoorNumRefTwo64
namespace Go.Proofs.YtfbgejgapdpjcaaDoor
open Go.RowKit

theorem two_t32 {op a b : Int} (h0 : 70 ≤ op) (h1 : op ≤ 79) : two op a b = twoK (op - 70) 32 (a % 2 ^ 32) (b % 2 ^ 32) := by unfold two; rw [if_pos ⟨h0, h1⟩]
theorem two_t64 {op a b : Int} (h0 : 81 ≤ op) (h1 : op ≤ 90) : two op a b = twoK (op - 81) 64 a b := by unfold two; rw [if_neg (by omega), if_pos ⟨h0, h1⟩]
theorem two_none {op a b : Int} (h : op < 70 ∨ op = 80 ∨ (90 < op ∧ op < 106) ∨ (120 < op ∧ op < 124) ∨ 138 < op) : two op a b = (0, 3) := by
  unfold two; rw [if_neg (by omega), if_neg (by omega), if_neg (by omega), if_neg (by omega)]

set_option maxRecDepth 100000 in
set_option maxHeartbeats 2000000 in
theorem ref_two_none (op a b : Int) (h : op < 70 ∨ op = 80 ∨ (90 < op ∧ op < 106) ∨ (120 < op ∧ op < 124) ∨ 138 < op) (w : World) :
    Calls Tryd.prog 17 #[.int .i64 op, .int .u64 a, .int .u64 b] w fun e w' => e = .returned (.tuple #[.int .u64 0, .int .i64 3]) ∧ w = w' := by
  rcases h with h | rfl | h | h | h
  all_goals
    go_enter Tryd.func17, Tryd.ntmps17
    go_wp2
    go_ret2
    exact ⟨rfl, rfl⟩

theorem ref_two (op a b : Int) (ha0 : 0 ≤ a) (ha1 : a ≤ 18446744073709551615) (hb0 : 0 ≤ b) (hb1 : b ≤ 18446744073709551615) (w : World) :
    Calls Tryd.prog 17 #[.int .i64 op, .int .u64 a, .int .u64 b] w fun e w' => e = .returned (.tuple #[.int .u64 (two op a b).1, .int .i64 (two op a b).2]) ∧ w = w' := by
  by_cases hn : op < 70 ∨ op = 80 ∨ (90 < op ∧ op < 106) ∨ (120 < op ∧ op < 124) ∨ 138 < op
  · rw [two_none hn]; exact ref_two_none op a b hn w
  · by_cases h1 : op ≤ 79
    · rw [two_t32 (by omega) h1]; exact ref_two_t32 op a b ha0 ha1 hb0 hb1 (by omega) h1 w
    · by_cases h2 : op ≤ 90
      · rw [two_t64 (by omega) h2]; exact ref_two_t64 op a b ha0 ha1 hb0 hb1 (by omega) h2 w
      · rcases (show op = 106 ∨ op = 107 ∨ op = 108 ∨ op = 109 ∨ op = 110 ∨ op = 111 ∨ op = 112 ∨ op = 113 ∨ op = 114 ∨ op = 115 ∨ op = 116 ∨ op = 117 ∨ op = 118 ∨ op = 119 ∨ op = 120 ∨ op = 124 ∨ op = 125 ∨ op = 126 ∨ op = 127 ∨ op = 128 ∨ op = 129 ∨ op = 130 ∨ op = 131 ∨ op = 132 ∨ op = 133 ∨ op = 134 ∨ op = 135 ∨ op = 136 ∨ op = 137 ∨ op = 138 by omega) with rfl | rfl | rfl | rfl | rfl | rfl | rfl | rfl | rfl | rfl | rfl | rfl | rfl | rfl | rfl | rfl | rfl | rfl | rfl | rfl | rfl | rfl | rfl | rfl | rfl | rfl | rfl | rfl | rfl | rfl
        · exact ref_two_32_10 a b ha0 ha1 hb0 hb1 w
        · exact ref_two_32_11 a b ha0 ha1 hb0 hb1 w
        · exact ref_two_32_12 a b ha0 ha1 hb0 hb1 w
        · exact ref_two_32_13 a b ha0 ha1 hb0 hb1 w
        · exact ref_two_32_14 a b ha0 ha1 hb0 hb1 w
        · exact ref_two_32_15 a b ha0 ha1 hb0 hb1 w
        · exact ref_two_32_16 a b ha0 ha1 hb0 hb1 w
        · exact ref_two_32_17 a b ha0 ha1 hb0 hb1 w
        · exact ref_two_32_18 a b ha0 ha1 hb0 hb1 w
        · exact ref_two_32_19 a b ha0 ha1 hb0 hb1 w
        · exact ref_two_32_20 a b ha0 ha1 hb0 hb1 w
        · exact ref_two_32_21 a b ha0 ha1 hb0 hb1 w
        · exact ref_two_32_22 a b ha0 ha1 hb0 hb1 w
        · exact ref_two_32_23 a b ha0 ha1 hb0 hb1 w
        · exact ref_two_32_24 a b ha0 ha1 hb0 hb1 w
        · exact ref_two_64_10 a b ha0 ha1 hb0 hb1 w
        · exact ref_two_64_11 a b ha0 ha1 hb0 hb1 w
        · exact ref_two_64_12 a b ha0 ha1 hb0 hb1 w
        · exact ref_two_64_13 a b ha0 ha1 hb0 hb1 w
        · exact ref_two_64_14 a b ha0 ha1 hb0 hb1 w
        · exact ref_two_64_15 a b ha0 ha1 hb0 hb1 w
        · exact ref_two_64_16 a b ha0 ha1 hb0 hb1 w
        · exact ref_two_64_17 a b ha0 ha1 hb0 hb1 w
        · exact ref_two_64_18 a b ha0 ha1 hb0 hb1 w
        · exact ref_two_64_19 a b ha0 ha1 hb0 hb1 w
        · exact ref_two_64_20 a b ha0 ha1 hb0 hb1 w
        · exact ref_two_64_21 a b ha0 ha1 hb0 hb1 w
        · exact ref_two_64_22 a b ha0 ha1 hb0 hb1 w
        · exact ref_two_64_23 a b ha0 ha1 hb0 hb1 w
        · exact ref_two_64_24 a b ha0 ha1 hb0 hb1 w
end Go.Proofs.YtfbgejgapdpjcaaDoor
