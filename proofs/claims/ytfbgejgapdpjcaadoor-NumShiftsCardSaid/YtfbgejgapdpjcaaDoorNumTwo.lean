/-
  num.Two, whole: whatever the code, it answers what the document's chapter says. A contract that the proofs call; no statement is proved here.
-/
import Derived.Test.YtfbgejgapdpjcaaDoorNumMade
import Derived.Test.YtfbgejgapdpjcaaDoorNumRefAll
import Derived.Test.YtfbgejgapdpjcaaDoorNumPlain
namespace Go.Proofs.YtfbgejgapdpjcaaDoor
open Go.RowKit

theorem two_m32 {op a b : Int} (h0 : 106 ≤ op) (h1 : op ≤ 120) : two op a b = twoK (op - 106 + 10) 32 (a % 4294967296) (b % 4294967296) := by
  unfold two; rw [if_neg (by omega), if_neg (by omega), if_pos ⟨h0, h1⟩]; rfl
theorem two_m64 {op a b : Int} (h0 : 124 ≤ op) (h1 : op ≤ 138) : two op a b = twoK (op - 124 + 10) 64 a b := by
  unfold two; rw [if_neg (by omega), if_neg (by omega), if_neg (by omega), if_pos ⟨h0, h1⟩]

set_option maxRecDepth 100000 in
set_option maxHeartbeats 4000000 in
theorem num_two (op a b : Int) (ha0 : 0 ≤ a) (ha1 : a ≤ 18446744073709551615) (hb0 : 0 ≤ b) (hb1 : b ≤ 18446744073709551615) (w : World) :
    Calls Tryd.prog 16 #[.int .i64 op, .int .u64 a, .int .u64 b] w fun e w' => e = .returned (.tuple #[.int .u64 (two op a b).1, .int .i64 (two op a b).2]) ∧ Below w.heap.size w w' := by
  by_cases h1 : 70 ≤ op ∧ op ≤ 79
  · obtain ⟨l, u⟩ := h1
    have e : two op a b = (truth (tst (op - 70) 32 (a % 4294967296) (b % 4294967296)), 0) := by
      rw [two_t32 l u]; unfold twoK; rw [if_pos (by omega)]; rfl
    rw [e]
    have c := code_holds32 (op - 70) (a % 4294967296) (b % 4294967296) (by omega) (by omega) (by omega) (by omega) (by omega) (by omega)
    generalize tst (op - 70) 32 (a % 4294967296) (b % 4294967296) = t at c ⊢
    have ct := code_truth t
    have ht := truth_bd t
    go_enter Tryd.func16, Tryd.ntmps16
    go_wp2_with (first | (go_at_call 26; (with_reducible refine (c _).mono ?_); rintro e w' ⟨rfl, rfl⟩) | (go_at_call 25; (with_reducible refine (ct _).mono ?_); rintro e w' ⟨rfl, rfl⟩))
    go_ret2
    exact ⟨rfl, Below.refl _ _⟩
  by_cases h2 : 81 ≤ op ∧ op ≤ 90
  · obtain ⟨l, u⟩ := h2
    have e : two op a b = (truth (tst (op - 81) 64 a b), 0) := by
      rw [two_t64 l u]; unfold twoK; rw [if_pos (by omega)]
    rw [e]
    have c := code_holds64 (op - 81) a b (by omega) (by omega) (by omega) (by omega) (by omega) (by omega)
    generalize tst (op - 81) 64 a b = t at c ⊢
    have ct := code_truth t
    have ht := truth_bd t
    go_enter Tryd.func16, Tryd.ntmps16
    go_wp2_with (first | (go_at_call 27; (with_reducible refine (c _).mono ?_); rintro e w' ⟨rfl, rfl⟩) | (go_at_call 25; (with_reducible refine (ct _).mono ?_); rintro e w' ⟨rfl, rfl⟩))
    go_ret2
    exact ⟨rfl, Below.refl _ _⟩
  by_cases h3 : 106 ≤ op ∧ op ≤ 120
  · obtain ⟨l, u⟩ := h3
    have e : two op a b = twoK (op - 106 + 10) 32 (a % 4294967296) (b % 4294967296) := two_m32 l u
    rw [e]
    have c := code_made32 (op - 106) (a % 4294967296) (b % 4294967296) (by omega) (by omega) (by omega) (by omega) (by omega) (by omega)
    have hr := twoK_bd (kind := op - 106 + 10) (a := a) (b := b) (by omega)
    simp only [show (2 : Int) ^ 32 = 4294967296 by decide] at hr
    generalize twoK (op - 106 + 10) 32 (a % 4294967296) (b % 4294967296) = r at c hr ⊢
    have hw : IntKind.u64.wrap r.1 = r.1 := wrap_in64 (by omega)
    go_enter Tryd.func16, Tryd.ntmps16
    go_wp2_with ((go_at_call 28; (with_reducible refine (c _).mono ?_); rintro e w' ⟨rfl, rfl⟩))
    go_ret2
    exact ⟨rfl, Below.refl _ _⟩
  by_cases h4 : 124 ≤ op ∧ op ≤ 138
  · obtain ⟨l, u⟩ := h4
    have e : two op a b = twoK (op - 124 + 10) 64 a b := two_m64 l u
    rw [e]
    have c := code_made64 (op - 124) a b (by omega) (by omega) (by omega) (by omega) (by omega) (by omega)
    generalize twoK (op - 124 + 10) 64 a b = r at c ⊢
    go_enter Tryd.func16, Tryd.ntmps16
    go_wp2_with ((go_at_call 29; (with_reducible refine (c _).mono ?_); rintro e w' ⟨rfl, rfl⟩))
    go_ret2
    exact ⟨rfl, Below.refl _ _⟩
  have e : two op a b = (0, 3) := two_none (by omega)
  rw [e]
  rcases (show op < 70 ∨ op = 80 ∨ (90 < op ∧ op < 106) ∨ (120 < op ∧ op < 124) ∨ 138 < op by omega) with h | rfl | h | h | h
  all_goals
    clear h1 h2 h3 h4
    go_enter Tryd.func16, Tryd.ntmps16
    go_wp2
    go_ret2
    exact ⟨rfl, Below.refl _ _⟩
end Go.Proofs.YtfbgejgapdpjcaaDoor
