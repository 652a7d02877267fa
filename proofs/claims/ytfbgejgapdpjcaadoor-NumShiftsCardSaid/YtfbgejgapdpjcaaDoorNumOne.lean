/-
  num.One, whole: whatever the code, it answers what the document's chapter says. A contract that the proofs call; no statement is proved here.
-/
import Derived.Test.YtfbgejgapdpjcaaDoorNumFns
import Derived.Test.YtfbgejgapdpjcaaDoorNumTwo
namespace Go.Proofs.YtfbgejgapdpjcaaDoor
open Go.RowKit
set_option linter.unusedVariables false

theorem bt0 {w w1 w2 : World} (h1 : Below w.heap.size w w1) (h2 : Below w1.heap.size w1 w2) : Below w.heap.size w w2 := h1.trans (h2.mono h1.size)
theorem ret_u64 {a b : Int} (h : a = b) : Ending.returned (.int .u64 a) = .returned (.int .u64 b) := by rw [h]
theorem ret_uv {a b e : Int} (h : a = b) : Ending.returned (.tuple #[.int .u64 a, .int .i64 e]) = .returned (.tuple #[.int .u64 b, .int .i64 e]) := by rw [h]

set_option maxHeartbeats 1000000 in
theorem fn_half_1 (a : Int) (h0 : 0 ≤ a) (h1 : a ≤ 4294967295) (w : World) :
    Calls Tryd.prog 33 #[.int .u32 a] w fun e w' => e = .returned (.int .u64 (truth (decide (a = 0)))) ∧ Below w.heap.size w w' := by
  have t0 := truth_bd (a == 0)
  go_enter Tryd.func33, Tryd.ntmps33
  go_wp2_with (go_at_call 25; (with_reducible refine (code_truth _ _).mono ?_); rintro e w' ⟨rfl, rfl⟩)
  go_ret
  exact ⟨ret_u64 (by rw [eq_dec]), Below.refl _ _⟩

set_option maxHeartbeats 1000000 in
theorem fn_half_2 (a : Int) (h0 : 0 ≤ a) (h1 : a ≤ 4294967295) (w : World) :
    Calls Tryd.prog 34 #[.int .u32 a] w fun e w' => e = .returned (.int .u64 ((lzr 32 a : Nat))) ∧ Below w.heap.size w w' := by
  have c := lib_lz32 a h0 h1
  have hb := lzr_le 32 a
  generalize lzr 32 a = r at *
  go_enter Tryd.func34, Tryd.ntmps34
  go_wp2_with (go_at_call 35; (with_reducible refine (c _).mono ?_); rintro e w' ⟨rfl, rfl⟩)
  go_ret
  exact ⟨rfl, Below.refl _ _⟩

set_option maxHeartbeats 1000000 in
theorem fn_half_3 (a : Int) (h0 : 0 ≤ a) (h1 : a ≤ 4294967295) (w : World) (hL : Laid w) :
    Calls Tryd.prog 36 #[.int .u32 a] w fun e w' => e = .returned (.int .u64 ((tzr 32 0 a : Nat))) ∧ Below w.heap.size w w' := by
  have c := lib_tz32 a h0 h1 w hL
  have hb := tzr_le 32 0 a
  generalize tzr 32 0 a = r at *
  go_enter Tryd.func36, Tryd.ntmps36
  go_wp2_with (go_at_call 37; (with_reducible refine (c).mono ?_); rintro e w' ⟨rfl, rfl⟩)
  go_ret
  exact ⟨rfl, Below.refl _ _⟩

set_option maxHeartbeats 1000000 in
theorem fn_half_4 (a : Int) (h0 : 0 ≤ a) (h1 : a ≤ 4294967295) (w : World) :
    Calls Tryd.prog 38 #[.int .u32 a] w fun e w' => e = .returned (.int .u64 ((pcr 32 a : Nat))) ∧ Below w.heap.size w w' := by
  have c := lib_ones32 a h0 h1 w
  have hb := pcr_le 32 a
  generalize pcr 32 a = r at *
  go_enter Tryd.func38, Tryd.ntmps38
  go_wp2_with (go_at_call 39; (with_reducible refine c.mono ?_); rintro e w' ⟨rfl, hB⟩)
  go_ret
  exact ⟨rfl, hB⟩

set_option maxHeartbeats 1000000 in
theorem fn_half_5 (a : Int) (h0 : 0 ≤ a) (h1 : a ≤ 4294967295) (w : World) :
    Calls Tryd.prog 40 #[.int .u32 a] w fun e w' => e = .returned (.int .u64 (sgnv 32 a % 18446744073709551616)) ∧ Below w.heap.size w w' := by
  have s := wrap32_sgn h0 (by omega)
  have hb : -2147483648 ≤ sgnv 32 a ∧ sgnv 32 a ≤ 2147483647 := by unfold sgnv; split <;> omega
  have wr := IntKind.wrap_u64 (sgnv 32 a)
  generalize sgnv 32 a = r at *
  go_enter Tryd.func40, Tryd.ntmps40
  go_wp2
  go_ret
  exact ⟨by first | rfl | exact ret_u64 (by omega), Below.refl _ _⟩

set_option maxHeartbeats 1000000 in
theorem fn_half_6 (a : Int) (h0 : 0 ≤ a) (h1 : a ≤ 4294967295) (w : World) :
    Calls Tryd.prog 41 #[.int .u32 a] w fun e w' => e = .returned (.int .u64 (a)) ∧ Below w.heap.size w w' := by
  go_enter Tryd.func41, Tryd.ntmps41
  go_wp2
  go_ret
  exact ⟨rfl, Below.refl _ _⟩

set_option maxHeartbeats 1000000 in
theorem fn_whole_1 (a : Int) (h0 : 0 ≤ a) (h1 : a ≤ 18446744073709551615) (w : World) :
    Calls Tryd.prog 42 #[.int .u64 a] w fun e w' => e = .returned (.int .u64 (truth (decide (a = 0)))) ∧ Below w.heap.size w w' := by
  have t0 := truth_bd (a == 0)
  go_enter Tryd.func42, Tryd.ntmps42
  go_wp2_with (go_at_call 25; (with_reducible refine (code_truth _ _).mono ?_); rintro e w' ⟨rfl, rfl⟩)
  go_ret
  exact ⟨ret_u64 (by rw [eq_dec]), Below.refl _ _⟩

set_option maxHeartbeats 1000000 in
theorem fn_whole_2 (a : Int) (h0 : 0 ≤ a) (h1 : a ≤ 18446744073709551615) (w : World) :
    Calls Tryd.prog 43 #[.int .u64 a] w fun e w' => e = .returned (.int .u64 ((lzr 64 a : Nat))) ∧ Below w.heap.size w w' := by
  have c := lib_lz64 a h0 h1
  have hb := lzr_le 64 a
  generalize lzr 64 a = r at *
  go_enter Tryd.func43, Tryd.ntmps43
  go_wp2_with (go_at_call 44; (with_reducible refine (c _).mono ?_); rintro e w' ⟨rfl, rfl⟩)
  go_ret
  exact ⟨rfl, Below.refl _ _⟩

set_option maxHeartbeats 1000000 in
theorem fn_whole_3 (a : Int) (h0 : 0 ≤ a) (h1 : a ≤ 18446744073709551615) (w : World) (hL : Laid w) :
    Calls Tryd.prog 45 #[.int .u64 a] w fun e w' => e = .returned (.int .u64 ((tzr 64 0 a : Nat))) ∧ Below w.heap.size w w' := by
  have c := lib_tz64 a h0 h1 w hL
  have hb := tzr_le 64 0 a
  generalize tzr 64 0 a = r at *
  go_enter Tryd.func45, Tryd.ntmps45
  go_wp2_with (go_at_call 46; (with_reducible refine (c).mono ?_); rintro e w' ⟨rfl, rfl⟩)
  go_ret
  exact ⟨rfl, Below.refl _ _⟩

set_option maxHeartbeats 1000000 in
theorem fn_whole_4 (a : Int) (h0 : 0 ≤ a) (h1 : a ≤ 18446744073709551615) (w : World) :
    Calls Tryd.prog 47 #[.int .u64 a] w fun e w' => e = .returned (.int .u64 ((pcr 64 a : Nat))) ∧ Below w.heap.size w w' := by
  obtain ⟨n, rfl⟩ : ∃ n : Nat, a = n := ⟨a.toNat, by omega⟩
  have c := lib_ones64 n (by omega)
  have hb := pcr_le 64 (n : Int)
  generalize pcr 64 (n : Int) = r at *
  go_enter Tryd.func47, Tryd.ntmps47
  go_wp2_with (go_at_call 48; (with_reducible refine (c _).mono ?_); rintro e w' ⟨rfl, rfl⟩)
  go_ret
  exact ⟨rfl, Below.refl _ _⟩

set_option maxHeartbeats 1000000 in
theorem fn_whole_5 (a : Int) (h0 : 0 ≤ a) (h1 : a ≤ 18446744073709551615) (w : World) :
    Calls Tryd.prog 49 #[.int .u64 a] w fun e w' => e = .returned (.int .u64 (a % 4294967296)) ∧ Below w.heap.size w w' := by
  go_enter Tryd.func49, Tryd.ntmps49
  go_wp2
  go_ret
  exact ⟨rfl, Below.refl _ _⟩

set_option maxRecDepth 100000 in
set_option maxHeartbeats 4000000 in
theorem num_one (op a : Int) (hop0 : -9223372036854775808 ≤ op) (hop1 : op ≤ 9223372036854775807) (ha0 : 0 ≤ a) (ha1 : a ≤ 18446744073709551615) (w : World) (hL : Laid w) :
    Calls Tryd.prog 14 #[.int .i64 op, .int .u64 a] w fun e w' => e = .returned (.tuple #[.int .u64 (one op a).1, .int .i64 (one op a).2]) ∧ Below w.heap.size w w' := by
  have hB := Below.refl w.heap.size w
  by_cases c69 : op = 69
  · subst c69
    have e : one 69 a = (truth (decide (a % 4294967296 = 0)), 0) := rfl
    rw [e]
    have c := fun w => fn_half_1 (a % 4294967296) (by omega) (by omega) w
    generalize (truth (decide (a % 4294967296 = 0))) = r at c ⊢
    go_enter Tryd.func14, Tryd.ntmps14
    go_wp2_with (first | (go_at_call 19; (with_reducible refine (half_69 _).mono ?_); rintro e w1 ⟨rfl, hb⟩; replace hB := bt0 hB hb; clear hb) | (go_at_call 33; (with_reducible refine (c _).mono ?_); rintro e w1 ⟨rfl, hb⟩; replace hB := bt0 hB hb; clear hb))
    go_ret2
    exact ⟨rfl, hB⟩
  by_cases c103 : op = 103
  · subst c103
    have e : one 103 a = (((lzr 32 (a % 4294967296) : Nat) : Int), 0) := rfl
    rw [e]
    have c := fun w => fn_half_2 (a % 4294967296) (by omega) (by omega) w
    generalize (((lzr 32 (a % 4294967296) : Nat) : Int)) = r at c ⊢
    go_enter Tryd.func14, Tryd.ntmps14
    go_wp2_with (first | (go_at_call 19; (with_reducible refine (half_103 _).mono ?_); rintro e w1 ⟨rfl, hb⟩; replace hB := bt0 hB hb; clear hb) | (go_at_call 34; (with_reducible refine (c _).mono ?_); rintro e w1 ⟨rfl, hb⟩; replace hB := bt0 hB hb; clear hb))
    go_ret2
    exact ⟨rfl, hB⟩
  by_cases c104 : op = 104
  · subst c104
    have e : one 104 a = (((tzr 32 0 (a % 4294967296) : Nat) : Int), 0) := rfl
    rw [e]
    have c := fun w => fn_half_3 (a % 4294967296) (by omega) (by omega) w
    generalize (((tzr 32 0 (a % 4294967296) : Nat) : Int)) = r at c ⊢
    go_enter Tryd.func14, Tryd.ntmps14
    go_wp2_with (first | (go_at_call 19; (with_reducible refine (half_104 _).mono ?_); rintro e w1 ⟨rfl, hb⟩; replace hB := bt0 hB hb; clear hb) | (go_at_call 36; (with_reducible refine (c _ (hL.below hB)).mono ?_); rintro e w1 ⟨rfl, hb⟩; replace hB := bt0 hB hb; clear hb))
    go_ret2
    exact ⟨rfl, hB⟩
  by_cases c105 : op = 105
  · subst c105
    have e : one 105 a = (((pcr 32 (a % 4294967296) : Nat) : Int), 0) := rfl
    rw [e]
    have c := fun w => fn_half_4 (a % 4294967296) (by omega) (by omega) w
    generalize (((pcr 32 (a % 4294967296) : Nat) : Int)) = r at c ⊢
    go_enter Tryd.func14, Tryd.ntmps14
    go_wp2_with (first | (go_at_call 19; (with_reducible refine (half_105 _).mono ?_); rintro e w1 ⟨rfl, hb⟩; replace hB := bt0 hB hb; clear hb) | (go_at_call 38; (with_reducible refine (c _).mono ?_); rintro e w1 ⟨rfl, hb⟩; replace hB := bt0 hB hb; clear hb))
    go_ret2
    exact ⟨rfl, hB⟩
  by_cases c172 : op = 172
  · subst c172
    have e : one 172 a = (sgnv 32 (a % 4294967296) % 18446744073709551616, 0) := rfl
    rw [e]
    have c := fun w => fn_half_5 (a % 4294967296) (by omega) (by omega) w
    generalize (sgnv 32 (a % 4294967296) % 18446744073709551616) = r at c ⊢
    go_enter Tryd.func14, Tryd.ntmps14
    go_wp2_with (first | (go_at_call 19; (with_reducible refine (half_172 _).mono ?_); rintro e w1 ⟨rfl, hb⟩; replace hB := bt0 hB hb; clear hb) | (go_at_call 40; (with_reducible refine (c _).mono ?_); rintro e w1 ⟨rfl, hb⟩; replace hB := bt0 hB hb; clear hb))
    go_ret2
    exact ⟨rfl, hB⟩
  by_cases c173 : op = 173
  · subst c173
    have e : one 173 a = (a % 4294967296, 0) := rfl
    rw [e]
    have c := fun w => fn_half_6 (a % 4294967296) (by omega) (by omega) w
    go_enter Tryd.func14, Tryd.ntmps14
    go_wp2_with (first | (go_at_call 19; (with_reducible refine (half_173 _).mono ?_); rintro e w1 ⟨rfl, hb⟩; replace hB := bt0 hB hb; clear hb) | (go_at_call 41; (with_reducible refine (c _).mono ?_); rintro e w1 ⟨rfl, hb⟩; replace hB := bt0 hB hb; clear hb))
    go_ret2
    exact ⟨rfl, hB⟩
  by_cases c80 : op = 80
  · subst c80
    have e : one 80 a = (truth (decide (a = 0)), 0) := rfl
    rw [e]
    have c := fun w => fn_whole_1 a (by omega) (by omega) w
    generalize (truth (decide (a = 0))) = r at c ⊢
    have d := half_none 80 (by decide) (by decide) (by decide)
    go_enter Tryd.func14, Tryd.ntmps14
    go_wp2_with (first | (go_at_call 19; (with_reducible refine (d _).mono ?_); rintro e w1 ⟨rfl, hb⟩; replace hB := bt0 hB hb; clear hb) | (go_at_call 20; (with_reducible refine (whole_80 _).mono ?_); rintro e w1 ⟨rfl, hb⟩; replace hB := bt0 hB hb; clear hb) | (go_at_call 42; (with_reducible refine (c _).mono ?_); rintro e w1 ⟨rfl, hb⟩; replace hB := bt0 hB hb; clear hb))
    go_ret2
    exact ⟨rfl, hB⟩
  by_cases c121 : op = 121
  · subst c121
    have e : one 121 a = (((lzr 64 a : Nat) : Int), 0) := rfl
    rw [e]
    have c := fun w => fn_whole_2 a (by omega) (by omega) w
    generalize (((lzr 64 a : Nat) : Int)) = r at c ⊢
    have d := half_none 121 (by decide) (by decide) (by decide)
    go_enter Tryd.func14, Tryd.ntmps14
    go_wp2_with (first | (go_at_call 19; (with_reducible refine (d _).mono ?_); rintro e w1 ⟨rfl, hb⟩; replace hB := bt0 hB hb; clear hb) | (go_at_call 20; (with_reducible refine (whole_121 _).mono ?_); rintro e w1 ⟨rfl, hb⟩; replace hB := bt0 hB hb; clear hb) | (go_at_call 43; (with_reducible refine (c _).mono ?_); rintro e w1 ⟨rfl, hb⟩; replace hB := bt0 hB hb; clear hb))
    go_ret2
    exact ⟨rfl, hB⟩
  by_cases c122 : op = 122
  · subst c122
    have e : one 122 a = (((tzr 64 0 a : Nat) : Int), 0) := rfl
    rw [e]
    have c := fun w => fn_whole_3 a (by omega) (by omega) w
    generalize (((tzr 64 0 a : Nat) : Int)) = r at c ⊢
    have d := half_none 122 (by decide) (by decide) (by decide)
    go_enter Tryd.func14, Tryd.ntmps14
    go_wp2_with (first | (go_at_call 19; (with_reducible refine (d _).mono ?_); rintro e w1 ⟨rfl, hb⟩; replace hB := bt0 hB hb; clear hb) | (go_at_call 20; (with_reducible refine (whole_122 _).mono ?_); rintro e w1 ⟨rfl, hb⟩; replace hB := bt0 hB hb; clear hb) | (go_at_call 45; (with_reducible refine (c _ (hL.below hB)).mono ?_); rintro e w1 ⟨rfl, hb⟩; replace hB := bt0 hB hb; clear hb))
    go_ret2
    exact ⟨rfl, hB⟩
  by_cases c123 : op = 123
  · subst c123
    have e : one 123 a = (((pcr 64 a : Nat) : Int), 0) := rfl
    rw [e]
    have c := fun w => fn_whole_4 a (by omega) (by omega) w
    generalize (((pcr 64 a : Nat) : Int)) = r at c ⊢
    have d := half_none 123 (by decide) (by decide) (by decide)
    go_enter Tryd.func14, Tryd.ntmps14
    go_wp2_with (first | (go_at_call 19; (with_reducible refine (d _).mono ?_); rintro e w1 ⟨rfl, hb⟩; replace hB := bt0 hB hb; clear hb) | (go_at_call 20; (with_reducible refine (whole_123 _).mono ?_); rintro e w1 ⟨rfl, hb⟩; replace hB := bt0 hB hb; clear hb) | (go_at_call 47; (with_reducible refine (c _).mono ?_); rintro e w1 ⟨rfl, hb⟩; replace hB := bt0 hB hb; clear hb))
    go_ret2
    exact ⟨rfl, hB⟩
  by_cases c167 : op = 167
  · subst c167
    have e : one 167 a = (a % 4294967296, 0) := rfl
    rw [e]
    have c := fun w => fn_whole_5 a (by omega) (by omega) w
    generalize (a % 4294967296) = r at c ⊢
    have d := half_none 167 (by decide) (by decide) (by decide)
    go_enter Tryd.func14, Tryd.ntmps14
    go_wp2_with (first | (go_at_call 19; (with_reducible refine (d _).mono ?_); rintro e w1 ⟨rfl, hb⟩; replace hB := bt0 hB hb; clear hb) | (go_at_call 20; (with_reducible refine (whole_167 _).mono ?_); rintro e w1 ⟨rfl, hb⟩; replace hB := bt0 hB hb; clear hb) | (go_at_call 49; (with_reducible refine (c _).mono ?_); rintro e w1 ⟨rfl, hb⟩; replace hB := bt0 hB hb; clear hb))
    go_ret2
    exact ⟨rfl, hB⟩
  have e : one op a = (0, 3) := by
    unfold one
    simp only [c69, c80, c103, c104, c105, c121, c122, c123, c167, c173, c172, if_false]
  rw [e]
  have d1 := half_none op hop0 hop1 ⟨c69, c103, c104, c105, c172, c173⟩
  have d2 := whole_none op hop0 hop1 ⟨c80, c121, c122, c123, c167⟩
  clear c69 c80 c103 c104 c105 c121 c122 c123 c167 c173 c172
  go_enter Tryd.func14, Tryd.ntmps14
  go_wp2_with (first | (go_at_call 19; (with_reducible refine (d1 _).mono ?_); rintro e w1 ⟨rfl, hb⟩; replace hB := bt0 hB hb; clear hb) | (go_at_call 20; (with_reducible refine (d2 _).mono ?_); rintro e w1 ⟨rfl, hb⟩; replace hB := bt0 hB hb; clear hb))
  go_ret2
  exact ⟨rfl, hB⟩
end Go.Proofs.YtfbgejgapdpjcaaDoor
