/-
  The document's own answer to chapter 2: operations of one number, and of two; walked. Contracts that the proofs call; no statement is proved here.
-/
import Derived.Test.YtfbgejgapdpjcaaDoorNumRefA
import Derived.Test.YtfbgejgapdpjcaaDoorNumRefB
import Derived.Test.YtfbgejgapdpjcaaDoorNumRefMov
namespace Go.Proofs.YtfbgejgapdpjcaaDoor
open Go.RowKit

theorem truth_bd (b : Bool) : 0 ≤ truth b ∧ truth b ≤ 1 := by cases b <;> decide
theorem ret_two {v e : Int} {r : Int × Int} (h : r = (v, e)) : Ending.returned (.tuple #[.int .u64 v, .int .i64 e]) = .returned (.tuple #[.int .u64 r.1, .int .i64 r.2]) := by rw [h]
set_option maxHeartbeats 400000 in
theorem num_signed32w (a : Int) (w : World) : Calls Tryd.prog 24 #[.int .u64 a, .int .i64 32] w fun e w' => e = .returned (.int .i64 (sgnv 32 (a % 4294967296))) ∧ w = w' := by
  have hs : wrap32 (a % 4294967296) = sgnv 32 (a % 4294967296) := by unfold wrap32 sgnv; split <;> omega
  have hb : -2147483648 ≤ sgnv 32 (a % 4294967296) ∧ sgnv 32 (a % 4294967296) ≤ 2147483647 := by unfold sgnv; split <;> omega
  go_enter Tryd.func24, Tryd.ntmps24
  go_wp2
  go_ret
  exact ⟨by first | rfl | exact ret_int hs, rfl⟩

theorem eq_dec (x y : Int) : (x == y) = decide (x = y) := by by_cases h : x = y <;> simp [h]

set_option maxRecDepth 100000 in
set_option maxHeartbeats 4000000 in
theorem ref_one (op a : Int) (h0 : 0 ≤ a) (w : World) :
    Calls Tryd.prog 15 #[.int .i64 op, .int .u64 a] w fun e w' => e = .returned (.tuple #[.int .u64 (one op a).1, .int .i64 (one op a).2]) ∧ w = w' := by
  have c := num_cut32 a h0
  have hlo : 0 ≤ a % 4294967296 ∧ a % 4294967296 < 4294967296 := by omega
  by_cases h69 : op = 69
  · subst h69
    go_enter Tryd.func15, Tryd.ntmps15
    go_wp2_with (first
      | (go_at_call 22; (with_reducible refine (c _).mono ?_); rintro e w' ⟨rfl, rfl⟩)
      | (go_at_call 21; (with_reducible refine (num_truth _ _).mono ?_); rintro e w' ⟨rfl, rfl⟩))
    go_ret2
    exact ⟨ret_two (by show one 69 a = _; simp [one, eq_dec]), rfl⟩
  by_cases h80 : op = 80
  · subst h80
    go_enter Tryd.func15, Tryd.ntmps15
    go_wp2_with (first
      | (go_at_call 21; (with_reducible refine (num_truth _ _).mono ?_); rintro e w' ⟨rfl, rfl⟩))
    go_ret2
    exact ⟨ret_two (by show one 80 a = _; simp [one, eq_dec]), rfl⟩
  by_cases h103 : op = 103
  · subst h103
    have d : ∀ w, Calls Tryd.prog 23 #[.int .u64 (a % 4294967296), .int .i64 32, .int .i64 0] w fun e w' => e = .returned (.int .u64 (lzr 32 (a % 4294967296) : Nat)) ∧ w = w' := num_count0 (a % 4294967296) 32 (by decide) (by decide)
    go_enter Tryd.func15, Tryd.ntmps15
    go_wp2_with (first
      | (go_at_call 22; (with_reducible refine (c _).mono ?_); rintro e w' ⟨rfl, rfl⟩)
      | (go_at_call 23; (with_reducible refine (d _).mono ?_); rintro e w' ⟨rfl, rfl⟩))
    go_ret2
    exact ⟨ret_two (by show one 103 a = _; rfl), rfl⟩
  by_cases h104 : op = 104
  · subst h104
    have d : ∀ w, Calls Tryd.prog 23 #[.int .u64 (a % 4294967296), .int .i64 32, .int .i64 1] w fun e w' => e = .returned (.int .u64 (tzr 32 0 (a % 4294967296) : Nat)) ∧ w = w' := num_count1 (a % 4294967296) 32 (by decide)
    go_enter Tryd.func15, Tryd.ntmps15
    go_wp2_with (first
      | (go_at_call 22; (with_reducible refine (c _).mono ?_); rintro e w' ⟨rfl, rfl⟩)
      | (go_at_call 23; (with_reducible refine (d _).mono ?_); rintro e w' ⟨rfl, rfl⟩))
    go_ret2
    exact ⟨ret_two (by show one 104 a = _; rfl), rfl⟩
  by_cases h105 : op = 105
  · subst h105
    have d : ∀ w, Calls Tryd.prog 23 #[.int .u64 (a % 4294967296), .int .i64 32, .int .i64 2] w fun e w' => e = .returned (.int .u64 (pcr 32 (a % 4294967296) : Nat)) ∧ w = w' := num_count2 (a % 4294967296) 32 (by decide)
    go_enter Tryd.func15, Tryd.ntmps15
    go_wp2_with (first
      | (go_at_call 22; (with_reducible refine (c _).mono ?_); rintro e w' ⟨rfl, rfl⟩)
      | (go_at_call 23; (with_reducible refine (d _).mono ?_); rintro e w' ⟨rfl, rfl⟩))
    go_ret2
    exact ⟨ret_two (by show one 105 a = _; rfl), rfl⟩
  by_cases h121 : op = 121
  · subst h121
    have d : ∀ w, Calls Tryd.prog 23 #[.int .u64 a, .int .i64 64, .int .i64 0] w fun e w' => e = .returned (.int .u64 (lzr 64 a : Nat)) ∧ w = w' := num_count0 a 64 (by decide) (by decide)
    go_enter Tryd.func15, Tryd.ntmps15
    go_wp2_with (first
      | (go_at_call 23; (with_reducible refine (d _).mono ?_); rintro e w' ⟨rfl, rfl⟩))
    go_ret2
    exact ⟨ret_two (by show one 121 a = _; rfl), rfl⟩
  by_cases h122 : op = 122
  · subst h122
    have d : ∀ w, Calls Tryd.prog 23 #[.int .u64 a, .int .i64 64, .int .i64 1] w fun e w' => e = .returned (.int .u64 (tzr 64 0 a : Nat)) ∧ w = w' := num_count1 a 64 (by decide)
    go_enter Tryd.func15, Tryd.ntmps15
    go_wp2_with (first
      | (go_at_call 23; (with_reducible refine (d _).mono ?_); rintro e w' ⟨rfl, rfl⟩))
    go_ret2
    exact ⟨ret_two (by show one 122 a = _; rfl), rfl⟩
  by_cases h123 : op = 123
  · subst h123
    have d : ∀ w, Calls Tryd.prog 23 #[.int .u64 a, .int .i64 64, .int .i64 2] w fun e w' => e = .returned (.int .u64 (pcr 64 a : Nat)) ∧ w = w' := num_count2 a 64 (by decide)
    go_enter Tryd.func15, Tryd.ntmps15
    go_wp2_with (first
      | (go_at_call 23; (with_reducible refine (d _).mono ?_); rintro e w' ⟨rfl, rfl⟩))
    go_ret2
    exact ⟨ret_two (by show one 123 a = _; rfl), rfl⟩
  by_cases h167 : op = 167
  · subst h167
    go_enter Tryd.func15, Tryd.ntmps15
    go_wp2_with (first
      | (go_at_call 22; (with_reducible refine (c _).mono ?_); rintro e w' ⟨rfl, rfl⟩))
    go_ret2
    exact ⟨ret_two (by show one 167 a = _; rfl), rfl⟩
  by_cases h173 : op = 173
  · subst h173
    go_enter Tryd.func15, Tryd.ntmps15
    go_wp2_with (first
      | (go_at_call 22; (with_reducible refine (c _).mono ?_); rintro e w' ⟨rfl, rfl⟩))
    go_ret2
    exact ⟨ret_two (by show one 173 a = _; rfl), rfl⟩
  by_cases h172 : op = 172
  · subst h172
    have d := num_signed32w a
    go_enter Tryd.func15, Tryd.ntmps15
    go_wp2_with (first
      | (go_at_call 24; (with_reducible refine (d _).mono ?_); rintro e w' ⟨rfl, rfl⟩))
    go_ret2
    exact ⟨ret_two (by show one 172 a = _; rfl), rfl⟩
  go_enter Tryd.func15, Tryd.ntmps15
  go_wp2
  go_ret2
  exact ⟨ret_two (by simp [one, h69, h80, h103, h104, h105, h121, h122, h123, h167, h173, h172]), rfl⟩
end Go.Proofs.YtfbgejgapdpjcaaDoor
