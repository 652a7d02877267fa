/-
  What package value's operators do with two numbers, and with their scales: the closures of its table, walked. Contracts that the proofs call; no statement is proved here.
-/
import Derived.Test.YtfjoobopfjahcaaDoorVuScale
import Derived.Test.YtfjoobopfjahcaaDoorVuRefC
namespace Go.Proofs.YtfjoobopfjahcaaDoor
open Go.RowKit

set_option maxHeartbeats 1000000 in
theorem op_max (a b : Int) (w : World) : Calls Tryd.prog 55 #[.int .i64 a, .int .i64 b] w fun e w' => e = .returned (.int .i64 (max a b)) ∧ Below w.heap.size w w' := by
  go_enter Tryd.func55, Tryd.ntmps55
  go_wp2
  go_ret
  exact ⟨rfl, Below.refl _ _⟩
set_option maxHeartbeats 1000000 in
theorem op_both (a b : Int) (ha : 0 ≤ a ∧ a ≤ 9) (hb : 0 ≤ b ∧ b ≤ 9) (w : World) : Calls Tryd.prog 56 #[.int .i64 a, .int .i64 b] w fun e w' => e = .returned (.int .i64 (a + b)) ∧ Below w.heap.size w w' := by
  go_enter Tryd.func56, Tryd.ntmps56
  go_wp2
  go_ret
  exact ⟨rfl, Below.refl _ _⟩
set_option maxHeartbeats 1000000 in
theorem op_first (a b : Int) (w : World) : Calls Tryd.prog 62 #[.int .i64 a, .int .i64 b] w fun e w' => e = .returned (.int .i64 (if b = 0 then a else -1)) ∧ Below w.heap.size w w' := by
  by_cases h : b = 0
  · subst h
    go_enter Tryd.func62, Tryd.ntmps62
    go_wp2
    go_ret
    exact ⟨rfl, Below.refl _ _⟩
  · have hb : (b != 0) = true := by simpa using h
    rw [if_neg h]
    clear h
    go_enter Tryd.func62, Tryd.ntmps62
    go_wp2
    go_ret
    exact ⟨rfl, Below.refl _ _⟩

theorem w128_add {a b : Int} (ha : -9223372036854775808 ≤ a ∧ a ≤ 9223372036854775807) (hb : -9223372036854775808 ≤ b ∧ b ≤ 9223372036854775807) : W128 (a + b) ∧ W128 (a - b) := by unfold W128; omega
theorem w128_mul {a b : Int} (ha : -9223372036854775808 ≤ a ∧ a ≤ 9223372036854775807) (hb : -9223372036854775808 ≤ b ∧ b ≤ 9223372036854775807) : W128 (a * b) := by have := mul_bd ha hb; unfold W128; omega

set_option maxHeartbeats 2000000 in
theorem op_plus (a b : Int) (ha : -9223372036854775808 ≤ a ∧ a ≤ 9223372036854775807) (hb : -9223372036854775808 ≤ b ∧ b ≤ 9223372036854775807) (w : World) :
    Calls Tryd.prog 57 #[.int .i64 a, .int .i64 b] w fun e w' => e = .returned (.tuple #[.int .i64 (fitN (a + b)).1, .int .i64 (fitN (a + b)).2]) ∧ Below w.heap.size w w' := by
  have c1 := fun w => w_widen a ha w
  have c2 := fun w => w_widen b hb w
  have c3 := fun w => w_plus a b w
  have c4 := fun w => w_narrow (a + b) (w128_add ha hb).1 w
  have hB := Below.refl w.heap.size w
  generalize fitN (a + b) = r at *
  obtain ⟨r1, r2⟩ := r
  go_enter Tryd.func57, Tryd.ntmps57
  go_wp2_with (first
    | (go_at_call 32; (with_reducible refine (c1 _).mono ?_); rintro e w1 ⟨rfl, hb1⟩; replace hB := bt hB hb1; clear hb1)
    | (go_at_call 32; (with_reducible refine (c2 _).mono ?_); rintro e w1 ⟨rfl, hb1⟩; replace hB := bt hB hb1; clear hb1)
    | (go_at_call 46; (with_reducible refine (c3 _).mono ?_); rintro e w1 ⟨rfl, hb1⟩; replace hB := bt hB hb1; clear hb1)
    | (go_at_call 34; (with_reducible refine (c4 _).mono ?_); rintro e w1 ⟨rfl, hb1⟩; replace hB := bt hB hb1; clear hb1))
  go_ret2
  exact ⟨rfl, hB⟩
set_option maxHeartbeats 2000000 in
theorem op_minus (a b : Int) (ha : -9223372036854775808 ≤ a ∧ a ≤ 9223372036854775807) (hb : -9223372036854775808 ≤ b ∧ b ≤ 9223372036854775807) (w : World) :
    Calls Tryd.prog 58 #[.int .i64 a, .int .i64 b] w fun e w' => e = .returned (.tuple #[.int .i64 (fitN (a - b)).1, .int .i64 (fitN (a - b)).2]) ∧ Below w.heap.size w w' := by
  have c1 := fun w => w_widen a ha w
  have c2 := fun w => w_widen b hb w
  have c3 := fun w => w_minus a b w
  have c4 := fun w => w_narrow (a - b) (w128_add ha hb).2 w
  have hB := Below.refl w.heap.size w
  generalize fitN (a - b) = r at *
  obtain ⟨r1, r2⟩ := r
  go_enter Tryd.func58, Tryd.ntmps58
  go_wp2_with (first
    | (go_at_call 32; (with_reducible refine (c1 _).mono ?_); rintro e w1 ⟨rfl, hb1⟩; replace hB := bt hB hb1; clear hb1)
    | (go_at_call 32; (with_reducible refine (c2 _).mono ?_); rintro e w1 ⟨rfl, hb1⟩; replace hB := bt hB hb1; clear hb1)
    | (go_at_call 59; (with_reducible refine (c3 _).mono ?_); rintro e w1 ⟨rfl, hb1⟩; replace hB := bt hB hb1; clear hb1)
    | (go_at_call 34; (with_reducible refine (c4 _).mono ?_); rintro e w1 ⟨rfl, hb1⟩; replace hB := bt hB hb1; clear hb1))
  go_ret2
  exact ⟨rfl, hB⟩
set_option maxHeartbeats 2000000 in
theorem op_times (a b : Int) (ha : -9223372036854775808 ≤ a ∧ a ≤ 9223372036854775807) (hb : -9223372036854775808 ≤ b ∧ b ≤ 9223372036854775807) (w : World) :
    Calls Tryd.prog 60 #[.int .i64 a, .int .i64 b] w fun e w' => e = .returned (.tuple #[.int .i64 (fitN (a * b)).1, .int .i64 (fitN (a * b)).2]) ∧ Below w.heap.size w w' := by
  have c3 := fun w => w_product a b ha hb w
  have c4 := fun w => w_narrow (a * b) (w128_mul ha hb) w
  have hB := Below.refl w.heap.size w
  generalize fitN (a * b) = r at *
  obtain ⟨r1, r2⟩ := r
  go_enter Tryd.func60, Tryd.ntmps60
  go_wp2_with (first
    | (go_at_call 61; (with_reducible refine (c3 _).mono ?_); rintro e w1 ⟨rfl, hb1⟩; replace hB := bt hB hb1; clear hb1)
    | (go_at_call 34; (with_reducible refine (c4 _).mono ?_); rintro e w1 ⟨rfl, hb1⟩; replace hB := bt hB hb1; clear hb1))
  go_ret2
  exact ⟨rfl, hB⟩
/-- What '/' answers. -/
def quoV (a b : Int) : Int × Int := if b = 0 then (0, 11) else fitN (a.tdiv b)
set_option maxHeartbeats 2000000 in
theorem op_quo (a b : Int) (ha : -9223372036854775808 ≤ a ∧ a ≤ 9223372036854775807) (_hb : -9223372036854775808 ≤ b ∧ b ≤ 9223372036854775807) (w : World) :
    Calls Tryd.prog 63 #[.int .i64 a, .int .i64 b] w fun e w' => e = .returned (.tuple #[.int .i64 (quoV a b).1, .int .i64 (quoV a b).2]) ∧ Below w.heap.size w w' := by
  by_cases h0 : b = 0
  · subst h0
    have e : quoV a 0 = (0, 11) := rfl
    rw [e]
    go_enter Tryd.func63, Tryd.ntmps63
    go_wp2
    go_ret2
    exact ⟨rfl, Below.refl _ _⟩
  have h0b : (b == 0) = false := by simpa using h0
  by_cases h1 : b = -1
  · subst h1
    have e : quoV a (-1) = fitN (-a) := by unfold quoV; rw [if_neg (by omega), Int.tdiv_neg, Int.tdiv_one]
    rw [e]
    have c1 := fun w => w_widen 0 (by omega) w
    have c2 := fun w => w_widen a ha w
    have c3 := fun w => w_minus 0 a w
    have c4 := fun w => w_narrow (-a) (by unfold W128; omega) w
    rw [Int.zero_sub] at c3
    have hB := Below.refl w.heap.size w
    generalize fitN (-a) = r at *
    obtain ⟨r1, r2⟩ := r
    clear e h0 h0b
    go_enter Tryd.func63, Tryd.ntmps63
    go_wp2_with (first
      | (go_at_call 32; (with_reducible refine (c1 _).mono ?_); rintro e w1 ⟨rfl, hb1⟩; replace hB := bt hB hb1; clear hb1)
      | (go_at_call 32; (with_reducible refine (c2 _).mono ?_); rintro e w1 ⟨rfl, hb1⟩; replace hB := bt hB hb1; clear hb1)
      | (go_at_call 59; (with_reducible refine (c3 _).mono ?_); rintro e w1 ⟨rfl, hb1⟩; replace hB := bt hB hb1; clear hb1)
      | (go_at_call 34; (with_reducible refine (c4 _).mono ?_); rintro e w1 ⟨rfl, hb1⟩; replace hB := bt hB hb1; clear hb1))
    go_ret2
    exact ⟨rfl, hB⟩
  · have h1b : (b == -1) = false := by simpa using h1
    have hq := tdiv_bd ha h0 h1
    have e : quoV a b = (a.tdiv b, 0) := by unfold quoV; rw [if_neg h0, fitN_yes (room_true.2 hq)]
    rw [e]
    clear e h1
    go_enter Tryd.func63, Tryd.ntmps63
    go_wp2
    go_ret2
    exact ⟨rfl, Below.refl _ _⟩
end Go.Proofs.YtfjoobopfjahcaaDoor
