/-
  The examples ahead of each statement of chapter 2, and its small helpers: contracts that the proofs call; no statement is proved here.
-/
import Derived.Test.YtfbgejgapdpjcaaDoorNumOne
namespace Go.Proofs.YtfbgejgapdpjcaaDoor
open Go.RowKit

theorem bt {w w1 w2 : World} (h1 : Below w.heap.size w w1) (h2 : Below w1.heap.size w1 w2) : Below w.heap.size w w2 := h1.trans (h2.mono h1.size)
theorem ret_true {b : Bool} (h : b = true) : Ending.returned (.bool b) = .returned (.bool true) := by rw [h]

theorem two_is (op a b : Int) {x y : Int} (h : two op a b = (x, y)) (ha : 0 ≤ a ∧ a ≤ 18446744073709551615) (hb : 0 ≤ b ∧ b ≤ 18446744073709551615) (w : World) :
    Calls Tryd.prog 16 #[.int .i64 op, .int .u64 a, .int .u64 b] w fun e w' => e = .returned (.tuple #[.int .u64 x, .int .i64 y]) ∧ Below w.heap.size w w' := by
  have c := num_two op a b ha.1 ha.2 hb.1 hb.2 w
  rwa [h] at c
theorem one_is (op a : Int) {x y : Int} (h : one op a = (x, y)) (ha : 0 ≤ a ∧ a ≤ 18446744073709551615) (w : World) (hL : Laid w) (hop : -9223372036854775808 ≤ op ∧ op ≤ 9223372036854775807 := by omega) :
    Calls Tryd.prog 14 #[.int .i64 op, .int .u64 a] w fun e w' => e = .returned (.tuple #[.int .u64 x, .int .i64 y]) ∧ Below w.heap.size w w' := by
  have c := num_one op a hop.1 hop.2 ha.1 ha.2 w hL
  rwa [h] at c

set_option maxRecDepth 100000 in
set_option maxHeartbeats 1000000 in
theorem head_num (w : World) (hL : Laid w) : Calls Tryd.prog 12 #[] w fun e w' => e = .returned (.bool true) ∧ Below w.heap.size w w' := by
  have c1 := two_is 106 4294967295 1 (x := 0) (y := 0) (by decide +kernel) (by omega) (by omega)
  have c2 := two_is 109 5 0 (x := 0) (y := 6) (by decide +kernel) (by omega) (by omega)
  have c3 := fun w hL => one_is 0 0 (x := 0) (y := 3) (by decide +kernel) (by omega) w hL
  have hB := Below.refl w.heap.size w
  go_enter Tryd.func12, Tryd.ntmps12
  go_wp2_with (first
    | (go_at_call 16; (with_reducible refine (c1 _).mono ?_); rintro e w1 ⟨rfl, hb⟩; replace hB := bt hB hb; clear hb)
    | (go_at_call 16; (with_reducible refine (c2 _).mono ?_); rintro e w1 ⟨rfl, hb⟩; replace hB := bt hB hb; clear hb)
    | (go_at_call 14; (with_reducible refine (c3 _ (hL.below hB)).mono ?_); rintro e w1 ⟨rfl, hb⟩; replace hB := bt hB hb; clear hb))
  go_ret
  exact ⟨rfl, hB⟩

/-- The law's own 'two': the number alone. -/
theorem ltwo_is (op a b : Int) {x : Int} (h : (two op a b).1 = x) (ha : 0 ≤ a ∧ a ≤ 18446744073709551615) (hb : 0 ≤ b ∧ b ≤ 18446744073709551615) (w : World) :
    Calls Tryd.prog 18 #[.int .i64 op, .int .u64 a, .int .u64 b] w fun e w' => e = .returned (.int .u64 x) ∧ Below w.heap.size w w' := by
  have c := two_is op a b (x := x) (y := (two op a b).2) (by rw [← h]) ha hb
  generalize (two op a b).2 = y at c
  go_enter Tryd.func18, Tryd.ntmps18
  go_wp2_with (go_at_call 16; (with_reducible refine (c _).mono ?_); rintro e w1 ⟨rfl, hb⟩)
  go_ret
  exact ⟨rfl, hb⟩

theorem wrap64_bd (x : Int) : -9223372036854775808 ≤ wrap64 x ∧ wrap64 x ≤ 9223372036854775807 := by unfold wrap64; omega
def SomeInt (w : World) (e : Ending) (w' : World) : Prop := ∃ n : Int, -9223372036854775808 ≤ n ∧ n ≤ 9223372036854775807 ∧ e = .returned (.int .i64 n) ∧ w = w'
set_option maxHeartbeats 1000000 in
theorem pick_any (op which : Int) (_ : -9223372036854775808 ≤ op) (_ : op ≤ 9223372036854775807) (_ : 0 ≤ which) (_ : which ≤ 255) (w : World) :
    Calls Tryd.prog 13 #[.int .i64 op, .int .u8 which] w (SomeInt w) := by
  by_cases hn : op < 0
  all_goals
    go_enter Tryd.func13, Tryd.ntmps13
    go_wp2
    all_goals
      go_ret
      exact ⟨_, by first | omega | exact (wrap64_bd _).1, by first | omega | exact (wrap64_bd _).2, rfl, rfl⟩
end Go.Proofs.YtfbgejgapdpjcaaDoor
