/-
  ValueDivides, walked: what is divided, multiplied and taken away goes together.
-/
import Derived.Test.YtfjoobopfjahcaaDoorVuHead
import Derived.Test.YtfjoobopfjahcaaDoorVuDivMath
namespace Go.Proofs.YtfjoobopfjahcaaDoor
set_option linter.unusedVariables false
open Go.RowKit

theorem div_call (op a b : Int) (u : Bool) (h0 : 0 ≤ op) (h1 : op ≤ 255) (ha : -9223372036854775808 ≤ a ∧ a ≤ 9223372036854775807) (hb : -9223372036854775808 ≤ b ∧ b ≤ 9223372036854775807) {r : Bool} {n e : Int} (h : arV op u a ⟨#[]⟩ false b ⟨#[]⟩ 1 0 1 0 = (r, n, e)) (w : World) (hL : Laid w) :
    Calls Tryd.prog 20 #[.int .u8 op, .agg #[.bool u, .int .i64 a, .string ⟨#[]⟩], .agg #[.bool false, .int .i64 b, .string ⟨#[]⟩], .agg #[.int .i64 1, .int .i64 0], .agg #[.int .i64 1, .int .i64 0]] w fun ee w' => ee = .returned (.tuple #[.agg #[.bool r, .int .i64 n, .string ⟨#[]⟩], .int .i64 e]) ∧ Below w.heap.size w w' := by
  have := val_arith op u a ⟨#[]⟩ false b ⟨#[]⟩ 1 0 1 0 h0 h1 ha hb (by decide) (by decide) w hL
  rw [h] at this
  exact this

set_option maxRecDepth 100000 in
set_option maxHeartbeats 8000000 in
theorem divides_bad (a b : Int) (ha : -9223372036854775808 ≤ a ∧ a ≤ 9223372036854775807) (hb : -9223372036854775808 ≤ b ∧ b ≤ 9223372036854775807) (h : b = 0 ∨ a = -9223372036854775808 ∧ b = -1) (w : World) (hL : Laid w) :
    Calls Tryd.prog 9 #[.int .i64 a, .int .i64 b] w fun e w' => e = .returned (.bool true) ∧ Below w.heap.size w w' := by
  have hh := fun (_ : Unit) => head_value w hL
  have hr : reck 47 a b = (0, 11) := by
    rcases h with rfl | ⟨rfl, rfl⟩
    · rfl
    · decide +kernel
  have c1 := fun w hL => div_call 47 a b false (by omega) (by omega) ha hb (by rw [arV_div, hr]) w hL
  have hbr : (b == 0 || (a == -9223372036854775808 && b == -1)) = true := by rcases h with rfl | ⟨rfl, rfl⟩ <;> rfl
  clear hr ha hb
  rcases h with rfl | ⟨rfl, rfl⟩
  all_goals
    go_enter Tryd.func9, Tryd.ntmps9
    go_wp2_with (first
      | (go_at_call 10; (with_reducible refine (hh ()).mono ?_); rintro e w1 ⟨rfl, hb1⟩; have L1 := (hL.below hb1).alloc (.cells #[.int .i64 1, .int .i64 0] 23); have hB1 := bt hb1 (b1 (w := w1) (x := .cells #[.int .i64 1, .int .i64 0] 23)))
      | (go_at_call 20; (with_reducible refine (c1 _ L1).mono ?_); rintro e w2 ⟨rfl, hb2⟩; have hB2 := bt hB1 hb2))
    go_ret
    first
      | exact ⟨rfl, hB2⟩
      | exact ⟨rfl, bt hB2 b1⟩

set_option maxRecDepth 100000 in
set_option maxHeartbeats 16000000 in
theorem divides_good (a b : Int) (ha : -9223372036854775808 ≤ a ∧ a ≤ 9223372036854775807) (hb : -9223372036854775808 ≤ b ∧ b ≤ 9223372036854775807) (hb0 : b ≠ 0) (hm : ¬ (a = -9223372036854775808 ∧ b = -1)) (w : World) (hL : Laid w) :
    Calls Tryd.prog 9 #[.int .i64 a, .int .i64 b] w fun e w' => e = .returned (.bool true) ∧ Below w.heap.size w w' := by
  have hh := fun (_ : Unit) => head_value w hL
  obtain ⟨q1, q2, q3, q4⟩ := div_facts a b ha hb0 hm
  have c1 := fun w hL => div_call 47 a b false (by omega) (by omega) ha hb (show arV 47 false a ⟨#[]⟩ false b ⟨#[]⟩ 1 0 1 0 = (false, a.tdiv b, 0) by rw [arV_div]; unfold reck; rw [if_neg (by omega), if_neg (by omega), if_neg (by omega), if_neg hb0, fitN_yes q1]) w hL
  have c2 := fun w hL => div_call 42 (a.tdiv b) b false (by omega) (by omega) (room_true.1 q1) hb (show arV 42 false (a.tdiv b) ⟨#[]⟩ false b ⟨#[]⟩ 1 0 1 0 = (false, a.tdiv b * b, 0) by rw [arV_mul, fitN_yes q2]) w hL
  have c3 := fun w hL => div_call 45 a (a.tdiv b * b) false (by omega) (by omega) ha (room_true.1 q2) (show arV 45 false a ⟨#[]⟩ false (a.tdiv b * b) ⟨#[]⟩ 1 0 1 0 = (false, a.tmod b, 0) by rw [arV_sub _ _ (room_true.2 ha) q2, fitN_yes q3, q4]) w hL
  have c4 := fun w hL => div_call 47 0 0 true (by omega) (by omega) (by omega) (by omega) (show arV 47 true 0 ⟨#[]⟩ false 0 ⟨#[]⟩ 1 0 1 0 = (true, 0, 0) by decide +kernel) w hL
  have hmr := room_true.1 q3
  rw [q4] at hmr
  have hk0 : (b == 0) = false := by simpa using hb0
  generalize hp : a.tdiv b * b = p at c2 c3
  generalize hq : a.tdiv b = q at c1 c2
  have ks : (a == -9223372036854775808) = false ∨ ((a == -9223372036854775808) = true ∧ (b == -1) = false) := by
    by_cases h : a = -9223372036854775808
    · exact Or.inr ⟨by simpa using h, by simpa using fun e => hm ⟨h, e⟩⟩
    · exact Or.inl (by simpa using h)
  clear q1 q2 q3 q4 hp hq hm ha hb
  rcases ks with k1 | ⟨k1, k2⟩
  all_goals
    go_enter Tryd.func9, Tryd.ntmps9
    go_wp2_with (first
      | (go_at_call 10; (with_reducible refine (hh ()).mono ?_); rintro e w1 ⟨rfl, hb1⟩; have L1 := (hL.below hb1).alloc (.cells #[.int .i64 1, .int .i64 0] 23); have hB1 := bt hb1 (b1 (w := w1) (x := .cells #[.int .i64 1, .int .i64 0] 23)))
      | (go_at_call 20; (with_reducible refine (c1 _ L1).mono ?_); rintro e w2 ⟨rfl, hb2⟩; have hB2 := bt hB1 hb2; obtain ⟨x2, y2⟩ := bcell hb2; have g2 : w1.heap.size < w2.heap.size := Nat.lt_of_lt_of_le (by simp) hb2.size; have L2 := (L1.below hb2).alloc (.cells #[.bool false, .int .i64 q, .string ⟨#[]⟩] 25))
      | (go_at_call 20; (with_reducible refine (c2 _ L2).mono ?_); rintro e w3 ⟨rfl, hb3⟩; have hB3 := bt (bt hB2 b1) hb3; obtain ⟨x3, y3⟩ := bcell hb3; have g3 : w2.heap.size < w3.heap.size := Nat.lt_of_lt_of_le (by simp) hb3.size; have g31 := Nat.lt_trans g2 g3; have L3 := (L2.below hb3).alloc (.cells #[.bool false, .int .i64 p, .string ⟨#[]⟩] 25))
      | (go_at_call 20; (with_reducible refine (c3 _ L3).mono ?_); rintro e w4 ⟨rfl, hb4⟩; have hB4 := bt (bt hB3 b1) hb4; obtain ⟨x4, y4⟩ := bcell hb4; have g4 : w3.heap.size < w4.heap.size := Nat.lt_of_lt_of_le (by simp) hb4.size; have g42 := Nat.lt_trans g3 g4; have g41 := Nat.lt_trans g2 g42; have L4 := (L3.below hb4).alloc (.cells #[.bool false, .int .i64 (a.tmod b), .string ⟨#[]⟩] 25))
      | (go_at_call 20; (with_reducible refine (c4 _ L4).mono ?_); rintro e w5 ⟨rfl, hb5⟩; have hB5 := bt (bt hB4 b1) hb5; obtain ⟨x5, y5⟩ := bcell hb5; have g5 : w4.heap.size < w5.heap.size := Nat.lt_of_lt_of_le (by simp) hb5.size))
    obtain ⟨W, hW⟩ : ∃ W, W = w5.alloc (.cells #[.bool true, .int .i64 0, .string ⟨#[]⟩] 25) := ⟨_, rfl⟩
    have f1 : W.cell? ⟨w4.heap.size, 1, none⟩ = some (.int .i64 (a.tmod b)) := by rw [hW]; go_simp
    have f2 : W.cell? ⟨w5.heap.size, 0, none⟩ = some (.bool true) := by rw [hW]; go_simp
    have hB := bt hB5 (b1 (w := w5) (x := .cells #[.bool true, .int .i64 0, .string ⟨#[]⟩] 25))
    rw [← hW] at hB ⊢
    clear hW x2 x3 x4 x5 y2 y3 y4 y5 L1 L2 L3 L4 hb1 hb2 hb3 hb4 hb5 hB1 hB2 hB3 hB4 hB5 g2 g3 g31 g4 g42 g41 g5
    have wr : IntKind.i64.wrap (a.tmod b) = a.tmod b := by rw [IntKind.wrap_i64]; omega
    go_region
    go_wp2
    go_ret
    exact ⟨rfl, hB.drew⟩

theorem valueDivides_walk (a b : Int) (ha : -9223372036854775808 ≤ a ∧ a ≤ 9223372036854775807) (hb : -9223372036854775808 ≤ b ∧ b ≤ 9223372036854775807) (w : World) (hL : Laid w) :
    Calls Tryd.prog 9 #[.int .i64 a, .int .i64 b] w fun e w' => e = .returned (.bool true) ∧ Below w.heap.size w w' := by
  by_cases h : b = 0 ∨ a = -9223372036854775808 ∧ b = -1
  · exact divides_bad a b ha hb h w hL
  · exact divides_good a b ha hb (fun e => h (.inl e)) (fun e => h (.inr e)) w hL
end Go.Proofs.YtfjoobopfjahcaaDoor
