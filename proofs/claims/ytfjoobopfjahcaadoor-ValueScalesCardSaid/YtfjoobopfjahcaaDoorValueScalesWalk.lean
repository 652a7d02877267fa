/-
  ValueScales, walked: scaled in two steps a number is as in one, or is refused in one of them.
-/
import Derived.Test.YtfjoobopfjahcaaDoorVuLawNum
import Derived.Test.YtfjoobopfjahcaaDoorVuScaleMath
namespace Go.Proofs.YtfjoobopfjahcaaDoor
set_option linter.unusedVariables false
open Go.RowKit

theorem scale_call {n f t m e : Int} (hn : room n = true) (h : scaleV n f t = (m, e)) (w : World) :
    Calls Tryd.prog 13 #[.int .i64 n, .int .i64 f, .int .i64 t] w fun ee w' => ee = .returned (.tuple #[.int .i64 m, .int .i64 e]) ∧ Below w.heap.size w w' := by
  have := val_scale n f t (room_true.1 hn) w
  rw [h] at this
  exact this
theorem compare_call {a b p q c : Int} {ok : Bool} (ha : room a = true) (hb : room b = true) (h : cmpV false a ⟨#[]⟩ false b ⟨#[]⟩ (kindOf p) p (kindOf q) q = (c, ok)) (w : World) (hT : Tru w) :
    Calls Tryd.prog 21 #[.agg #[.bool false, .int .i64 a, .string ⟨#[]⟩], .agg #[.bool false, .int .i64 b, .string ⟨#[]⟩], .agg #[.int .i64 (kindOf p), .int .i64 p], .agg #[.int .i64 (kindOf q), .int .i64 q]] w fun e w' =>
      e = .returned (.tuple #[.int .i64 c, .bool ok]) ∧ Below w.heap.size w w' := by
  have := val_compare false a ⟨#[]⟩ false b ⟨#[]⟩ (kindOf p) p (kindOf q) q (room_true.1 ha) (room_true.1 hb) (by decide) (by decide) w hT
  rw [h] at this
  exact this

set_option maxRecDepth 100000 in
set_option maxHeartbeats 8000000 in
theorem scales_good (n a b c x y z : Int) (hn : room n = true) (ha : 0 ≤ a ∧ a ≤ 255) (hb : 0 ≤ b ∧ b ≤ 255) (hc : 0 ≤ c ∧ c ≤ 255) (hx : a % 10 = x) (hx0 : 0 ≤ x ∧ x ≤ 9) (hy0 : x ≤ y ∧ y ≤ 9) (hz0 : y ≤ z ∧ z ≤ 9) (hy : wrap64 (x + b % (10 - x)) = y) (hz : wrap64 (y + c % (10 - y)) = z)
    (m p : Int) (k1 : scaleV n x z = (p, 0)) (k2 : scaleV n x y = (m, 0)) (k3 : scaleV m y z = (p, 0)) (hp : n * 10 ^ (z - x).toNat = p) (hm : room m = true) (hpr : room p = true) (w : World) (hL : Laid w) :
    Calls Tryd.prog 5 #[.int .i64 n, .int .u8 a, .int .u8 b, .int .u8 c] w fun e w' => e = .returned (.bool true) ∧ Below w.heap.size w w' := by
  have hh := fun (_ : Unit) => head_value w hL
  have d1 := fun w => scale_call hn k1 w
  have d2 := fun w => scale_call hn k2 w
  have d3 := fun w => scale_call hm k3 w
  have d4 := fun w => law_number x x (by omega) (by omega) (by omega) w
  have d5 := fun w => law_number z z (by omega) (by omega) (by omega) w
  have d6 := fun w hT => compare_call hn hpr (cmp_scaled n (x := x) (z := z) (by omega) (by omega) (by omega) hp) w hT
  clear hm hpr
  have hxx : (10 - x == 0) = false := by simp; omega
  have hyy : (10 - y == 0) = false := by simp; omega
  have wx : IntKind.u8.wrap x = x := by rw [IntKind.wrap_u8]; omega
  have wz : IntKind.u8.wrap z = z := by rw [IntKind.wrap_u8]; omega
  clear k1 k2 k3 hn
  go_enter Tryd.func5, Tryd.ntmps5
  go_wp2_with (first
    | (go_at_call 10; (with_reducible refine (hh ()).mono ?_); rintro e w1 ⟨rfl, hb1⟩; have hB1 := hb1)
    | (go_at_call 13; (first | (with_reducible refine (d1 _).mono ?_) | (with_reducible refine (d2 _).mono ?_) | (with_reducible refine (d3 _).mono ?_)); rintro e w2 ⟨rfl, hb2⟩; replace hB1 := bt hB1 hb2; clear hb2)
    | (go_at_call 19; (first | (with_reducible refine (d4 _).mono ?_) | (with_reducible refine (d5 _).mono ?_)); rintro e w2 ⟨rfl, hb2⟩; replace hB1 := bt hB1 hb2; clear hb2; have hT := (hL.below hB1).tru)
    | (go_at_call 21; (with_reducible refine (d6 _ hT).mono ?_); rintro e w2 ⟨rfl, hb2⟩; replace hB1 := bt hB1 hb2; clear hb2))
  go_ret
  exact ⟨rfl, hB1⟩

set_option maxRecDepth 100000 in
set_option maxHeartbeats 8000000 in
theorem scales_first (n a b c x y z : Int) (hn : room n = true) (ha : 0 ≤ a ∧ a ≤ 255) (hb : 0 ≤ b ∧ b ≤ 255) (hc : 0 ≤ c ∧ c ≤ 255) (hx : a % 10 = x) (hx0 : 0 ≤ x ∧ x ≤ 9) (hy0 : x ≤ y ∧ y ≤ 9) (hz0 : y ≤ z ∧ z ≤ 9) (hy : wrap64 (x + b % (10 - x)) = y) (hz : wrap64 (y + c % (10 - y)) = z)
    (k1 : scaleV n x z = (0, 11)) (k2 : scaleV n x y = (0, 11)) (k3 : scaleV 0 y z = (0, 0)) (w : World) (hL : Laid w) :
    Calls Tryd.prog 5 #[.int .i64 n, .int .u8 a, .int .u8 b, .int .u8 c] w fun e w' => e = .returned (.bool true) ∧ Below w.heap.size w w' := by
  have hh := fun (_ : Unit) => head_value w hL
  have d1 := fun w => scale_call hn k1 w
  have d2 := fun w => scale_call hn k2 w
  have d3 := fun w => scale_call (show room 0 = true from rfl) k3 w
  have hxx : (10 - x == 0) = false := by simp; omega
  have hyy : (10 - y == 0) = false := by simp; omega
  have wx : IntKind.u8.wrap x = x := by rw [IntKind.wrap_u8]; omega
  have wz : IntKind.u8.wrap z = z := by rw [IntKind.wrap_u8]; omega
  clear k1 k2 k3 hn
  go_enter Tryd.func5, Tryd.ntmps5
  go_wp2_with (first
    | (go_at_call 10; (with_reducible refine (hh ()).mono ?_); rintro e w1 ⟨rfl, hb1⟩; have hB1 := hb1)
    | (go_at_call 13; (first | (with_reducible refine (d1 _).mono ?_) | (with_reducible refine (d2 _).mono ?_) | (with_reducible refine (d3 _).mono ?_)); rintro e w2 ⟨rfl, hb2⟩; replace hB1 := bt hB1 hb2; clear hb2)
    )
  go_ret
  exact ⟨rfl, hB1⟩

set_option maxRecDepth 100000 in
set_option maxHeartbeats 8000000 in
theorem scales_second (n a b c x y z : Int) (hn : room n = true) (ha : 0 ≤ a ∧ a ≤ 255) (hb : 0 ≤ b ∧ b ≤ 255) (hc : 0 ≤ c ∧ c ≤ 255) (hx : a % 10 = x) (hx0 : 0 ≤ x ∧ x ≤ 9) (hy0 : x ≤ y ∧ y ≤ 9) (hz0 : y ≤ z ∧ z ≤ 9) (hy : wrap64 (x + b % (10 - x)) = y) (hz : wrap64 (y + c % (10 - y)) = z)
    (m : Int) (k1 : scaleV n x z = (0, 11)) (k2 : scaleV n x y = (m, 0)) (hm : room m = true) (k3 : scaleV m y z = (0, 11)) (w : World) (hL : Laid w) :
    Calls Tryd.prog 5 #[.int .i64 n, .int .u8 a, .int .u8 b, .int .u8 c] w fun e w' => e = .returned (.bool true) ∧ Below w.heap.size w w' := by
  have hh := fun (_ : Unit) => head_value w hL
  have d1 := fun w => scale_call hn k1 w
  have d2 := fun w => scale_call hn k2 w
  have d3 := fun w => scale_call hm k3 w
  have hxx : (10 - x == 0) = false := by simp; omega
  have hyy : (10 - y == 0) = false := by simp; omega
  have wx : IntKind.u8.wrap x = x := by rw [IntKind.wrap_u8]; omega
  have wz : IntKind.u8.wrap z = z := by rw [IntKind.wrap_u8]; omega
  clear k1 k2 k3 hn
  go_enter Tryd.func5, Tryd.ntmps5
  go_wp2_with (first
    | (go_at_call 10; (with_reducible refine (hh ()).mono ?_); rintro e w1 ⟨rfl, hb1⟩; have hB1 := hb1)
    | (go_at_call 13; (first | (with_reducible refine (d1 _).mono ?_) | (with_reducible refine (d2 _).mono ?_) | (with_reducible refine (d3 _).mono ?_)); rintro e w2 ⟨rfl, hb2⟩; replace hB1 := bt hB1 hb2; clear hb2)
    )
  go_ret
  exact ⟨rfl, hB1⟩

theorem valueScales_walk (n a b c : Int) (hn : -9223372036854775808 ≤ n ∧ n ≤ 9223372036854775807) (ha : 0 ≤ a ∧ a ≤ 255) (hb : 0 ≤ b ∧ b ≤ 255) (hc : 0 ≤ c ∧ c ≤ 255) (w : World) (hL : Laid w) :
    Calls Tryd.prog 5 #[.int .i64 n, .int .u8 a, .int .u8 b, .int .u8 c] w fun e w' => e = .returned (.bool true) ∧ Below w.heap.size w w' := by
  have hr := room_true.2 hn
  have hx0 : 0 ≤ a % 10 ∧ a % 10 ≤ 9 := by omega
  have hy0 := steps_in hx0 hb.1
  obtain ⟨y, hy⟩ : ∃ y, a % 10 + b % (10 - a % 10) = y := ⟨_, rfl⟩
  rw [hy] at hy0
  have hz0 := steps_in (x := y) (by omega) hc.1
  obtain ⟨z, hz⟩ : ∃ z, y + c % (10 - y) = z := ⟨_, rfl⟩
  rw [hz] at hz0
  have wy : wrap64 (a % 10 + b % (10 - a % 10)) = y := by rw [hy]; unfold wrap64; omega
  have wz : wrap64 (y + c % (10 - y)) = z := by rw [hz]; unfold wrap64; omega
  rcases scale_three n hx0.1 ⟨hy0.1, hz0.1⟩ hz0.2 with ⟨m, p, k1, k2, k3, hp, hm, hpr⟩ | ⟨k1, k2, k3⟩ | ⟨m, k1, k2, hm, k3⟩
  · exact scales_good n a b c _ y z hr ha hb hc rfl hx0 hy0 hz0 wy wz m p k1 k2 k3 hp hm hpr w hL
  · exact scales_first n a b c _ y z hr ha hb hc rfl hx0 hy0 hz0 wy wz k1 k2 k3 w hL
  · exact scales_second n a b c _ y z hr ha hb hc rfl hx0 hy0 hz0 wy wz m k1 k2 hm k3 w hL
end Go.Proofs.YtfjoobopfjahcaaDoor
