/-
  Two numbers brought to one scale by package value: walked. A contract that the proofs call; no statement is proved here.
-/
import Derived.Test.YtfjoobopfjahcaaDoorVuOps
namespace Go.Proofs.YtfjoobopfjahcaaDoor
open Go.RowKit

set_option maxRecDepth 100000 in
set_option maxHeartbeats 4000000 in
theorem val_evened (a b sa sb t : Int) (ha : -9223372036854775808 ≤ a ∧ a ≤ 9223372036854775807) (hb : -9223372036854775808 ≤ b ∧ b ≤ 9223372036854775807) (w : World) :
    Calls Tryd.prog 36 #[.int .i64 a, .int .i64 b, .int .i64 sa, .int .i64 sb, .int .i64 t] w fun e w' => e = .returned (.tuple #[.int .i64 (scaleV a sa t).1, .int .i64 (scaleV b sb t).1, .int .i64 (orI (scaleV a sa t).2 (scaleV b sb t).2)]) ∧ Below w.heap.size w w' := by
  have c1 := fun w => val_scale a sa t ha w
  have c2 := fun w => val_scale b sb t hb w
  generalize scaleV a sa t = r at *
  generalize scaleV b sb t = s at *
  obtain ⟨r1, r2⟩ := r
  obtain ⟨s1, s2⟩ := s
  go_enter Tryd.func36, Tryd.ntmps36
  go_wp2_with (first
    | (go_at_call 13; (with_reducible refine (c1 _).mono ?_); rintro e w1 ⟨rfl, hb1⟩)
    | (go_at_call 13; (with_reducible refine (c2 _).mono ?_); rintro e w2 ⟨rfl, hb2⟩; have hB2 := bt hb1 hb2)
    | (go_at_call 47; (with_reducible refine (w_orE r2 s2 _ _ _ ?_ ?_).mono ?_); (rw [World.cell?_alloc_new]; rfl); (rw [World.cell?_alloc_new]; rfl); rintro e w3 ⟨rfl, rfl⟩))
  go_ret3
  exact ⟨rfl, hB2.alloc hB2.size _⟩
end Go.Proofs.YtfjoobopfjahcaaDoor
