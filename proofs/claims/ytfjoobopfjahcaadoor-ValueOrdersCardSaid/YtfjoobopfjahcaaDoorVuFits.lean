/-
  Which values fit: package value's own, walked. Contracts that the proofs call; no statement is proved here.
-/
import Derived.Test.YtfjoobopfjahcaaDoorVuTy
import Derived.Test.YtfjoobopfjahcaaDoorVuRefA
namespace Go.Proofs.YtfjoobopfjahcaaDoor
open Go.RowKit

set_option maxRecDepth 100000 in
set_option maxHeartbeats 4000000 in
theorem val_fits (k s : Int) (null u : Bool) (n : Int) (z : ByteArray) (hz : z.size ≤ maxLen) (w : World) (hT : Tru w) :
    Calls Tryd.prog 17 #[.agg #[.int .i64 k, .int .i64 s], .bool null, .agg #[.bool u, .int .i64 n, .string z]] w fun e w' => e = .returned (.bool (fitV k s null u n z)) ∧ Below w.heap.size w w' := by
  unfold maxLen at hz
  cases u <;> cases null
  all_goals
    go_enter Tryd.func17, Tryd.ntmps17
    go_wp2_with (go_at_call 15; (with_reducible refine (val_ty _ _ _).mono ?_); rintro e w1 ⟨rfl, hb1⟩; obtain ⟨_, x0, x1, x2, x3, x4, x5, x6, x7, x8⟩ := ((hT.alloc _).alloc _).below hb1 (Nat.le_refl _); obtain ⟨hc, hf⟩ := bcell hb1; have hB : Below w.heap.size w w1 := (((Below.refl _ _).alloc (Nat.le_refl _) _).alloc (by simp) _).trans (hb1.mono (by simp; omega)); clear hT)
    all_goals
      go_ret
      exact ⟨ret_bool (by unfold fitV; rw [Bool.eq_iff_iff]; first | (simp_all; done) | (simp_all; omega)), hB⟩

set_option maxRecDepth 100000 in
set_option maxHeartbeats 4000000 in
theorem ref_fits (k s : Int) (null u : Bool) (n : Int) (z : ByteArray) (hz : z.size ≤ maxLen) (w : World) :
    Calls Tryd.prog 18 #[.agg #[.int .i64 k, .int .i64 s], .bool null, .agg #[.bool u, .int .i64 n, .string z]] w fun e w' => e = .returned (.bool (fitV k s null u n z)) ∧ Below w.heap.size w w' := by
  unfold maxLen at hz
  cases u <;> cases null
  all_goals
    go_enter Tryd.func18, Tryd.ntmps18
    go_wp2_with (go_at_call 16; (with_reducible refine (ref_ty _ _ _).mono ?_); rintro e w1 ⟨rfl, hb1⟩; obtain ⟨hc, hf⟩ := bcell hb1; have hB : Below w.heap.size w w1 := (((Below.refl _ _).alloc (Nat.le_refl _) _).alloc (by simp) _).trans (hb1.mono (by simp; omega)))
    all_goals
      go_ret
      exact ⟨ret_bool (by unfold fitV; rw [Bool.eq_iff_iff]; first | (simp_all; done) | (simp_all; omega)), hB⟩
end Go.Proofs.YtfjoobopfjahcaaDoor
