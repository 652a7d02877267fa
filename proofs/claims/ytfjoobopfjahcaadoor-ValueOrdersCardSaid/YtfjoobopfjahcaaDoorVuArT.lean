/-
  The type of what comes out of an operator: package value's ArithType, walked. Contracts that the proofs call; no statement is proved here.
-/
import Derived.Test.YtfjoobopfjahcaaDoorVuArith
namespace Go.Proofs.YtfjoobopfjahcaaDoor
set_option linter.unusedVariables false
open Go.RowKit

set_option maxRecDepth 100000 in
set_option maxHeartbeats 4000000 in
theorem arT_plus (ka sa kb sb K M : Int) (w : World) (ct : ∀ w, Calls Tryd.prog 28 #[.int .u8 43, .agg #[.int .i64 ka, .int .i64 sa], .agg #[.int .i64 kb, .int .i64 sb]] w fun e w' => e = .returned (.tuple #[.agg #[.func (.func 55) #[] #[], .bool true, .func (.func 57) #[] #[]], .agg #[.int .i64 K, .int .i64 M], .bool true]) ∧ Below w.heap.size w w') :
    Calls Tryd.prog 11 #[.int .u8 43, .agg #[.int .i64 ka, .int .i64 sa], .agg #[.int .i64 kb, .int .i64 sb]] w fun e w' => e = .returned (.tuple #[.agg #[.int .i64 K, .int .i64 M], .bool true]) ∧ Below w.heap.size w w' := by
  have hB : Below w.heap.size w (((w.alloc (.cells #[.int .i64 ka, .int .i64 sa] 23)).alloc (.cells #[.int .i64 kb, .int .i64 sb] 23)).alloc (.cells #[.int .i64 0, .int .i64 0] 23)) := b3
  have hs : w.heap.size + 1 + 1 + 1 ≤ (((w.alloc (.cells #[.int .i64 ka, .int .i64 sa] 23)).alloc (.cells #[.int .i64 kb, .int .i64 sb] 23)).alloc (.cells #[.int .i64 0, .int .i64 0] 23)).heap.size := by simp
  go_enter Tryd.func11, Tryd.ntmps11
  go_wp2_with (go_at_call 28; (with_reducible refine (ct _).mono ?_); rintro e w1 ⟨rfl, hb1⟩; replace hB := bt hB hb1; replace hs := Nat.le_trans hs hb1.size; obtain ⟨z0, z1, z2, z3⟩ := four_lt hs; obtain ⟨hc, hf⟩ := bcell hb1; clear hb1)
  refine bodyPost_ret (v := .tuple #[.agg #[.int .i64 _, .int .i64 _], .bool _]) ?_ rfl ⟨rfl, ?_⟩
  · rw [results_cell_tmp rfl]; go_simp
  · refine Below.alloc (Below.alloc ?_ (by simp; omega) _) (by simp; omega) _
    repeat (refine Below.setCell ?_ (by first | (simp; done) | (simp; omega)) _)
    exact hB

set_option maxRecDepth 100000 in
set_option maxHeartbeats 4000000 in
theorem arT_minus (ka sa kb sb K M : Int) (w : World) (ct : ∀ w, Calls Tryd.prog 28 #[.int .u8 45, .agg #[.int .i64 ka, .int .i64 sa], .agg #[.int .i64 kb, .int .i64 sb]] w fun e w' => e = .returned (.tuple #[.agg #[.func (.func 55) #[] #[], .bool true, .func (.func 58) #[] #[]], .agg #[.int .i64 K, .int .i64 M], .bool true]) ∧ Below w.heap.size w w') :
    Calls Tryd.prog 11 #[.int .u8 45, .agg #[.int .i64 ka, .int .i64 sa], .agg #[.int .i64 kb, .int .i64 sb]] w fun e w' => e = .returned (.tuple #[.agg #[.int .i64 K, .int .i64 M], .bool true]) ∧ Below w.heap.size w w' := by
  have hB : Below w.heap.size w (((w.alloc (.cells #[.int .i64 ka, .int .i64 sa] 23)).alloc (.cells #[.int .i64 kb, .int .i64 sb] 23)).alloc (.cells #[.int .i64 0, .int .i64 0] 23)) := b3
  have hs : w.heap.size + 1 + 1 + 1 ≤ (((w.alloc (.cells #[.int .i64 ka, .int .i64 sa] 23)).alloc (.cells #[.int .i64 kb, .int .i64 sb] 23)).alloc (.cells #[.int .i64 0, .int .i64 0] 23)).heap.size := by simp
  go_enter Tryd.func11, Tryd.ntmps11
  go_wp2_with (go_at_call 28; (with_reducible refine (ct _).mono ?_); rintro e w1 ⟨rfl, hb1⟩; replace hB := bt hB hb1; replace hs := Nat.le_trans hs hb1.size; obtain ⟨z0, z1, z2, z3⟩ := four_lt hs; obtain ⟨hc, hf⟩ := bcell hb1; clear hb1)
  refine bodyPost_ret (v := .tuple #[.agg #[.int .i64 _, .int .i64 _], .bool _]) ?_ rfl ⟨rfl, ?_⟩
  · rw [results_cell_tmp rfl]; go_simp
  · refine Below.alloc (Below.alloc ?_ (by simp; omega) _) (by simp; omega) _
    repeat (refine Below.setCell ?_ (by first | (simp; done) | (simp; omega)) _)
    exact hB

set_option maxRecDepth 100000 in
set_option maxHeartbeats 4000000 in
theorem arT_times (ka sa kb sb K M : Int) (w : World) (ct : ∀ w, Calls Tryd.prog 28 #[.int .u8 42, .agg #[.int .i64 ka, .int .i64 sa], .agg #[.int .i64 kb, .int .i64 sb]] w fun e w' => e = .returned (.tuple #[.agg #[.func (.func 56) #[] #[], .bool false, .func (.func 60) #[] #[]], .agg #[.int .i64 K, .int .i64 M], .bool true]) ∧ Below w.heap.size w w') :
    Calls Tryd.prog 11 #[.int .u8 42, .agg #[.int .i64 ka, .int .i64 sa], .agg #[.int .i64 kb, .int .i64 sb]] w fun e w' => e = .returned (.tuple #[.agg #[.int .i64 K, .int .i64 M], .bool true]) ∧ Below w.heap.size w w' := by
  have hB : Below w.heap.size w (((w.alloc (.cells #[.int .i64 ka, .int .i64 sa] 23)).alloc (.cells #[.int .i64 kb, .int .i64 sb] 23)).alloc (.cells #[.int .i64 0, .int .i64 0] 23)) := b3
  have hs : w.heap.size + 1 + 1 + 1 ≤ (((w.alloc (.cells #[.int .i64 ka, .int .i64 sa] 23)).alloc (.cells #[.int .i64 kb, .int .i64 sb] 23)).alloc (.cells #[.int .i64 0, .int .i64 0] 23)).heap.size := by simp
  go_enter Tryd.func11, Tryd.ntmps11
  go_wp2_with (go_at_call 28; (with_reducible refine (ct _).mono ?_); rintro e w1 ⟨rfl, hb1⟩; replace hB := bt hB hb1; replace hs := Nat.le_trans hs hb1.size; obtain ⟨z0, z1, z2, z3⟩ := four_lt hs; obtain ⟨hc, hf⟩ := bcell hb1; clear hb1)
  refine bodyPost_ret (v := .tuple #[.agg #[.int .i64 _, .int .i64 _], .bool _]) ?_ rfl ⟨rfl, ?_⟩
  · rw [results_cell_tmp rfl]; go_simp
  · refine Below.alloc (Below.alloc ?_ (by simp; omega) _) (by simp; omega) _
    repeat (refine Below.setCell ?_ (by first | (simp; done) | (simp; omega)) _)
    exact hB

set_option maxRecDepth 100000 in
set_option maxHeartbeats 4000000 in
theorem arT_quo (ka sa kb sb K M : Int) (w : World) (ct : ∀ w, Calls Tryd.prog 28 #[.int .u8 47, .agg #[.int .i64 ka, .int .i64 sa], .agg #[.int .i64 kb, .int .i64 sb]] w fun e w' => e = .returned (.tuple #[.agg #[.func (.func 62) #[] #[], .bool false, .func (.func 63) #[] #[]], .agg #[.int .i64 K, .int .i64 M], .bool true]) ∧ Below w.heap.size w w') :
    Calls Tryd.prog 11 #[.int .u8 47, .agg #[.int .i64 ka, .int .i64 sa], .agg #[.int .i64 kb, .int .i64 sb]] w fun e w' => e = .returned (.tuple #[.agg #[.int .i64 K, .int .i64 M], .bool true]) ∧ Below w.heap.size w w' := by
  have hB : Below w.heap.size w (((w.alloc (.cells #[.int .i64 ka, .int .i64 sa] 23)).alloc (.cells #[.int .i64 kb, .int .i64 sb] 23)).alloc (.cells #[.int .i64 0, .int .i64 0] 23)) := b3
  have hs : w.heap.size + 1 + 1 + 1 ≤ (((w.alloc (.cells #[.int .i64 ka, .int .i64 sa] 23)).alloc (.cells #[.int .i64 kb, .int .i64 sb] 23)).alloc (.cells #[.int .i64 0, .int .i64 0] 23)).heap.size := by simp
  go_enter Tryd.func11, Tryd.ntmps11
  go_wp2_with (go_at_call 28; (with_reducible refine (ct _).mono ?_); rintro e w1 ⟨rfl, hb1⟩; replace hB := bt hB hb1; replace hs := Nat.le_trans hs hb1.size; obtain ⟨z0, z1, z2, z3⟩ := four_lt hs; obtain ⟨hc, hf⟩ := bcell hb1; clear hb1)
  refine bodyPost_ret (v := .tuple #[.agg #[.int .i64 _, .int .i64 _], .bool _]) ?_ rfl ⟨rfl, ?_⟩
  · rw [results_cell_tmp rfl]; go_simp
  · refine Below.alloc (Below.alloc ?_ (by simp; omega) _) (by simp; omega) _
    repeat (refine Below.setCell ?_ (by first | (simp; done) | (simp; omega)) _)
    exact hB

set_option maxRecDepth 100000 in
set_option maxHeartbeats 4000000 in
theorem arT_none (op ka sa kb sb : Int) (w : World) (ct : ∀ w, Calls Tryd.prog 28 #[.int .u8 op, .agg #[.int .i64 ka, .int .i64 sa], .agg #[.int .i64 kb, .int .i64 sb]] w fun e w' => e = .returned (.tuple #[.agg #[.nilFunc, .bool false, .nilFunc], .agg #[.int .i64 0, .int .i64 0], .bool false]) ∧ Below w.heap.size w w') :
    Calls Tryd.prog 11 #[.int .u8 op, .agg #[.int .i64 ka, .int .i64 sa], .agg #[.int .i64 kb, .int .i64 sb]] w fun e w' => e = .returned (.tuple #[.agg #[.int .i64 0, .int .i64 0], .bool false]) ∧ Below w.heap.size w w' := by
  have hB : Below w.heap.size w (((w.alloc (.cells #[.int .i64 ka, .int .i64 sa] 23)).alloc (.cells #[.int .i64 kb, .int .i64 sb] 23)).alloc (.cells #[.int .i64 0, .int .i64 0] 23)) := b3
  have hs : w.heap.size + 1 + 1 + 1 ≤ (((w.alloc (.cells #[.int .i64 ka, .int .i64 sa] 23)).alloc (.cells #[.int .i64 kb, .int .i64 sb] 23)).alloc (.cells #[.int .i64 0, .int .i64 0] 23)).heap.size := by simp
  go_enter Tryd.func11, Tryd.ntmps11
  go_wp2_with (go_at_call 28; (with_reducible refine (ct _).mono ?_); rintro e w1 ⟨rfl, hb1⟩; replace hB := bt hB hb1; replace hs := Nat.le_trans hs hb1.size; obtain ⟨z0, z1, z2, z3⟩ := four_lt hs; obtain ⟨hc, hf⟩ := bcell hb1; clear hb1)
  refine bodyPost_ret (v := .tuple #[.agg #[.int .i64 _, .int .i64 _], .bool _]) ?_ rfl ⟨rfl, ?_⟩
  · rw [results_cell_tmp rfl]; go_simp
  · refine Below.alloc (Below.alloc ?_ (by simp; omega) _) (by simp; omega) _
    repeat (refine Below.setCell ?_ (by first | (simp; done) | (simp; omega)) _)
    exact hB

set_option maxHeartbeats 2000000 in
/-- ArithType answers what the chapter says. -/
theorem val_arT (op ka sa kb sb : Int) (h0 : 0 ≤ op) (h1 : op ≤ 255) (w : World) :
    Calls Tryd.prog 11 #[.int .u8 op, .agg #[.int .i64 ka, .int .i64 sa], .agg #[.int .i64 kb, .int .i64 sb]] w fun e w' =>
      e = .returned (.tuple #[.agg #[.int .i64 (arT op ka sa kb sb).1, .int .i64 (arT op ka sa kb sb).2.1], .bool (arT op ka sa kb sb).2.2]) ∧ Below w.heap.size w w' := by
  by_cases hs : arS op ka sa kb sb < 0
  · have e : arT op ka sa kb sb = (0, 0, false) := by unfold arT; rw [if_pos hs]
    rw [e]
    exact arT_none op ka sa kb sb w (fun w => typed_no op ka sa kb sb h0 h1 hs w)
  · cases hall : (numK ka && tyR ka sa && numK kb && tyR kb sb)
    · exact absurd (show arS op ka sa kb sb < 0 by rw [arS_no hall]; decide) hs
    have e : arT op ka sa kb sb = (kindOf (arS op ka sa kb sb), arS op ka sa kb sb, true) := by unfold arT; rw [if_neg hs]
    rw [e]
    obtain ⟨he, g1, g2, g3, g4⟩ := arS_yes (op := op) hall
    obtain ⟨M, hM⟩ : ∃ M, arS op ka sa kb sb = M := ⟨_, rfl⟩
    rw [hM] at he hs ⊢
    by_cases o1 : op = 43
    · subst o1
      have hm : max sa sb = M := by rw [he]; rfl
      exact arT_plus ka sa kb sb _ M w (fun w => typed_plus_yes ka sa kb sb M hall hm (by omega) w)
    · by_cases o2 : op = 45
      · subst o2
        have hm : max sa sb = M := by rw [he]; rfl
        exact arT_minus ka sa kb sb _ M w (fun w => typed_minus_yes ka sa kb sb M hall hm (by omega) w)
      · by_cases o3 : op = 42
        · subst o3
          have hm : sa + sb = M ∧ M ≤ 9 := by
            unfold scaleOf at he
            rw [if_neg (by omega), if_pos rfl] at he
            split at he <;> omega
          exact arT_times ka sa kb sb _ M w (fun w => typed_times_yes ka sa kb sb M hall hm.1 (by omega) w)
        · by_cases o4 : op = 47
          · subst o4
            have hm : (if sb = 0 then sa else -1) = M := by rw [he]; rfl
            exact arT_quo ka sa kb sb _ M w (fun w => typed_quo_yes ka sa kb sb M hall hm (by split at hm <;> omega) w)
          · exfalso
            unfold scaleOf at he
            rw [if_neg (by omega), if_neg o3, if_neg o4] at he
            omega
end Go.Proofs.YtfjoobopfjahcaaDoor
