/-
  The document's own answer to chapter 10, walked: the type of what is reckoned of two numbers. Contracts that the proofs call; no statement is proved here.
-/
import Derived.Laws.ResultCell
import Derived.Test.YtfjoobopfjahcaaDoorVuRefB
namespace Go.Proofs.YtfjoobopfjahcaaDoor
open Go.RowKit

theorem fitN_snd {n : Int} : (fitN n).2 = 0 ↔ room n = true := by unfold fitN; split <;> simp [*]
theorem fitN_yes {n : Int} (h : room n = true) : fitN n = (n, 0) := by unfold fitN; rw [if_pos h]
theorem fitN_no {n : Int} (h : room n = false) : fitN n = (0, 11) := by unfold fitN; rw [if_neg (by rw [h]; simp)]

/-- The type of numbers of a scale, out of ArithType; else none. -/
theorem tyR_num {k s : Int} (h : (numK k && tyR k s) = true) : 0 ≤ s ∧ s ≤ 9 := by
  simp only [Bool.and_eq_true] at h
  have := tyR_true.1 h.2
  omega
theorem arS_yes {op ka sa kb sb : Int} (h : (numK ka && tyR ka sa && numK kb && tyR kb sb) = true) : arS op ka sa kb sb = scaleOf op sa sb ∧ 0 ≤ sa ∧ sa ≤ 9 ∧ 0 ≤ sb ∧ sb ≤ 9 := by
  refine ⟨by unfold arS; rw [if_pos h], ?_⟩
  simp only [Bool.and_eq_true] at h
  have h1 := tyR_true.1 h.1.1.2
  have h2 := tyR_true.1 h.2
  omega
theorem arS_no {op ka sa kb sb : Int} (h : (numK ka && tyR ka sa && numK kb && tyR kb sb) = false) : arS op ka sa kb sb = -1 := by
  unfold arS; rw [if_neg (by rw [h]; simp)]
theorem arT_yes {op ka sa kb sb s : Int} (h : arS op ka sa kb sb = s) (h0 : 0 ≤ s) : arT op ka sa kb sb = (kindOf s, s, true) := by
  unfold arT; rw [h, if_neg (by omega)]
theorem arT_no {op ka sa kb sb s : Int} (h : arS op ka sa kb sb = s) (h0 : s < 0) : arT op ka sa kb sb = (0, 0, false) := by
  unfold arT; rw [h, if_pos h0]

set_option maxRecDepth 100000 in
set_option maxHeartbeats 8000000 in
theorem ref_arT (op ka sa kb sb : Int) (w : World) :
    Calls Tryd.prog 12 #[.int .u8 op, .agg #[.int .i64 ka, .int .i64 sa], .agg #[.int .i64 kb, .int .i64 sb]] w fun e w' =>
      e = .returned (.tuple #[.agg #[.int .i64 (arT op ka sa kb sb).1, .int .i64 (arT op ka sa kb sb).2.1], .bool (arT op ka sa kb sb).2.2]) ∧ Below w.heap.size w w' := by
  have c1 := fun w => ref_ty ka sa w
  have c2 := fun w => ref_ty kb sb w
  have c3 := fun w => ref_number ka sa w
  have c4 := fun w => ref_number kb sb w
  have hB : Below w.heap.size w (((w.alloc (.cells #[.int .i64 ka, .int .i64 sa] 23)).alloc (.cells #[.int .i64 kb, .int .i64 sb] 23)).alloc (.cells #[.int .i64 0, .int .i64 0] 23)) := b3
  have hs : w.heap.size + 1 + 1 + 1 ≤ (((w.alloc (.cells #[.int .i64 ka, .int .i64 sa] 23)).alloc (.cells #[.int .i64 kb, .int .i64 sb] 23)).alloc (.cells #[.int .i64 0, .int .i64 0] 23)).heap.size := by simp
  cases hall : (numK ka && tyR ka sa && numK kb && tyR kb sb)
  · have e := arT_no (op := op) (arS_no hall) (by omega)
    rw [e]
    clear e
    cases h1 : tyR ka sa <;> cases h2 : tyR kb sb <;> cases h3 : numK ka <;> cases h4 : numK kb
    all_goals first
      | (exfalso; rw [h1, h2, h3, h4] at hall; simp at hall; done)
      | (rw [h1] at c1
         rw [h2] at c2
         rw [h3] at c3
         rw [h4] at c4
         clear hall h1 h2 h3 h4
         go_enter Tryd.func12, Tryd.ntmps12
         go_wp2_with (first
           | (go_at_call 16; (with_reducible refine (c1 _).mono ?_); rintro e w1 ⟨rfl, hb1⟩; replace hB := bt hB hb1; replace hs := Nat.le_trans hs hb1.size; obtain ⟨z0, z1, z2, z3⟩ := four_lt hs; obtain ⟨hc, hf⟩ := bcell hb1; clear hb1)
           | (go_at_call 16; (with_reducible refine (c2 _).mono ?_); rintro e w1 ⟨rfl, hb1⟩; replace hB := bt hB hb1; replace hs := Nat.le_trans hs hb1.size; obtain ⟨z0, z1, z2, z3⟩ := four_lt hs; obtain ⟨hc, hf⟩ := bcell hb1; clear hb1)
           | (go_at_call 29; (with_reducible refine (c3 _).mono ?_); rintro e w1 ⟨rfl, hb1⟩; replace hB := bt hB hb1; replace hs := Nat.le_trans hs hb1.size; obtain ⟨z0, z1, z2, z3⟩ := four_lt hs; obtain ⟨hc, hf⟩ := bcell hb1; clear hb1)
           | (go_at_call 29; (with_reducible refine (c4 _).mono ?_); rintro e w1 ⟨rfl, hb1⟩; replace hB := bt hB hb1; replace hs := Nat.le_trans hs hb1.size; obtain ⟨z0, z1, z2, z3⟩ := four_lt hs; obtain ⟨hc, hf⟩ := bcell hb1; clear hb1))
         refine bodyPost_ret (v := .tuple #[.agg #[.int .i64 0, .int .i64 0], .bool false]) ?_ rfl ⟨rfl, ?_⟩
         · rw [results_cell_tmp rfl]; go_simp
         · repeat (refine Below.setCell ?_ (by first | (simp; done) | (simp; omega)) _)
           exact hB)
  · obtain ⟨hsc, g1, g2, g3, g4⟩ := arS_yes (op := op) hall
    simp only [Bool.and_eq_true] at hall
    obtain ⟨⟨⟨h3, h1⟩, h4⟩, h2⟩ := hall
    rw [h1] at c1
    rw [h2] at c2
    rw [h3] at c3
    rw [h4] at c4
    clear h1 h2 h3 h4
    unfold scaleOf at hsc
    by_cases o1 : op = 43
    · subst o1
      rw [if_pos (Or.inl rfl)] at hsc
      have e := arT_yes hsc (by omega)
      rw [e]
      clear e hsc
      go_enter Tryd.func12, Tryd.ntmps12
      go_wp2_with (first
        | (go_at_call 16; (with_reducible refine (c1 _).mono ?_); rintro e w1 ⟨rfl, hb1⟩; replace hB := bt hB hb1; replace hs := Nat.le_trans hs hb1.size; obtain ⟨z0, z1, z2, z3⟩ := four_lt hs; obtain ⟨hc, hf⟩ := bcell hb1; clear hb1)
        | (go_at_call 16; (with_reducible refine (c2 _).mono ?_); rintro e w1 ⟨rfl, hb1⟩; replace hB := bt hB hb1; replace hs := Nat.le_trans hs hb1.size; obtain ⟨z0, z1, z2, z3⟩ := four_lt hs; obtain ⟨hc, hf⟩ := bcell hb1; clear hb1)
        | (go_at_call 29; (with_reducible refine (c3 _).mono ?_); rintro e w1 ⟨rfl, hb1⟩; replace hB := bt hB hb1; replace hs := Nat.le_trans hs hb1.size; obtain ⟨z0, z1, z2, z3⟩ := four_lt hs; obtain ⟨hc, hf⟩ := bcell hb1; clear hb1)
        | (go_at_call 29; (with_reducible refine (c4 _).mono ?_); rintro e w1 ⟨rfl, hb1⟩; replace hB := bt hB hb1; replace hs := Nat.le_trans hs hb1.size; obtain ⟨z0, z1, z2, z3⟩ := four_lt hs; obtain ⟨hc, hf⟩ := bcell hb1; clear hb1)
        | (go_at_call 30; (with_reducible refine (ref_typed _ _).mono ?_); rintro e w1 ⟨rfl, hb1⟩; replace hB := bt hB hb1; replace hs := Nat.le_trans hs hb1.size; obtain ⟨z0, z1, z2, z3⟩ := four_lt hs; obtain ⟨hc, hf⟩ := bcell hb1; clear hb1))
      all_goals
        refine bodyPost_ret (v := .tuple #[.agg #[.int .i64 (kindOf (max sa sb)), .int .i64 (max sa sb)], .bool true]) ?_ rfl ⟨rfl, ?_⟩
        · rw [results_cell_tmp rfl]; go_simp
          exact ⟨congrArg kindOf (by omega), by omega⟩
        · repeat (refine Below.setCell ?_ (by first | (simp; done) | (simp; omega)) _)
          exact hB

    have o1b : (op == 43) = false := by simpa using o1
    by_cases o2 : op = 45
    · subst o2
      rw [if_pos (Or.inr rfl)] at hsc
      have e := arT_yes hsc (by omega)
      rw [e]
      clear e hsc o1 o1b
      go_enter Tryd.func12, Tryd.ntmps12
      go_wp2_with (first
        | (go_at_call 16; (with_reducible refine (c1 _).mono ?_); rintro e w1 ⟨rfl, hb1⟩; replace hB := bt hB hb1; replace hs := Nat.le_trans hs hb1.size; obtain ⟨z0, z1, z2, z3⟩ := four_lt hs; obtain ⟨hc, hf⟩ := bcell hb1; clear hb1)
        | (go_at_call 16; (with_reducible refine (c2 _).mono ?_); rintro e w1 ⟨rfl, hb1⟩; replace hB := bt hB hb1; replace hs := Nat.le_trans hs hb1.size; obtain ⟨z0, z1, z2, z3⟩ := four_lt hs; obtain ⟨hc, hf⟩ := bcell hb1; clear hb1)
        | (go_at_call 29; (with_reducible refine (c3 _).mono ?_); rintro e w1 ⟨rfl, hb1⟩; replace hB := bt hB hb1; replace hs := Nat.le_trans hs hb1.size; obtain ⟨z0, z1, z2, z3⟩ := four_lt hs; obtain ⟨hc, hf⟩ := bcell hb1; clear hb1)
        | (go_at_call 29; (with_reducible refine (c4 _).mono ?_); rintro e w1 ⟨rfl, hb1⟩; replace hB := bt hB hb1; replace hs := Nat.le_trans hs hb1.size; obtain ⟨z0, z1, z2, z3⟩ := four_lt hs; obtain ⟨hc, hf⟩ := bcell hb1; clear hb1)
        | (go_at_call 30; (with_reducible refine (ref_typed _ _).mono ?_); rintro e w1 ⟨rfl, hb1⟩; replace hB := bt hB hb1; replace hs := Nat.le_trans hs hb1.size; obtain ⟨z0, z1, z2, z3⟩ := four_lt hs; obtain ⟨hc, hf⟩ := bcell hb1; clear hb1))
      all_goals
        refine bodyPost_ret (v := .tuple #[.agg #[.int .i64 (kindOf (max sa sb)), .int .i64 (max sa sb)], .bool true]) ?_ rfl ⟨rfl, ?_⟩
        · rw [results_cell_tmp rfl]; go_simp
          exact ⟨congrArg kindOf (by omega), by omega⟩
        · repeat (refine Below.setCell ?_ (by first | (simp; done) | (simp; omega)) _)
          exact hB

    have o2b : (op == 45) = false := by simpa using o2
    rw [if_neg (by omega)] at hsc
    by_cases o3 : op = 42
    · subst o3
      rw [if_pos rfl] at hsc
      by_cases hle : sa + sb ≤ 9
      · rw [if_pos hle] at hsc
        have e := arT_yes hsc (by omega)
        rw [e]
        clear e hsc o1 o1b o2 o2b
        go_enter Tryd.func12, Tryd.ntmps12
        go_wp2_with (first
          | (go_at_call 16; (with_reducible refine (c1 _).mono ?_); rintro e w1 ⟨rfl, hb1⟩; replace hB := bt hB hb1; replace hs := Nat.le_trans hs hb1.size; obtain ⟨z0, z1, z2, z3⟩ := four_lt hs; obtain ⟨hc, hf⟩ := bcell hb1; clear hb1)
          | (go_at_call 16; (with_reducible refine (c2 _).mono ?_); rintro e w1 ⟨rfl, hb1⟩; replace hB := bt hB hb1; replace hs := Nat.le_trans hs hb1.size; obtain ⟨z0, z1, z2, z3⟩ := four_lt hs; obtain ⟨hc, hf⟩ := bcell hb1; clear hb1)
          | (go_at_call 29; (with_reducible refine (c3 _).mono ?_); rintro e w1 ⟨rfl, hb1⟩; replace hB := bt hB hb1; replace hs := Nat.le_trans hs hb1.size; obtain ⟨z0, z1, z2, z3⟩ := four_lt hs; obtain ⟨hc, hf⟩ := bcell hb1; clear hb1)
          | (go_at_call 29; (with_reducible refine (c4 _).mono ?_); rintro e w1 ⟨rfl, hb1⟩; replace hB := bt hB hb1; replace hs := Nat.le_trans hs hb1.size; obtain ⟨z0, z1, z2, z3⟩ := four_lt hs; obtain ⟨hc, hf⟩ := bcell hb1; clear hb1)
          | (go_at_call 30; (with_reducible refine (ref_typed _ _).mono ?_); rintro e w1 ⟨rfl, hb1⟩; replace hB := bt hB hb1; replace hs := Nat.le_trans hs hb1.size; obtain ⟨z0, z1, z2, z3⟩ := four_lt hs; obtain ⟨hc, hf⟩ := bcell hb1; clear hb1))
        refine bodyPost_ret (v := .tuple #[.agg #[.int .i64 (kindOf (sa + sb)), .int .i64 (sa + sb)], .bool true]) ?_ rfl ⟨rfl, ?_⟩
        · rw [results_cell_tmp rfl]; go_simp
        · repeat (refine Below.setCell ?_ (by first | (simp; done) | (simp; omega)) _)
          exact hB

      · rw [if_neg hle] at hsc
        have e := arT_no hsc (by omega)
        rw [e]
        clear e hsc o1 o1b o2 o2b
        go_enter Tryd.func12, Tryd.ntmps12
        go_wp2_with (first
          | (go_at_call 16; (with_reducible refine (c1 _).mono ?_); rintro e w1 ⟨rfl, hb1⟩; replace hB := bt hB hb1; replace hs := Nat.le_trans hs hb1.size; obtain ⟨z0, z1, z2, z3⟩ := four_lt hs; obtain ⟨hc, hf⟩ := bcell hb1; clear hb1)
          | (go_at_call 16; (with_reducible refine (c2 _).mono ?_); rintro e w1 ⟨rfl, hb1⟩; replace hB := bt hB hb1; replace hs := Nat.le_trans hs hb1.size; obtain ⟨z0, z1, z2, z3⟩ := four_lt hs; obtain ⟨hc, hf⟩ := bcell hb1; clear hb1)
          | (go_at_call 29; (with_reducible refine (c3 _).mono ?_); rintro e w1 ⟨rfl, hb1⟩; replace hB := bt hB hb1; replace hs := Nat.le_trans hs hb1.size; obtain ⟨z0, z1, z2, z3⟩ := four_lt hs; obtain ⟨hc, hf⟩ := bcell hb1; clear hb1)
          | (go_at_call 29; (with_reducible refine (c4 _).mono ?_); rintro e w1 ⟨rfl, hb1⟩; replace hB := bt hB hb1; replace hs := Nat.le_trans hs hb1.size; obtain ⟨z0, z1, z2, z3⟩ := four_lt hs; obtain ⟨hc, hf⟩ := bcell hb1; clear hb1)
          | (go_at_call 30; (with_reducible refine (ref_typed _ _).mono ?_); rintro e w1 ⟨rfl, hb1⟩; replace hB := bt hB hb1; replace hs := Nat.le_trans hs hb1.size; obtain ⟨z0, z1, z2, z3⟩ := four_lt hs; obtain ⟨hc, hf⟩ := bcell hb1; clear hb1))
        refine bodyPost_ret (v := .tuple #[.agg #[.int .i64 (0), .int .i64 (0)], .bool false]) ?_ rfl ⟨rfl, ?_⟩
        · rw [results_cell_tmp rfl]; go_simp
        · repeat (refine Below.setCell ?_ (by first | (simp; done) | (simp; omega)) _)
          exact hB

    have o3b : (op == 42) = false := by simpa using o3
    rw [if_neg o3] at hsc
    by_cases o4 : op = 47
    · subst o4
      rw [if_pos rfl] at hsc
      by_cases hz : sb = 0
      · rw [if_pos hz] at hsc
        have e := arT_yes hsc g1
        rw [e]
        clear e hsc o1 o1b o2 o2b o3 o3b
        subst hz
        go_enter Tryd.func12, Tryd.ntmps12
        go_wp2_with (first
          | (go_at_call 16; (with_reducible refine (c1 _).mono ?_); rintro e w1 ⟨rfl, hb1⟩; replace hB := bt hB hb1; replace hs := Nat.le_trans hs hb1.size; obtain ⟨z0, z1, z2, z3⟩ := four_lt hs; obtain ⟨hc, hf⟩ := bcell hb1; clear hb1)
          | (go_at_call 16; (with_reducible refine (c2 _).mono ?_); rintro e w1 ⟨rfl, hb1⟩; replace hB := bt hB hb1; replace hs := Nat.le_trans hs hb1.size; obtain ⟨z0, z1, z2, z3⟩ := four_lt hs; obtain ⟨hc, hf⟩ := bcell hb1; clear hb1)
          | (go_at_call 29; (with_reducible refine (c3 _).mono ?_); rintro e w1 ⟨rfl, hb1⟩; replace hB := bt hB hb1; replace hs := Nat.le_trans hs hb1.size; obtain ⟨z0, z1, z2, z3⟩ := four_lt hs; obtain ⟨hc, hf⟩ := bcell hb1; clear hb1)
          | (go_at_call 29; (with_reducible refine (c4 _).mono ?_); rintro e w1 ⟨rfl, hb1⟩; replace hB := bt hB hb1; replace hs := Nat.le_trans hs hb1.size; obtain ⟨z0, z1, z2, z3⟩ := four_lt hs; obtain ⟨hc, hf⟩ := bcell hb1; clear hb1)
          | (go_at_call 30; (with_reducible refine (ref_typed _ _).mono ?_); rintro e w1 ⟨rfl, hb1⟩; replace hB := bt hB hb1; replace hs := Nat.le_trans hs hb1.size; obtain ⟨z0, z1, z2, z3⟩ := four_lt hs; obtain ⟨hc, hf⟩ := bcell hb1; clear hb1))
        refine bodyPost_ret (v := .tuple #[.agg #[.int .i64 (kindOf sa), .int .i64 (sa)], .bool true]) ?_ rfl ⟨rfl, ?_⟩
        · rw [results_cell_tmp rfl]; go_simp
        · repeat (refine Below.setCell ?_ (by first | (simp; done) | (simp; omega)) _)
          exact hB

      · rw [if_neg hz] at hsc
        have e := arT_no hsc (by omega)
        have hzb : (sb == 0) = false := by simpa using hz
        rw [e]
        clear e hsc o1 o1b o2 o2b o3 o3b hz
        go_enter Tryd.func12, Tryd.ntmps12
        go_wp2_with (first
          | (go_at_call 16; (with_reducible refine (c1 _).mono ?_); rintro e w1 ⟨rfl, hb1⟩; replace hB := bt hB hb1; replace hs := Nat.le_trans hs hb1.size; obtain ⟨z0, z1, z2, z3⟩ := four_lt hs; obtain ⟨hc, hf⟩ := bcell hb1; clear hb1)
          | (go_at_call 16; (with_reducible refine (c2 _).mono ?_); rintro e w1 ⟨rfl, hb1⟩; replace hB := bt hB hb1; replace hs := Nat.le_trans hs hb1.size; obtain ⟨z0, z1, z2, z3⟩ := four_lt hs; obtain ⟨hc, hf⟩ := bcell hb1; clear hb1)
          | (go_at_call 29; (with_reducible refine (c3 _).mono ?_); rintro e w1 ⟨rfl, hb1⟩; replace hB := bt hB hb1; replace hs := Nat.le_trans hs hb1.size; obtain ⟨z0, z1, z2, z3⟩ := four_lt hs; obtain ⟨hc, hf⟩ := bcell hb1; clear hb1)
          | (go_at_call 29; (with_reducible refine (c4 _).mono ?_); rintro e w1 ⟨rfl, hb1⟩; replace hB := bt hB hb1; replace hs := Nat.le_trans hs hb1.size; obtain ⟨z0, z1, z2, z3⟩ := four_lt hs; obtain ⟨hc, hf⟩ := bcell hb1; clear hb1)
          | (go_at_call 30; (with_reducible refine (ref_typed _ _).mono ?_); rintro e w1 ⟨rfl, hb1⟩; replace hB := bt hB hb1; replace hs := Nat.le_trans hs hb1.size; obtain ⟨z0, z1, z2, z3⟩ := four_lt hs; obtain ⟨hc, hf⟩ := bcell hb1; clear hb1))
        refine bodyPost_ret (v := .tuple #[.agg #[.int .i64 (0), .int .i64 (0)], .bool false]) ?_ rfl ⟨rfl, ?_⟩
        · rw [results_cell_tmp rfl]; go_simp
        · repeat (refine Below.setCell ?_ (by first | (simp; done) | (simp; omega)) _)
          exact hB

    have o4b : (op == 47) = false := by simpa using o4
    rw [if_neg o4] at hsc
    have e := arT_no hsc (by omega)
    rw [e]
    clear e hsc o1 o2 o3 o4
    go_enter Tryd.func12, Tryd.ntmps12
    go_wp2_with (first
      | (go_at_call 16; (with_reducible refine (c1 _).mono ?_); rintro e w1 ⟨rfl, hb1⟩; replace hB := bt hB hb1; replace hs := Nat.le_trans hs hb1.size; obtain ⟨z0, z1, z2, z3⟩ := four_lt hs; obtain ⟨hc, hf⟩ := bcell hb1; clear hb1)
      | (go_at_call 16; (with_reducible refine (c2 _).mono ?_); rintro e w1 ⟨rfl, hb1⟩; replace hB := bt hB hb1; replace hs := Nat.le_trans hs hb1.size; obtain ⟨z0, z1, z2, z3⟩ := four_lt hs; obtain ⟨hc, hf⟩ := bcell hb1; clear hb1)
      | (go_at_call 29; (with_reducible refine (c3 _).mono ?_); rintro e w1 ⟨rfl, hb1⟩; replace hB := bt hB hb1; replace hs := Nat.le_trans hs hb1.size; obtain ⟨z0, z1, z2, z3⟩ := four_lt hs; obtain ⟨hc, hf⟩ := bcell hb1; clear hb1)
      | (go_at_call 29; (with_reducible refine (c4 _).mono ?_); rintro e w1 ⟨rfl, hb1⟩; replace hB := bt hB hb1; replace hs := Nat.le_trans hs hb1.size; obtain ⟨z0, z1, z2, z3⟩ := four_lt hs; obtain ⟨hc, hf⟩ := bcell hb1; clear hb1)
      | (go_at_call 30; (with_reducible refine (ref_typed _ _).mono ?_); rintro e w1 ⟨rfl, hb1⟩; replace hB := bt hB hb1; replace hs := Nat.le_trans hs hb1.size; obtain ⟨z0, z1, z2, z3⟩ := four_lt hs; obtain ⟨hc, hf⟩ := bcell hb1; clear hb1))
    refine bodyPost_ret (v := .tuple #[.agg #[.int .i64 (0), .int .i64 (0)], .bool false]) ?_ rfl ⟨rfl, ?_⟩
    · rw [results_cell_tmp rfl]; go_simp
    · repeat (refine Below.setCell ?_ (by first | (simp; done) | (simp; omega)) _)
      exact hB
end Go.Proofs.YtfjoobopfjahcaaDoor
