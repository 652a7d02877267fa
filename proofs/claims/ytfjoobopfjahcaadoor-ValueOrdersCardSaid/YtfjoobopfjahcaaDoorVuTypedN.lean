/-
  Where an operator has no type: package value's own, walked. A contract that the proofs call; no statement is proved here.
-/
import Derived.Test.YtfjoobopfjahcaaDoorVuTyped
namespace Go.Proofs.YtfjoobopfjahcaaDoor
open Go.RowKit

set_option maxRecDepth 100000 in
set_option maxHeartbeats 8000000 in
theorem typed_none (op ka sa kb sb : Int) (h0 : 0 ≤ op) (h1 : op ≤ 255) (h : (isOp op && (numK ka && tyR ka sa) && (numK kb && tyR kb sb)) = false) (w : World) :
    Calls Tryd.prog 28 #[.int .u8 op, .agg #[.int .i64 ka, .int .i64 sa], .agg #[.int .i64 kb, .int .i64 sb]] w fun e w' => e = .returned (.tuple #[.agg #[.nilFunc, .bool false, .nilFunc], .agg #[.int .i64 0, .int .i64 0], .bool false]) ∧ Below w.heap.size w w' := by
  have c0 := fun w => val_find op h0 h1 w
  have c1 := fun w => val_number ka sa w
  have c2 := fun w => val_number kb sb w
  obtain ⟨W, hW⟩ : ∃ W, W = (((w.alloc (.cells #[.int .i64 ka, .int .i64 sa] 23)).alloc (.cells #[.int .i64 kb, .int .i64 sb] 23)).alloc (.cells #[.nilFunc, .bool false, .nilFunc] 57)).alloc (.cells #[.int .i64 0, .int .i64 0] 23) := ⟨_, rfl⟩
  have HT : Tb w.heap.size ka sa kb sb W := by
    rw [hW]; exact ⟨by go_simp, by go_simp, by go_simp, by go_simp, by go_simp, by go_simp, by go_simp, by go_simp, by go_simp, by go_simp, by go_simp, by go_simp, by go_simp, by go_simp⟩
  have hB : Below w.heap.size w W := by rw [hW]; exact b4
  by_cases k1 : op = 43
  · subst k1
    rw [show found 43 = .agg #[.func (.func 55) #[] #[], .bool true, .func (.func 57) #[] #[]] from rfl, show isOp 43 = true from rfl] at c0
    rw [show isOp 43 = true from rfl, Bool.true_and] at h
    cases i2 : (numK ka && tyR ka sa)
    · rw [i2] at c1
      clear h i2
      go_enter Tryd.func28, Tryd.ntmps28
      go_upto_region 1 with fail
      rw [← hW]
      clear hW
      go_wp2_with (first
        | (go_at_call 44; (with_reducible refine (c0 _).mono ?_); rintro e w1 ⟨rfl, hb1⟩; have T1 := HT.on hb1; have hB1 := bt hB hb1; obtain ⟨l0, l1, l2, l3⟩ := T1.lt; obtain ⟨a0, a1, e0, e1, j0, j1, j2, j3, j4, j5, j6, j7, j8, j9⟩ := id T1; have hBx := hB1)
        | (go_at_call 37; (with_reducible refine (c1 _).mono ?_); rintro e w2 ⟨rfl, hb2⟩; have T2 := (T1.on b1).on hb2; have hB2 := bt (bt hB1 b1) hb2; have hBx := hB2; obtain ⟨a0', a1', e0', e1', j0', j1', j2', j3', j4', j5', j6', j7', j8', j9'⟩ := id T2)
        | (go_at_call 37; (with_reducible refine (c2 _).mono ?_); rintro e w3 ⟨rfl, hb3⟩; have T3 := T2.on hb3; have hB3 := bt hB2 hb3; have hBx := hB3; obtain ⟨a0'', a1'', e0'', e1'', j0'', j1'', j2'', j3'', j4'', j5'', j6'', j7'', j8'', j9''⟩ := id T3))
      refine bodyPost_ret (v := .tuple #[.agg #[.nilFunc, .bool false, .nilFunc], .agg #[.int .i64 0, .int .i64 0], .bool false]) ?_ rfl ⟨rfl, ?_⟩
      · rw [results_cell2_tmp rfl]; go_simp
      · repeat (first | refine Below.alloc ?_ (by simpa using hB1.size) _ | refine Below.setCell ?_ (by first | (simp; done) | (simp; omega)) _)
        exact hBx
    rw [i2] at h c1
    have i3 : (numK kb && tyR kb sb) = false := by simpa using h
    rw [i3] at c2
    clear h i2 i3
    go_enter Tryd.func28, Tryd.ntmps28
    go_upto_region 1 with fail
    rw [← hW]
    clear hW
    go_wp2_with (first
      | (go_at_call 44; (with_reducible refine (c0 _).mono ?_); rintro e w1 ⟨rfl, hb1⟩; have T1 := HT.on hb1; have hB1 := bt hB hb1; obtain ⟨l0, l1, l2, l3⟩ := T1.lt; obtain ⟨a0, a1, e0, e1, j0, j1, j2, j3, j4, j5, j6, j7, j8, j9⟩ := id T1; have hBx := hB1)
      | (go_at_call 37; (with_reducible refine (c1 _).mono ?_); rintro e w2 ⟨rfl, hb2⟩; have T2 := (T1.on b1).on hb2; have hB2 := bt (bt hB1 b1) hb2; have hBx := hB2; obtain ⟨a0', a1', e0', e1', j0', j1', j2', j3', j4', j5', j6', j7', j8', j9'⟩ := id T2)
      | (go_at_call 37; (with_reducible refine (c2 _).mono ?_); rintro e w3 ⟨rfl, hb3⟩; have T3 := T2.on hb3; have hB3 := bt hB2 hb3; have hBx := hB3; obtain ⟨a0'', a1'', e0'', e1'', j0'', j1'', j2'', j3'', j4'', j5'', j6'', j7'', j8'', j9''⟩ := id T3))
    refine bodyPost_ret (v := .tuple #[.agg #[.nilFunc, .bool false, .nilFunc], .agg #[.int .i64 0, .int .i64 0], .bool false]) ?_ rfl ⟨rfl, ?_⟩
    · rw [results_cell2_tmp rfl]; go_simp
    · repeat (first | refine Below.alloc ?_ (by simpa using hB1.size) _ | refine Below.setCell ?_ (by first | (simp; done) | (simp; omega)) _)
      exact hBx
  by_cases k2 : op = 45
  · subst k2
    rw [show found 45 = .agg #[.func (.func 55) #[] #[], .bool true, .func (.func 58) #[] #[]] from rfl, show isOp 45 = true from rfl] at c0
    rw [show isOp 45 = true from rfl, Bool.true_and] at h
    cases i2 : (numK ka && tyR ka sa)
    · rw [i2] at c1
      clear h i2
      go_enter Tryd.func28, Tryd.ntmps28
      go_upto_region 1 with fail
      rw [← hW]
      clear hW
      go_wp2_with (first
        | (go_at_call 44; (with_reducible refine (c0 _).mono ?_); rintro e w1 ⟨rfl, hb1⟩; have T1 := HT.on hb1; have hB1 := bt hB hb1; obtain ⟨l0, l1, l2, l3⟩ := T1.lt; obtain ⟨a0, a1, e0, e1, j0, j1, j2, j3, j4, j5, j6, j7, j8, j9⟩ := id T1; have hBx := hB1)
        | (go_at_call 37; (with_reducible refine (c1 _).mono ?_); rintro e w2 ⟨rfl, hb2⟩; have T2 := (T1.on b1).on hb2; have hB2 := bt (bt hB1 b1) hb2; have hBx := hB2; obtain ⟨a0', a1', e0', e1', j0', j1', j2', j3', j4', j5', j6', j7', j8', j9'⟩ := id T2)
        | (go_at_call 37; (with_reducible refine (c2 _).mono ?_); rintro e w3 ⟨rfl, hb3⟩; have T3 := T2.on hb3; have hB3 := bt hB2 hb3; have hBx := hB3; obtain ⟨a0'', a1'', e0'', e1'', j0'', j1'', j2'', j3'', j4'', j5'', j6'', j7'', j8'', j9''⟩ := id T3))
      refine bodyPost_ret (v := .tuple #[.agg #[.nilFunc, .bool false, .nilFunc], .agg #[.int .i64 0, .int .i64 0], .bool false]) ?_ rfl ⟨rfl, ?_⟩
      · rw [results_cell2_tmp rfl]; go_simp
      · repeat (first | refine Below.alloc ?_ (by simpa using hB1.size) _ | refine Below.setCell ?_ (by first | (simp; done) | (simp; omega)) _)
        exact hBx
    rw [i2] at h c1
    have i3 : (numK kb && tyR kb sb) = false := by simpa using h
    rw [i3] at c2
    clear h i2 i3
    go_enter Tryd.func28, Tryd.ntmps28
    go_upto_region 1 with fail
    rw [← hW]
    clear hW
    go_wp2_with (first
      | (go_at_call 44; (with_reducible refine (c0 _).mono ?_); rintro e w1 ⟨rfl, hb1⟩; have T1 := HT.on hb1; have hB1 := bt hB hb1; obtain ⟨l0, l1, l2, l3⟩ := T1.lt; obtain ⟨a0, a1, e0, e1, j0, j1, j2, j3, j4, j5, j6, j7, j8, j9⟩ := id T1; have hBx := hB1)
      | (go_at_call 37; (with_reducible refine (c1 _).mono ?_); rintro e w2 ⟨rfl, hb2⟩; have T2 := (T1.on b1).on hb2; have hB2 := bt (bt hB1 b1) hb2; have hBx := hB2; obtain ⟨a0', a1', e0', e1', j0', j1', j2', j3', j4', j5', j6', j7', j8', j9'⟩ := id T2)
      | (go_at_call 37; (with_reducible refine (c2 _).mono ?_); rintro e w3 ⟨rfl, hb3⟩; have T3 := T2.on hb3; have hB3 := bt hB2 hb3; have hBx := hB3; obtain ⟨a0'', a1'', e0'', e1'', j0'', j1'', j2'', j3'', j4'', j5'', j6'', j7'', j8'', j9''⟩ := id T3))
    refine bodyPost_ret (v := .tuple #[.agg #[.nilFunc, .bool false, .nilFunc], .agg #[.int .i64 0, .int .i64 0], .bool false]) ?_ rfl ⟨rfl, ?_⟩
    · rw [results_cell2_tmp rfl]; go_simp
    · repeat (first | refine Below.alloc ?_ (by simpa using hB1.size) _ | refine Below.setCell ?_ (by first | (simp; done) | (simp; omega)) _)
      exact hBx
  by_cases k3 : op = 42
  · subst k3
    rw [show found 42 = .agg #[.func (.func 56) #[] #[], .bool false, .func (.func 60) #[] #[]] from rfl, show isOp 42 = true from rfl] at c0
    rw [show isOp 42 = true from rfl, Bool.true_and] at h
    cases i2 : (numK ka && tyR ka sa)
    · rw [i2] at c1
      clear h i2
      go_enter Tryd.func28, Tryd.ntmps28
      go_upto_region 1 with fail
      rw [← hW]
      clear hW
      go_wp2_with (first
        | (go_at_call 44; (with_reducible refine (c0 _).mono ?_); rintro e w1 ⟨rfl, hb1⟩; have T1 := HT.on hb1; have hB1 := bt hB hb1; obtain ⟨l0, l1, l2, l3⟩ := T1.lt; obtain ⟨a0, a1, e0, e1, j0, j1, j2, j3, j4, j5, j6, j7, j8, j9⟩ := id T1; have hBx := hB1)
        | (go_at_call 37; (with_reducible refine (c1 _).mono ?_); rintro e w2 ⟨rfl, hb2⟩; have T2 := (T1.on b1).on hb2; have hB2 := bt (bt hB1 b1) hb2; have hBx := hB2; obtain ⟨a0', a1', e0', e1', j0', j1', j2', j3', j4', j5', j6', j7', j8', j9'⟩ := id T2)
        | (go_at_call 37; (with_reducible refine (c2 _).mono ?_); rintro e w3 ⟨rfl, hb3⟩; have T3 := T2.on hb3; have hB3 := bt hB2 hb3; have hBx := hB3; obtain ⟨a0'', a1'', e0'', e1'', j0'', j1'', j2'', j3'', j4'', j5'', j6'', j7'', j8'', j9''⟩ := id T3))
      refine bodyPost_ret (v := .tuple #[.agg #[.nilFunc, .bool false, .nilFunc], .agg #[.int .i64 0, .int .i64 0], .bool false]) ?_ rfl ⟨rfl, ?_⟩
      · rw [results_cell2_tmp rfl]; go_simp
      · repeat (first | refine Below.alloc ?_ (by simpa using hB1.size) _ | refine Below.setCell ?_ (by first | (simp; done) | (simp; omega)) _)
        exact hBx
    rw [i2] at h c1
    have i3 : (numK kb && tyR kb sb) = false := by simpa using h
    rw [i3] at c2
    clear h i2 i3
    go_enter Tryd.func28, Tryd.ntmps28
    go_upto_region 1 with fail
    rw [← hW]
    clear hW
    go_wp2_with (first
      | (go_at_call 44; (with_reducible refine (c0 _).mono ?_); rintro e w1 ⟨rfl, hb1⟩; have T1 := HT.on hb1; have hB1 := bt hB hb1; obtain ⟨l0, l1, l2, l3⟩ := T1.lt; obtain ⟨a0, a1, e0, e1, j0, j1, j2, j3, j4, j5, j6, j7, j8, j9⟩ := id T1; have hBx := hB1)
      | (go_at_call 37; (with_reducible refine (c1 _).mono ?_); rintro e w2 ⟨rfl, hb2⟩; have T2 := (T1.on b1).on hb2; have hB2 := bt (bt hB1 b1) hb2; have hBx := hB2; obtain ⟨a0', a1', e0', e1', j0', j1', j2', j3', j4', j5', j6', j7', j8', j9'⟩ := id T2)
      | (go_at_call 37; (with_reducible refine (c2 _).mono ?_); rintro e w3 ⟨rfl, hb3⟩; have T3 := T2.on hb3; have hB3 := bt hB2 hb3; have hBx := hB3; obtain ⟨a0'', a1'', e0'', e1'', j0'', j1'', j2'', j3'', j4'', j5'', j6'', j7'', j8'', j9''⟩ := id T3))
    refine bodyPost_ret (v := .tuple #[.agg #[.nilFunc, .bool false, .nilFunc], .agg #[.int .i64 0, .int .i64 0], .bool false]) ?_ rfl ⟨rfl, ?_⟩
    · rw [results_cell2_tmp rfl]; go_simp
    · repeat (first | refine Below.alloc ?_ (by simpa using hB1.size) _ | refine Below.setCell ?_ (by first | (simp; done) | (simp; omega)) _)
      exact hBx
  by_cases k4 : op = 47
  · subst k4
    rw [show found 47 = .agg #[.func (.func 62) #[] #[], .bool false, .func (.func 63) #[] #[]] from rfl, show isOp 47 = true from rfl] at c0
    rw [show isOp 47 = true from rfl, Bool.true_and] at h
    cases i2 : (numK ka && tyR ka sa)
    · rw [i2] at c1
      clear h i2
      go_enter Tryd.func28, Tryd.ntmps28
      go_upto_region 1 with fail
      rw [← hW]
      clear hW
      go_wp2_with (first
        | (go_at_call 44; (with_reducible refine (c0 _).mono ?_); rintro e w1 ⟨rfl, hb1⟩; have T1 := HT.on hb1; have hB1 := bt hB hb1; obtain ⟨l0, l1, l2, l3⟩ := T1.lt; obtain ⟨a0, a1, e0, e1, j0, j1, j2, j3, j4, j5, j6, j7, j8, j9⟩ := id T1; have hBx := hB1)
        | (go_at_call 37; (with_reducible refine (c1 _).mono ?_); rintro e w2 ⟨rfl, hb2⟩; have T2 := (T1.on b1).on hb2; have hB2 := bt (bt hB1 b1) hb2; have hBx := hB2; obtain ⟨a0', a1', e0', e1', j0', j1', j2', j3', j4', j5', j6', j7', j8', j9'⟩ := id T2)
        | (go_at_call 37; (with_reducible refine (c2 _).mono ?_); rintro e w3 ⟨rfl, hb3⟩; have T3 := T2.on hb3; have hB3 := bt hB2 hb3; have hBx := hB3; obtain ⟨a0'', a1'', e0'', e1'', j0'', j1'', j2'', j3'', j4'', j5'', j6'', j7'', j8'', j9''⟩ := id T3))
      refine bodyPost_ret (v := .tuple #[.agg #[.nilFunc, .bool false, .nilFunc], .agg #[.int .i64 0, .int .i64 0], .bool false]) ?_ rfl ⟨rfl, ?_⟩
      · rw [results_cell2_tmp rfl]; go_simp
      · repeat (first | refine Below.alloc ?_ (by simpa using hB1.size) _ | refine Below.setCell ?_ (by first | (simp; done) | (simp; omega)) _)
        exact hBx
    rw [i2] at h c1
    have i3 : (numK kb && tyR kb sb) = false := by simpa using h
    rw [i3] at c2
    clear h i2 i3
    go_enter Tryd.func28, Tryd.ntmps28
    go_upto_region 1 with fail
    rw [← hW]
    clear hW
    go_wp2_with (first
      | (go_at_call 44; (with_reducible refine (c0 _).mono ?_); rintro e w1 ⟨rfl, hb1⟩; have T1 := HT.on hb1; have hB1 := bt hB hb1; obtain ⟨l0, l1, l2, l3⟩ := T1.lt; obtain ⟨a0, a1, e0, e1, j0, j1, j2, j3, j4, j5, j6, j7, j8, j9⟩ := id T1; have hBx := hB1)
      | (go_at_call 37; (with_reducible refine (c1 _).mono ?_); rintro e w2 ⟨rfl, hb2⟩; have T2 := (T1.on b1).on hb2; have hB2 := bt (bt hB1 b1) hb2; have hBx := hB2; obtain ⟨a0', a1', e0', e1', j0', j1', j2', j3', j4', j5', j6', j7', j8', j9'⟩ := id T2)
      | (go_at_call 37; (with_reducible refine (c2 _).mono ?_); rintro e w3 ⟨rfl, hb3⟩; have T3 := T2.on hb3; have hB3 := bt hB2 hb3; have hBx := hB3; obtain ⟨a0'', a1'', e0'', e1'', j0'', j1'', j2'', j3'', j4'', j5'', j6'', j7'', j8'', j9''⟩ := id T3))
    refine bodyPost_ret (v := .tuple #[.agg #[.nilFunc, .bool false, .nilFunc], .agg #[.int .i64 0, .int .i64 0], .bool false]) ?_ rfl ⟨rfl, ?_⟩
    · rw [results_cell2_tmp rfl]; go_simp
    · repeat (first | refine Below.alloc ?_ (by simpa using hB1.size) _ | refine Below.setCell ?_ (by first | (simp; done) | (simp; omega)) _)
      exact hBx
  have hf : found op = .agg #[.nilFunc, .bool false, .nilFunc] := by unfold found; rw [if_neg k1, if_neg k2, if_neg k3, if_neg k4]
  have hi : isOp op = false := by unfold isOp; simp [k1, k2, k3, k4]
  rw [hf, hi] at c0
  clear hf hi h k1 k2 k3 k4
  go_enter Tryd.func28, Tryd.ntmps28
  go_upto_region 1 with fail
  rw [← hW]
  clear hW
  go_wp2_with (first
    | (go_at_call 44; (with_reducible refine (c0 _).mono ?_); rintro e w1 ⟨rfl, hb1⟩; have T1 := HT.on hb1; have hB1 := bt hB hb1; obtain ⟨l0, l1, l2, l3⟩ := T1.lt; obtain ⟨a0, a1, e0, e1, j0, j1, j2, j3, j4, j5, j6, j7, j8, j9⟩ := id T1; have hBx := hB1)
    | (go_at_call 37; (with_reducible refine (c1 _).mono ?_); rintro e w2 ⟨rfl, hb2⟩; have T2 := (T1.on b1).on hb2; have hB2 := bt (bt hB1 b1) hb2; have hBx := hB2; obtain ⟨a0', a1', e0', e1', j0', j1', j2', j3', j4', j5', j6', j7', j8', j9'⟩ := id T2)
    | (go_at_call 37; (with_reducible refine (c2 _).mono ?_); rintro e w3 ⟨rfl, hb3⟩; have T3 := T2.on hb3; have hB3 := bt hB2 hb3; have hBx := hB3; obtain ⟨a0'', a1'', e0'', e1'', j0'', j1'', j2'', j3'', j4'', j5'', j6'', j7'', j8'', j9''⟩ := id T3))
  refine bodyPost_ret (v := .tuple #[.agg #[.nilFunc, .bool false, .nilFunc], .agg #[.int .i64 0, .int .i64 0], .bool false]) ?_ rfl ⟨rfl, ?_⟩
  · rw [results_cell2_tmp rfl]; go_simp
  · repeat (first | refine Below.alloc ?_ (by simpa using hB1.size) _ | refine Below.setCell ?_ (by first | (simp; done) | (simp; omega)) _)
    exact hBx
end Go.Proofs.YtfjoobopfjahcaaDoor
