/-
  OpRanges, walked: an instruction's numbers have just the room of its shape.
-/
import Derived.Test.YtjpcobfaojjceaaDoorOpHead
namespace Go.Proofs.YtjpcobfaojjceaaDoor
open Go.RowKit
set_option linter.unusedVariables false

set_option maxRecDepth 100000 in
set_option maxHeartbeats 4000000 in
theorem ranges_none (a n : Int) (ha0 : 0 ≤ a) (ha1 : a ≤ 255) (h0 : -9223372036854775808 ≤ n) (h1 : n ≤ 9223372036854775807) (h : byCode a = none) (w : World) (hLaid : Laid w) :
    Calls Tryd.prog 7 #[.int .u8 a, .int .i64 n] w fun e w' => e = .returned (.bool true) ∧ Below w.heap.size w w' := by
  have c1 := op_of_is a (n := ⟨#[]⟩) (s := 0) (p := ⟨#[]⟩) (r := ⟨#[]⟩) (ok := false) (by omega) (by rw [h]; rfl) (by rw [h]; rfl)
  have c2 := op_right_nil a 0 0 (f := false) (by omega) (by rw [h]; rfl)
  clear h
  have hB := Below.refl w.heap.size w
  go_enter Tryd.func7, Tryd.ntmps7
  go_wp2_with (first
    | (go_at_call 8; (with_reducible refine (head_op _ hLaid).mono ?_); rintro e w0 ⟨rfl, hb⟩; replace hB := bt hB hb; clear hb)
    | (go_at_call 9; (with_reducible refine (c1 _ ?_).mono ?_); (first | (with_reducible exact hLaid.below hB) | (with_reducible exact (hLaid.below hB).alloc _) | (with_reducible exact ((hLaid.below hB).alloc _).alloc _)); rintro e w1 ⟨rfl, hb⟩; replace hB := bt hB hb; clear hb)
    | (go_at_call 15; (with_reducible refine (c2 _ ?_).mono ?_); (first | (with_reducible exact hLaid.below hB) | (with_reducible exact (hLaid.below hB).alloc _) | (with_reducible exact ((hLaid.below hB).alloc _).alloc _)); rintro e w2 ⟨rfl, hb⟩; replace hB := bta hB hb; clear hb))
  all_goals go_ret
  all_goals exact ⟨by first | rfl | exact ret_true (by simp <;> omega), hB⟩

set_option maxRecDepth 100000 in
set_option maxHeartbeats 4000000 in
theorem ranges_0_zero (a n : Int) (ha0 : 0 ≤ a) (ha1 : a ≤ 255) (h0 : -9223372036854775808 ≤ n) (h1 : n ≤ 9223372036854775807) (rc : Int) (rn rp rr : ByteArray) (h : byCode a = some ⟨rc, rn, 0, rp, rr⟩) (hn : n = 0) (w : World) (hLaid : Laid w) :
    Calls Tryd.prog 7 #[.int .u8 a, .int .i64 n] w fun e w' => e = .returned (.bool true) ∧ Below w.heap.size w w' := by
  subst hn
  have c1 := op_of_is a (n := rn) (s := 0) (p := rp) (r := rr) (ok := true) (by omega) (by rw [h]; rfl) (by rw [h]; rfl)
  have c2 := op_right_nil a 0 0 (f := true) (by omega) (by rw [h]; simp [rightOf] <;> omega)
  have c3 := op_right_nil a 64 0 (by omega) rfl
  clear h
  generalize rightOf (byCode a) a 64 0 [] = x2 at c3
  have hB := Below.refl w.heap.size w
  go_enter Tryd.func7, Tryd.ntmps7
  go_wp2_with (first
    | (go_at_call 8; (with_reducible refine (head_op _ hLaid).mono ?_); rintro e w0 ⟨rfl, hb⟩; replace hB := bt hB hb; clear hb)
    | (go_at_call 9; (with_reducible refine (c1 _ ?_).mono ?_); (first | (with_reducible exact hLaid.below hB) | (with_reducible exact (hLaid.below hB).alloc _) | (with_reducible exact ((hLaid.below hB).alloc _).alloc _)); rintro e w1 ⟨rfl, hb⟩; replace hB := bt hB hb; clear hb)
    | (go_at_call 15; (with_reducible refine (c3 _ ?_).mono ?_); (first | (with_reducible exact hLaid.below hB) | (with_reducible exact (hLaid.below hB).alloc _) | (with_reducible exact ((hLaid.below hB).alloc _).alloc _)); rintro e w2 ⟨rfl, hb⟩; have hI := (At4.new _ _ _ _ _ _).below hb; have ⟨_, r0, r1, r2, r3⟩ := hI; replace hB := bta hB hb; clear hb)
    | (go_at_call 15; (with_reducible refine (c2 _ ?_).mono ?_); (first | (with_reducible exact hLaid.below hB) | (with_reducible exact (hLaid.below hB).alloc _) | (with_reducible exact ((hLaid.below hB).alloc _).alloc _)); rintro e w3 ⟨rfl, hb⟩; have ⟨_, q0, q1, q2, q3⟩ := hI.below hb; replace hB := bt hB hb; clear hb))
  all_goals go_ret
  all_goals exact ⟨by first | rfl | exact ret_true (by simp <;> omega), hB⟩

set_option maxRecDepth 100000 in
set_option maxHeartbeats 4000000 in
theorem ranges_0_not (a n : Int) (ha0 : 0 ≤ a) (ha1 : a ≤ 255) (h0 : -9223372036854775808 ≤ n) (h1 : n ≤ 9223372036854775807) (rc : Int) (rn rp rr : ByteArray) (h : byCode a = some ⟨rc, rn, 0, rp, rr⟩) (hn : n ≠ 0) (w : World) (hLaid : Laid w) :
    Calls Tryd.prog 7 #[.int .u8 a, .int .i64 n] w fun e w' => e = .returned (.bool true) ∧ Below w.heap.size w w' := by
  have c1 := op_of_is a (n := rn) (s := 0) (p := rp) (r := rr) (ok := true) (by omega) (by rw [h]; rfl) (by rw [h]; rfl)
  have c2 := op_right_nil a n 0 (f := false) (by omega) (by rw [h]; simp [rightOf] <;> omega)
  have c3 := op_right_nil a 64 n (f := false) (by omega) (by rw [h]; simp [rightOf] <;> omega)
  clear h
  have hB := Below.refl w.heap.size w
  go_enter Tryd.func7, Tryd.ntmps7
  go_wp2_with (first
    | (go_at_call 8; (with_reducible refine (head_op _ hLaid).mono ?_); rintro e w0 ⟨rfl, hb⟩; replace hB := bt hB hb; clear hb)
    | (go_at_call 9; (with_reducible refine (c1 _ ?_).mono ?_); (first | (with_reducible exact hLaid.below hB) | (with_reducible exact (hLaid.below hB).alloc _) | (with_reducible exact ((hLaid.below hB).alloc _).alloc _)); rintro e w1 ⟨rfl, hb⟩; replace hB := bt hB hb; clear hb)
    | (go_at_call 15; (with_reducible refine (c3 _ ?_).mono ?_); (first | (with_reducible exact hLaid.below hB) | (with_reducible exact (hLaid.below hB).alloc _) | (with_reducible exact ((hLaid.below hB).alloc _).alloc _)); rintro e w2 ⟨rfl, hb⟩; have hI := (At4.new _ _ _ _ _ _).below hb; have ⟨_, r0, r1, r2, r3⟩ := hI; replace hB := bta hB hb; clear hb)
    | (go_at_call 15; (with_reducible refine (c2 _ ?_).mono ?_); (first | (with_reducible exact hLaid.below hB) | (with_reducible exact (hLaid.below hB).alloc _) | (with_reducible exact ((hLaid.below hB).alloc _).alloc _)); rintro e w3 ⟨rfl, hb⟩; have ⟨_, q0, q1, q2, q3⟩ := hI.below hb; replace hB := bt hB hb; clear hb))
  all_goals go_ret
  all_goals exact ⟨by first | rfl | exact ret_true (by simp <;> omega), hB⟩

set_option maxRecDepth 100000 in
set_option maxHeartbeats 4000000 in
theorem ranges_1_a (a n : Int) (ha0 : 0 ≤ a) (ha1 : a ≤ 255) (h0 : -9223372036854775808 ≤ n) (h1 : n ≤ 9223372036854775807) (rc : Int) (rn rp rr : ByteArray) (h : byCode a = some ⟨rc, rn, 1, rp, rr⟩) (hn : n = 64) (w : World) (hLaid : Laid w) :
    Calls Tryd.prog 7 #[.int .u8 a, .int .i64 n] w fun e w' => e = .returned (.bool true) ∧ Below w.heap.size w w' := by
  subst hn
  have c1 := op_of_is a (n := rn) (s := 1) (p := rp) (r := rr) (ok := true) (by omega) (by rw [h]; rfl) (by rw [h]; rfl)
  have c2 := op_right_nil a 64 0 (f := true) (by omega) (by rw [h]; simp [rightOf] <;> omega)
  have c3 := op_right_nil a 64 64 (f := false) (by omega) (by rw [h]; simp [rightOf] <;> omega)
  clear h
  have hB := Below.refl w.heap.size w
  go_enter Tryd.func7, Tryd.ntmps7
  go_wp2_with (first
    | (go_at_call 8; (with_reducible refine (head_op _ hLaid).mono ?_); rintro e w0 ⟨rfl, hb⟩; replace hB := bt hB hb; clear hb)
    | (go_at_call 9; (with_reducible refine (c1 _ ?_).mono ?_); (first | (with_reducible exact hLaid.below hB) | (with_reducible exact (hLaid.below hB).alloc _) | (with_reducible exact ((hLaid.below hB).alloc _).alloc _)); rintro e w1 ⟨rfl, hb⟩; replace hB := bt hB hb; clear hb)
    | (go_at_call 15; (with_reducible refine (c3 _ ?_).mono ?_); (first | (with_reducible exact hLaid.below hB) | (with_reducible exact (hLaid.below hB).alloc _) | (with_reducible exact ((hLaid.below hB).alloc _).alloc _)); rintro e w2 ⟨rfl, hb⟩; have hI := (At4.new _ _ _ _ _ _).below hb; have ⟨_, r0, r1, r2, r3⟩ := hI; replace hB := bta hB hb; clear hb)
    | (go_at_call 15; (with_reducible refine (c2 _ ?_).mono ?_); (first | (with_reducible exact hLaid.below hB) | (with_reducible exact (hLaid.below hB).alloc _) | (with_reducible exact ((hLaid.below hB).alloc _).alloc _)); rintro e w3 ⟨rfl, hb⟩; have ⟨_, q0, q1, q2, q3⟩ := hI.below hb; replace hB := bt hB hb; clear hb))
  all_goals go_ret
  all_goals exact ⟨by first | rfl | exact ret_true (by simp <;> omega), hB⟩

set_option maxRecDepth 100000 in
set_option maxHeartbeats 4000000 in
theorem ranges_1_b (a n : Int) (ha0 : 0 ≤ a) (ha1 : a ≤ 255) (h0 : -9223372036854775808 ≤ n) (h1 : n ≤ 9223372036854775807) (rc : Int) (rn rp rr : ByteArray) (h : byCode a = some ⟨rc, rn, 1, rp, rr⟩) (hn : n = 126) (w : World) (hLaid : Laid w) :
    Calls Tryd.prog 7 #[.int .u8 a, .int .i64 n] w fun e w' => e = .returned (.bool true) ∧ Below w.heap.size w w' := by
  subst hn
  have c1 := op_of_is a (n := rn) (s := 1) (p := rp) (r := rr) (ok := true) (by omega) (by rw [h]; rfl) (by rw [h]; rfl)
  have c2 := op_right_nil a 126 0 (f := true) (by omega) (by rw [h]; simp [rightOf] <;> omega)
  have c3 := op_right_nil a 64 126 (f := false) (by omega) (by rw [h]; simp [rightOf] <;> omega)
  clear h
  have hB := Below.refl w.heap.size w
  go_enter Tryd.func7, Tryd.ntmps7
  go_wp2_with (first
    | (go_at_call 8; (with_reducible refine (head_op _ hLaid).mono ?_); rintro e w0 ⟨rfl, hb⟩; replace hB := bt hB hb; clear hb)
    | (go_at_call 9; (with_reducible refine (c1 _ ?_).mono ?_); (first | (with_reducible exact hLaid.below hB) | (with_reducible exact (hLaid.below hB).alloc _) | (with_reducible exact ((hLaid.below hB).alloc _).alloc _)); rintro e w1 ⟨rfl, hb⟩; replace hB := bt hB hb; clear hb)
    | (go_at_call 15; (with_reducible refine (c3 _ ?_).mono ?_); (first | (with_reducible exact hLaid.below hB) | (with_reducible exact (hLaid.below hB).alloc _) | (with_reducible exact ((hLaid.below hB).alloc _).alloc _)); rintro e w2 ⟨rfl, hb⟩; have hI := (At4.new _ _ _ _ _ _).below hb; have ⟨_, r0, r1, r2, r3⟩ := hI; replace hB := bta hB hb; clear hb)
    | (go_at_call 15; (with_reducible refine (c2 _ ?_).mono ?_); (first | (with_reducible exact hLaid.below hB) | (with_reducible exact (hLaid.below hB).alloc _) | (with_reducible exact ((hLaid.below hB).alloc _).alloc _)); rintro e w3 ⟨rfl, hb⟩; have ⟨_, q0, q1, q2, q3⟩ := hI.below hb; replace hB := bt hB hb; clear hb))
  all_goals go_ret
  all_goals exact ⟨by first | rfl | exact ret_true (by simp <;> omega), hB⟩

set_option maxRecDepth 100000 in
set_option maxHeartbeats 4000000 in
theorem ranges_1_c (a n : Int) (ha0 : 0 ≤ a) (ha1 : a ≤ 255) (h0 : -9223372036854775808 ≤ n) (h1 : n ≤ 9223372036854775807) (rc : Int) (rn rp rr : ByteArray) (h : byCode a = some ⟨rc, rn, 1, rp, rr⟩) (hn : n = 127) (w : World) (hLaid : Laid w) :
    Calls Tryd.prog 7 #[.int .u8 a, .int .i64 n] w fun e w' => e = .returned (.bool true) ∧ Below w.heap.size w w' := by
  subst hn
  have c1 := op_of_is a (n := rn) (s := 1) (p := rp) (r := rr) (ok := true) (by omega) (by rw [h]; rfl) (by rw [h]; rfl)
  have c2 := op_right_nil a 127 0 (f := true) (by omega) (by rw [h]; simp [rightOf] <;> omega)
  have c3 := op_right_nil a 64 127 (f := false) (by omega) (by rw [h]; simp [rightOf] <;> omega)
  clear h
  have hB := Below.refl w.heap.size w
  go_enter Tryd.func7, Tryd.ntmps7
  go_wp2_with (first
    | (go_at_call 8; (with_reducible refine (head_op _ hLaid).mono ?_); rintro e w0 ⟨rfl, hb⟩; replace hB := bt hB hb; clear hb)
    | (go_at_call 9; (with_reducible refine (c1 _ ?_).mono ?_); (first | (with_reducible exact hLaid.below hB) | (with_reducible exact (hLaid.below hB).alloc _) | (with_reducible exact ((hLaid.below hB).alloc _).alloc _)); rintro e w1 ⟨rfl, hb⟩; replace hB := bt hB hb; clear hb)
    | (go_at_call 15; (with_reducible refine (c3 _ ?_).mono ?_); (first | (with_reducible exact hLaid.below hB) | (with_reducible exact (hLaid.below hB).alloc _) | (with_reducible exact ((hLaid.below hB).alloc _).alloc _)); rintro e w2 ⟨rfl, hb⟩; have hI := (At4.new _ _ _ _ _ _).below hb; have ⟨_, r0, r1, r2, r3⟩ := hI; replace hB := bta hB hb; clear hb)
    | (go_at_call 15; (with_reducible refine (c2 _ ?_).mono ?_); (first | (with_reducible exact hLaid.below hB) | (with_reducible exact (hLaid.below hB).alloc _) | (with_reducible exact ((hLaid.below hB).alloc _).alloc _)); rintro e w3 ⟨rfl, hb⟩; have ⟨_, q0, q1, q2, q3⟩ := hI.below hb; replace hB := bt hB hb; clear hb))
  all_goals go_ret
  all_goals exact ⟨by first | rfl | exact ret_true (by simp <;> omega), hB⟩

set_option maxRecDepth 100000 in
set_option maxHeartbeats 4000000 in
theorem ranges_1_zero (a n : Int) (ha0 : 0 ≤ a) (ha1 : a ≤ 255) (h0 : -9223372036854775808 ≤ n) (h1 : n ≤ 9223372036854775807) (rc : Int) (rn rp rr : ByteArray) (h : byCode a = some ⟨rc, rn, 1, rp, rr⟩) (hn : n = 0) (w : World) (hLaid : Laid w) :
    Calls Tryd.prog 7 #[.int .u8 a, .int .i64 n] w fun e w' => e = .returned (.bool true) ∧ Below w.heap.size w w' := by
  subst hn
  have c1 := op_of_is a (n := rn) (s := 1) (p := rp) (r := rr) (ok := true) (by omega) (by rw [h]; rfl) (by rw [h]; rfl)
  have c2 := op_right_nil a 0 0 (f := false) (by omega) (by rw [h]; simp [rightOf] <;> omega)
  have c3 := op_right_nil a 64 0 (by omega) rfl
  clear h
  generalize rightOf (byCode a) a 64 0 [] = x2 at c3
  have hB := Below.refl w.heap.size w
  go_enter Tryd.func7, Tryd.ntmps7
  go_wp2_with (first
    | (go_at_call 8; (with_reducible refine (head_op _ hLaid).mono ?_); rintro e w0 ⟨rfl, hb⟩; replace hB := bt hB hb; clear hb)
    | (go_at_call 9; (with_reducible refine (c1 _ ?_).mono ?_); (first | (with_reducible exact hLaid.below hB) | (with_reducible exact (hLaid.below hB).alloc _) | (with_reducible exact ((hLaid.below hB).alloc _).alloc _)); rintro e w1 ⟨rfl, hb⟩; replace hB := bt hB hb; clear hb)
    | (go_at_call 15; (with_reducible refine (c3 _ ?_).mono ?_); (first | (with_reducible exact hLaid.below hB) | (with_reducible exact (hLaid.below hB).alloc _) | (with_reducible exact ((hLaid.below hB).alloc _).alloc _)); rintro e w2 ⟨rfl, hb⟩; have hI := (At4.new _ _ _ _ _ _).below hb; have ⟨_, r0, r1, r2, r3⟩ := hI; replace hB := bta hB hb; clear hb)
    | (go_at_call 15; (with_reducible refine (c2 _ ?_).mono ?_); (first | (with_reducible exact hLaid.below hB) | (with_reducible exact (hLaid.below hB).alloc _) | (with_reducible exact ((hLaid.below hB).alloc _).alloc _)); rintro e w3 ⟨rfl, hb⟩; have ⟨_, q0, q1, q2, q3⟩ := hI.below hb; replace hB := bt hB hb; clear hb))
  all_goals go_ret
  all_goals exact ⟨by first | rfl | exact ret_true (by simp <;> omega), hB⟩

set_option maxRecDepth 100000 in
set_option maxHeartbeats 4000000 in
theorem ranges_1_not (a n : Int) (ha0 : 0 ≤ a) (ha1 : a ≤ 255) (h0 : -9223372036854775808 ≤ n) (h1 : n ≤ 9223372036854775807) (rc : Int) (rn rp rr : ByteArray) (h : byCode a = some ⟨rc, rn, 1, rp, rr⟩) (hn : n ≠ 0 ∧ n ≠ 64 ∧ n ≠ 126 ∧ n ≠ 127) (w : World) (hLaid : Laid w) :
    Calls Tryd.prog 7 #[.int .u8 a, .int .i64 n] w fun e w' => e = .returned (.bool true) ∧ Below w.heap.size w w' := by
  obtain ⟨hn0, hn1, hn2, hn3⟩ := hn
  have c1 := op_of_is a (n := rn) (s := 1) (p := rp) (r := rr) (ok := true) (by omega) (by rw [h]; rfl) (by rw [h]; rfl)
  have c2 := op_right_nil a n 0 (f := false) (by omega) (by rw [h]; simp [rightOf] <;> omega)
  have c3 := op_right_nil a 64 n (f := false) (by omega) (by rw [h]; simp [rightOf] <;> omega)
  clear h
  have hB := Below.refl w.heap.size w
  go_enter Tryd.func7, Tryd.ntmps7
  go_wp2_with (first
    | (go_at_call 8; (with_reducible refine (head_op _ hLaid).mono ?_); rintro e w0 ⟨rfl, hb⟩; replace hB := bt hB hb; clear hb)
    | (go_at_call 9; (with_reducible refine (c1 _ ?_).mono ?_); (first | (with_reducible exact hLaid.below hB) | (with_reducible exact (hLaid.below hB).alloc _) | (with_reducible exact ((hLaid.below hB).alloc _).alloc _)); rintro e w1 ⟨rfl, hb⟩; replace hB := bt hB hb; clear hb)
    | (go_at_call 15; (with_reducible refine (c3 _ ?_).mono ?_); (first | (with_reducible exact hLaid.below hB) | (with_reducible exact (hLaid.below hB).alloc _) | (with_reducible exact ((hLaid.below hB).alloc _).alloc _)); rintro e w2 ⟨rfl, hb⟩; have hI := (At4.new _ _ _ _ _ _).below hb; have ⟨_, r0, r1, r2, r3⟩ := hI; replace hB := bta hB hb; clear hb)
    | (go_at_call 15; (with_reducible refine (c2 _ ?_).mono ?_); (first | (with_reducible exact hLaid.below hB) | (with_reducible exact (hLaid.below hB).alloc _) | (with_reducible exact ((hLaid.below hB).alloc _).alloc _)); rintro e w3 ⟨rfl, hb⟩; have ⟨_, q0, q1, q2, q3⟩ := hI.below hb; replace hB := bt hB hb; clear hb))
  all_goals go_ret
  all_goals exact ⟨by first | rfl | exact ret_true (by simp <;> omega), hB⟩

set_option maxRecDepth 100000 in
set_option maxHeartbeats 4000000 in
theorem ranges_2_neg (a n : Int) (ha0 : 0 ≤ a) (ha1 : a ≤ 255) (h0 : -9223372036854775808 ≤ n) (h1 : n ≤ 9223372036854775807) (rc : Int) (rn rp rr : ByteArray) (h : byCode a = some ⟨rc, rn, 2, rp, rr⟩) (hn : n < 0) (w : World) (hLaid : Laid w) :
    Calls Tryd.prog 7 #[.int .u8 a, .int .i64 n] w fun e w' => e = .returned (.bool true) ∧ Below w.heap.size w w' := by
  have c1 := op_of_is a (n := rn) (s := 2) (p := rp) (r := rr) (ok := true) (by omega) (by rw [h]; rfl) (by rw [h]; rfl)
  have c2 := op_right_nil a n 0 (f := false) (by omega) (by rw [h]; simp [rightOf, word] <;> omega)
  have c3 := op_right_nil a 64 n (f := false) (by omega) (by rw [h]; simp [rightOf] <;> omega)
  clear h
  have hB := Below.refl w.heap.size w
  go_enter Tryd.func7, Tryd.ntmps7
  go_wp2_with (first
    | (go_at_call 8; (with_reducible refine (head_op _ hLaid).mono ?_); rintro e w0 ⟨rfl, hb⟩; replace hB := bt hB hb; clear hb)
    | (go_at_call 9; (with_reducible refine (c1 _ ?_).mono ?_); (first | (with_reducible exact hLaid.below hB) | (with_reducible exact (hLaid.below hB).alloc _) | (with_reducible exact ((hLaid.below hB).alloc _).alloc _)); rintro e w1 ⟨rfl, hb⟩; replace hB := bt hB hb; clear hb)
    | (go_at_call 15; (with_reducible refine (c3 _ ?_).mono ?_); (first | (with_reducible exact hLaid.below hB) | (with_reducible exact (hLaid.below hB).alloc _) | (with_reducible exact ((hLaid.below hB).alloc _).alloc _)); rintro e w2 ⟨rfl, hb⟩; have hI := (At4.new _ _ _ _ _ _).below hb; have ⟨_, r0, r1, r2, r3⟩ := hI; replace hB := bta hB hb; clear hb)
    | (go_at_call 15; (with_reducible refine (c2 _ ?_).mono ?_); (first | (with_reducible exact hLaid.below hB) | (with_reducible exact (hLaid.below hB).alloc _) | (with_reducible exact ((hLaid.below hB).alloc _).alloc _)); rintro e w3 ⟨rfl, hb⟩; have ⟨_, q0, q1, q2, q3⟩ := hI.below hb; replace hB := bt hB hb; clear hb))
  all_goals go_ret
  all_goals exact ⟨by first | rfl | exact ret_true (by simp <;> omega), hB⟩

set_option maxRecDepth 100000 in
set_option maxHeartbeats 4000000 in
theorem ranges_2_big (a n : Int) (ha0 : 0 ≤ a) (ha1 : a ≤ 255) (h0 : -9223372036854775808 ≤ n) (h1 : n ≤ 9223372036854775807) (rc : Int) (rn rp rr : ByteArray) (h : byCode a = some ⟨rc, rn, 2, rp, rr⟩) (hn : 4294967296 ≤ n) (w : World) (hLaid : Laid w) :
    Calls Tryd.prog 7 #[.int .u8 a, .int .i64 n] w fun e w' => e = .returned (.bool true) ∧ Below w.heap.size w w' := by
  have c1 := op_of_is a (n := rn) (s := 2) (p := rp) (r := rr) (ok := true) (by omega) (by rw [h]; rfl) (by rw [h]; rfl)
  have c2 := op_right_nil a n 0 (f := false) (by omega) (by rw [h]; simp [rightOf, word] <;> omega)
  have c3 := op_right_nil a 64 n (f := false) (by omega) (by rw [h]; simp [rightOf] <;> omega)
  clear h
  have hB := Below.refl w.heap.size w
  go_enter Tryd.func7, Tryd.ntmps7
  go_wp2_with (first
    | (go_at_call 8; (with_reducible refine (head_op _ hLaid).mono ?_); rintro e w0 ⟨rfl, hb⟩; replace hB := bt hB hb; clear hb)
    | (go_at_call 9; (with_reducible refine (c1 _ ?_).mono ?_); (first | (with_reducible exact hLaid.below hB) | (with_reducible exact (hLaid.below hB).alloc _) | (with_reducible exact ((hLaid.below hB).alloc _).alloc _)); rintro e w1 ⟨rfl, hb⟩; replace hB := bt hB hb; clear hb)
    | (go_at_call 15; (with_reducible refine (c3 _ ?_).mono ?_); (first | (with_reducible exact hLaid.below hB) | (with_reducible exact (hLaid.below hB).alloc _) | (with_reducible exact ((hLaid.below hB).alloc _).alloc _)); rintro e w2 ⟨rfl, hb⟩; have hI := (At4.new _ _ _ _ _ _).below hb; have ⟨_, r0, r1, r2, r3⟩ := hI; replace hB := bta hB hb; clear hb)
    | (go_at_call 15; (with_reducible refine (c2 _ ?_).mono ?_); (first | (with_reducible exact hLaid.below hB) | (with_reducible exact (hLaid.below hB).alloc _) | (with_reducible exact ((hLaid.below hB).alloc _).alloc _)); rintro e w3 ⟨rfl, hb⟩; have ⟨_, q0, q1, q2, q3⟩ := hI.below hb; replace hB := bt hB hb; clear hb))
  all_goals go_ret
  all_goals exact ⟨by first | rfl | exact ret_true (by simp <;> omega), hB⟩

set_option maxRecDepth 100000 in
set_option maxHeartbeats 4000000 in
theorem ranges_2_zero (a n : Int) (ha0 : 0 ≤ a) (ha1 : a ≤ 255) (h0 : -9223372036854775808 ≤ n) (h1 : n ≤ 9223372036854775807) (rc : Int) (rn rp rr : ByteArray) (h : byCode a = some ⟨rc, rn, 2, rp, rr⟩) (hn : n = 0) (w : World) (hLaid : Laid w) :
    Calls Tryd.prog 7 #[.int .u8 a, .int .i64 n] w fun e w' => e = .returned (.bool true) ∧ Below w.heap.size w w' := by
  subst hn
  have c1 := op_of_is a (n := rn) (s := 2) (p := rp) (r := rr) (ok := true) (by omega) (by rw [h]; rfl) (by rw [h]; rfl)
  have c2 := op_right_nil a 0 0 (f := true) (by omega) (by rw [h]; simp [rightOf, word] <;> omega)
  have c3 := op_right_nil a 64 0 (by omega) rfl
  clear h
  generalize rightOf (byCode a) a 64 0 [] = x2 at c3
  have hB := Below.refl w.heap.size w
  go_enter Tryd.func7, Tryd.ntmps7
  go_wp2_with (first
    | (go_at_call 8; (with_reducible refine (head_op _ hLaid).mono ?_); rintro e w0 ⟨rfl, hb⟩; replace hB := bt hB hb; clear hb)
    | (go_at_call 9; (with_reducible refine (c1 _ ?_).mono ?_); (first | (with_reducible exact hLaid.below hB) | (with_reducible exact (hLaid.below hB).alloc _) | (with_reducible exact ((hLaid.below hB).alloc _).alloc _)); rintro e w1 ⟨rfl, hb⟩; replace hB := bt hB hb; clear hb)
    | (go_at_call 15; (with_reducible refine (c3 _ ?_).mono ?_); (first | (with_reducible exact hLaid.below hB) | (with_reducible exact (hLaid.below hB).alloc _) | (with_reducible exact ((hLaid.below hB).alloc _).alloc _)); rintro e w2 ⟨rfl, hb⟩; have hI := (At4.new _ _ _ _ _ _).below hb; have ⟨_, r0, r1, r2, r3⟩ := hI; replace hB := bta hB hb; clear hb)
    | (go_at_call 15; (with_reducible refine (c2 _ ?_).mono ?_); (first | (with_reducible exact hLaid.below hB) | (with_reducible exact (hLaid.below hB).alloc _) | (with_reducible exact ((hLaid.below hB).alloc _).alloc _)); rintro e w3 ⟨rfl, hb⟩; have ⟨_, q0, q1, q2, q3⟩ := hI.below hb; replace hB := bt hB hb; clear hb))
  all_goals go_ret
  all_goals exact ⟨by first | rfl | exact ret_true (by simp <;> omega), hB⟩

set_option maxRecDepth 100000 in
set_option maxHeartbeats 4000000 in
theorem ranges_2_mid (a n : Int) (ha0 : 0 ≤ a) (ha1 : a ≤ 255) (h0 : -9223372036854775808 ≤ n) (h1 : n ≤ 9223372036854775807) (rc : Int) (rn rp rr : ByteArray) (h : byCode a = some ⟨rc, rn, 2, rp, rr⟩) (hn : 0 < n ∧ n < 4294967296) (w : World) (hLaid : Laid w) :
    Calls Tryd.prog 7 #[.int .u8 a, .int .i64 n] w fun e w' => e = .returned (.bool true) ∧ Below w.heap.size w w' := by
  obtain ⟨hn1, hn2⟩ := hn
  have c1 := op_of_is a (n := rn) (s := 2) (p := rp) (r := rr) (ok := true) (by omega) (by rw [h]; rfl) (by rw [h]; rfl)
  have c2 := op_right_nil a n 0 (f := true) (by omega) (by rw [h]; simp [rightOf, word] <;> omega)
  have c3 := op_right_nil a 64 n (f := false) (by omega) (by rw [h]; simp [rightOf] <;> omega)
  clear h
  have hB := Below.refl w.heap.size w
  go_enter Tryd.func7, Tryd.ntmps7
  go_wp2_with (first
    | (go_at_call 8; (with_reducible refine (head_op _ hLaid).mono ?_); rintro e w0 ⟨rfl, hb⟩; replace hB := bt hB hb; clear hb)
    | (go_at_call 9; (with_reducible refine (c1 _ ?_).mono ?_); (first | (with_reducible exact hLaid.below hB) | (with_reducible exact (hLaid.below hB).alloc _) | (with_reducible exact ((hLaid.below hB).alloc _).alloc _)); rintro e w1 ⟨rfl, hb⟩; replace hB := bt hB hb; clear hb)
    | (go_at_call 15; (with_reducible refine (c3 _ ?_).mono ?_); (first | (with_reducible exact hLaid.below hB) | (with_reducible exact (hLaid.below hB).alloc _) | (with_reducible exact ((hLaid.below hB).alloc _).alloc _)); rintro e w2 ⟨rfl, hb⟩; have hI := (At4.new _ _ _ _ _ _).below hb; have ⟨_, r0, r1, r2, r3⟩ := hI; replace hB := bta hB hb; clear hb)
    | (go_at_call 15; (with_reducible refine (c2 _ ?_).mono ?_); (first | (with_reducible exact hLaid.below hB) | (with_reducible exact (hLaid.below hB).alloc _) | (with_reducible exact ((hLaid.below hB).alloc _).alloc _)); rintro e w3 ⟨rfl, hb⟩; have ⟨_, q0, q1, q2, q3⟩ := hI.below hb; replace hB := bt hB hb; clear hb))
  all_goals go_ret
  all_goals exact ⟨by first | rfl | exact ret_true (by simp <;> omega), hB⟩
end Go.Proofs.YtjpcobfaojjceaaDoor
