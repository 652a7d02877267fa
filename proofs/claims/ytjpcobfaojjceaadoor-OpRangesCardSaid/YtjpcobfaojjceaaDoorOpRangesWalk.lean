/-
  OpRanges, walked: an instruction's numbers have just the room of its shape.
-/
import Derived.Test.YtjpcobfaojjceaaDoorOpRangesA
namespace Go.Proofs.YtjpcobfaojjceaaDoor
open Go.RowKit
set_option linter.unusedVariables false

set_option maxRecDepth 100000 in
set_option maxHeartbeats 4000000 in
theorem ranges_3_neg (a n : Int) (ha0 : 0 ≤ a) (ha1 : a ≤ 255) (h0 : -9223372036854775808 ≤ n) (h1 : n ≤ 9223372036854775807) (rc : Int) (rn rp rr : ByteArray) (h : byCode a = some ⟨rc, rn, 3, rp, rr⟩) (hn : n < 0) (w : World) (hLaid : Laid w) :
    Calls Tryd.prog 7 #[.int .u8 a, .int .i64 n] w fun e w' => e = .returned (.bool true) ∧ Below w.heap.size w w' := by
  have c1 := op_of_is a (n := rn) (s := 3) (p := rp) (r := rr) (ok := true) (by omega) (by rw [h]; rfl) (by rw [h]; rfl)
  have c2 := op_right_nil a n 0 (f := false) (by omega) (by rw [h]; simp [rightOf, word] <;> omega)
  have c3 := op_right_nil a 64 n (f := false) (by omega) (by rw [h]; simp [rightOf] <;> omega)
  clear h
  have hB := Below.refl w.heap.size w
  go_enter Tryd.func7, Tryd.ntmps7
  go_wp2_with (first
    | (go_at_call 8; (with_reducible refine (head_op _ hLaid).mono ?_); rintro e w0 ⟨rfl, hb⟩; replace hB := bt hB hb; clear hb)
    | (go_at_call 9; (with_reducible refine (c1 _ ?_).mono ?_); (first | (with_reducible exact hLaid.below hB) | (with_reducible exact (hLaid.below hB).alloc _) | (with_reducible exact ((hLaid.below hB).alloc _).alloc _)); rintro e w1 ⟨rfl, hb⟩; replace hB := bt hB hb; clear hb)
    | (go_at_call 15; (with_reducible refine (c3 _ ?_).mono ?_); (first | (with_reducible exact hLaid.below hB) | (with_reducible exact (hLaid.below hB).alloc _) | (with_reducible exact ((hLaid.below hB).alloc _).alloc _)); rintro e w2 ⟨rfl, hb⟩; have hI := (At4.new _ _ _ _ _ _).below hb; have ⟨_, r0, r1, r2, r3⟩ := hI; replace hB := bta hB hb; clear hb)
    | (go_at_call 15; (with_reducible refine (c2 _ ?_).mono ?_); (first | (with_reducible exact hLaid.below hB) | (with_reducible exact (hLaid.below hB).alloc _) | (with_reducible exact ((hLaid.below hB).alloc _).alloc _)); rintro e w3 ⟨rfl, hb⟩; have ⟨_, q0, q1, q2, q3⟩ := hI.below hb; replace hB := bt hB hb; clear hb))
  all_goals go_ret
  all_goals exact ⟨by first | rfl | exact ret_true (by simp <;> omega), hB⟩

set_option maxRecDepth 100000 in
set_option maxHeartbeats 4000000 in
theorem ranges_3_big (a n : Int) (ha0 : 0 ≤ a) (ha1 : a ≤ 255) (h0 : -9223372036854775808 ≤ n) (h1 : n ≤ 9223372036854775807) (rc : Int) (rn rp rr : ByteArray) (h : byCode a = some ⟨rc, rn, 3, rp, rr⟩) (hn : 4294967296 ≤ n) (w : World) (hLaid : Laid w) :
    Calls Tryd.prog 7 #[.int .u8 a, .int .i64 n] w fun e w' => e = .returned (.bool true) ∧ Below w.heap.size w w' := by
  have c1 := op_of_is a (n := rn) (s := 3) (p := rp) (r := rr) (ok := true) (by omega) (by rw [h]; rfl) (by rw [h]; rfl)
  have c2 := op_right_nil a n 0 (f := false) (by omega) (by rw [h]; simp [rightOf, word] <;> omega)
  have c3 := op_right_nil a 64 n (f := false) (by omega) (by rw [h]; simp [rightOf] <;> omega)
  clear h
  have hB := Below.refl w.heap.size w
  go_enter Tryd.func7, Tryd.ntmps7
  go_wp2_with (first
    | (go_at_call 8; (with_reducible refine (head_op _ hLaid).mono ?_); rintro e w0 ⟨rfl, hb⟩; replace hB := bt hB hb; clear hb)
    | (go_at_call 9; (with_reducible refine (c1 _ ?_).mono ?_); (first | (with_reducible exact hLaid.below hB) | (with_reducible exact (hLaid.below hB).alloc _) | (with_reducible exact ((hLaid.below hB).alloc _).alloc _)); rintro e w1 ⟨rfl, hb⟩; replace hB := bt hB hb; clear hb)
    | (go_at_call 15; (with_reducible refine (c3 _ ?_).mono ?_); (first | (with_reducible exact hLaid.below hB) | (with_reducible exact (hLaid.below hB).alloc _) | (with_reducible exact ((hLaid.below hB).alloc _).alloc _)); rintro e w2 ⟨rfl, hb⟩; have hI := (At4.new _ _ _ _ _ _).below hb; have ⟨_, r0, r1, r2, r3⟩ := hI; replace hB := bta hB hb; clear hb)
    | (go_at_call 15; (with_reducible refine (c2 _ ?_).mono ?_); (first | (with_reducible exact hLaid.below hB) | (with_reducible exact (hLaid.below hB).alloc _) | (with_reducible exact ((hLaid.below hB).alloc _).alloc _)); rintro e w3 ⟨rfl, hb⟩; have ⟨_, q0, q1, q2, q3⟩ := hI.below hb; replace hB := bt hB hb; clear hb))
  all_goals go_ret
  all_goals exact ⟨by first | rfl | exact ret_true (by simp <;> omega), hB⟩

set_option maxRecDepth 100000 in
set_option maxHeartbeats 4000000 in
theorem ranges_3_zero (a n : Int) (ha0 : 0 ≤ a) (ha1 : a ≤ 255) (h0 : -9223372036854775808 ≤ n) (h1 : n ≤ 9223372036854775807) (rc : Int) (rn rp rr : ByteArray) (h : byCode a = some ⟨rc, rn, 3, rp, rr⟩) (hn : n = 0) (w : World) (hLaid : Laid w) :
    Calls Tryd.prog 7 #[.int .u8 a, .int .i64 n] w fun e w' => e = .returned (.bool true) ∧ Below w.heap.size w w' := by
  subst hn
  have c1 := op_of_is a (n := rn) (s := 3) (p := rp) (r := rr) (ok := true) (by omega) (by rw [h]; rfl) (by rw [h]; rfl)
  have c2 := op_right_nil a 0 0 (f := true) (by omega) (by rw [h]; simp [rightOf, word] <;> omega)
  have c3 := op_right_nil a 64 0 (by omega) rfl
  clear h
  generalize rightOf (byCode a) a 64 0 [] = x2 at c3
  have hB := Below.refl w.heap.size w
  go_enter Tryd.func7, Tryd.ntmps7
  go_wp2_with (first
    | (go_at_call 8; (with_reducible refine (head_op _ hLaid).mono ?_); rintro e w0 ⟨rfl, hb⟩; replace hB := bt hB hb; clear hb)
    | (go_at_call 9; (with_reducible refine (c1 _ ?_).mono ?_); (first | (with_reducible exact hLaid.below hB) | (with_reducible exact (hLaid.below hB).alloc _) | (with_reducible exact ((hLaid.below hB).alloc _).alloc _)); rintro e w1 ⟨rfl, hb⟩; replace hB := bt hB hb; clear hb)
    | (go_at_call 15; (with_reducible refine (c3 _ ?_).mono ?_); (first | (with_reducible exact hLaid.below hB) | (with_reducible exact (hLaid.below hB).alloc _) | (with_reducible exact ((hLaid.below hB).alloc _).alloc _)); rintro e w2 ⟨rfl, hb⟩; have hI := (At4.new _ _ _ _ _ _).below hb; have ⟨_, r0, r1, r2, r3⟩ := hI; replace hB := bta hB hb; clear hb)
    | (go_at_call 15; (with_reducible refine (c2 _ ?_).mono ?_); (first | (with_reducible exact hLaid.below hB) | (with_reducible exact (hLaid.below hB).alloc _) | (with_reducible exact ((hLaid.below hB).alloc _).alloc _)); rintro e w3 ⟨rfl, hb⟩; have ⟨_, q0, q1, q2, q3⟩ := hI.below hb; replace hB := bt hB hb; clear hb))
  all_goals go_ret
  all_goals exact ⟨by first | rfl | exact ret_true (by simp <;> omega), hB⟩

set_option maxRecDepth 100000 in
set_option maxHeartbeats 4000000 in
theorem ranges_3_mid (a n : Int) (ha0 : 0 ≤ a) (ha1 : a ≤ 255) (h0 : -9223372036854775808 ≤ n) (h1 : n ≤ 9223372036854775807) (rc : Int) (rn rp rr : ByteArray) (h : byCode a = some ⟨rc, rn, 3, rp, rr⟩) (hn : 0 < n ∧ n < 4294967296) (w : World) (hLaid : Laid w) :
    Calls Tryd.prog 7 #[.int .u8 a, .int .i64 n] w fun e w' => e = .returned (.bool true) ∧ Below w.heap.size w w' := by
  obtain ⟨hn1, hn2⟩ := hn
  have c1 := op_of_is a (n := rn) (s := 3) (p := rp) (r := rr) (ok := true) (by omega) (by rw [h]; rfl) (by rw [h]; rfl)
  have c2 := op_right_nil a n 0 (f := true) (by omega) (by rw [h]; simp [rightOf, word] <;> omega)
  have c3 := op_right_nil a 64 n (f := false) (by omega) (by rw [h]; simp [rightOf] <;> omega)
  clear h
  have hB := Below.refl w.heap.size w
  go_enter Tryd.func7, Tryd.ntmps7
  go_wp2_with (first
    | (go_at_call 8; (with_reducible refine (head_op _ hLaid).mono ?_); rintro e w0 ⟨rfl, hb⟩; replace hB := bt hB hb; clear hb)
    | (go_at_call 9; (with_reducible refine (c1 _ ?_).mono ?_); (first | (with_reducible exact hLaid.below hB) | (with_reducible exact (hLaid.below hB).alloc _) | (with_reducible exact ((hLaid.below hB).alloc _).alloc _)); rintro e w1 ⟨rfl, hb⟩; replace hB := bt hB hb; clear hb)
    | (go_at_call 15; (with_reducible refine (c3 _ ?_).mono ?_); (first | (with_reducible exact hLaid.below hB) | (with_reducible exact (hLaid.below hB).alloc _) | (with_reducible exact ((hLaid.below hB).alloc _).alloc _)); rintro e w2 ⟨rfl, hb⟩; have hI := (At4.new _ _ _ _ _ _).below hb; have ⟨_, r0, r1, r2, r3⟩ := hI; replace hB := bta hB hb; clear hb)
    | (go_at_call 15; (with_reducible refine (c2 _ ?_).mono ?_); (first | (with_reducible exact hLaid.below hB) | (with_reducible exact (hLaid.below hB).alloc _) | (with_reducible exact ((hLaid.below hB).alloc _).alloc _)); rintro e w3 ⟨rfl, hb⟩; have ⟨_, q0, q1, q2, q3⟩ := hI.below hb; replace hB := bt hB hb; clear hb))
  all_goals go_ret
  all_goals exact ⟨by first | rfl | exact ret_true (by simp <;> omega), hB⟩

set_option maxRecDepth 100000 in
set_option maxHeartbeats 4000000 in
theorem ranges_4_neg (a n : Int) (ha0 : 0 ≤ a) (ha1 : a ≤ 255) (h0 : -9223372036854775808 ≤ n) (h1 : n ≤ 9223372036854775807) (rc : Int) (rn rp rr : ByteArray) (h : byCode a = some ⟨rc, rn, 4, rp, rr⟩) (hn : n < 0) (w : World) (hLaid : Laid w) :
    Calls Tryd.prog 7 #[.int .u8 a, .int .i64 n] w fun e w' => e = .returned (.bool true) ∧ Below w.heap.size w w' := by
  have c1 := op_of_is a (n := rn) (s := 4) (p := rp) (r := rr) (ok := true) (by omega) (by rw [h]; rfl) (by rw [h]; rfl)
  have c2 := op_right_nil a n 0 (f := false) (by omega) (by rw [h]; simp [rightOf, word] <;> omega)
  have c3 := op_right_nil a 64 n (f := false) (by omega) (by rw [h]; simp [rightOf] <;> omega)
  clear h
  have hB := Below.refl w.heap.size w
  go_enter Tryd.func7, Tryd.ntmps7
  go_wp2_with (first
    | (go_at_call 8; (with_reducible refine (head_op _ hLaid).mono ?_); rintro e w0 ⟨rfl, hb⟩; replace hB := bt hB hb; clear hb)
    | (go_at_call 9; (with_reducible refine (c1 _ ?_).mono ?_); (first | (with_reducible exact hLaid.below hB) | (with_reducible exact (hLaid.below hB).alloc _) | (with_reducible exact ((hLaid.below hB).alloc _).alloc _)); rintro e w1 ⟨rfl, hb⟩; replace hB := bt hB hb; clear hb)
    | (go_at_call 15; (with_reducible refine (c3 _ ?_).mono ?_); (first | (with_reducible exact hLaid.below hB) | (with_reducible exact (hLaid.below hB).alloc _) | (with_reducible exact ((hLaid.below hB).alloc _).alloc _)); rintro e w2 ⟨rfl, hb⟩; have hI := (At4.new _ _ _ _ _ _).below hb; have ⟨_, r0, r1, r2, r3⟩ := hI; replace hB := bta hB hb; clear hb)
    | (go_at_call 15; (with_reducible refine (c2 _ ?_).mono ?_); (first | (with_reducible exact hLaid.below hB) | (with_reducible exact (hLaid.below hB).alloc _) | (with_reducible exact ((hLaid.below hB).alloc _).alloc _)); rintro e w3 ⟨rfl, hb⟩; have ⟨_, q0, q1, q2, q3⟩ := hI.below hb; replace hB := bt hB hb; clear hb))
  all_goals go_ret
  all_goals exact ⟨by first | rfl | exact ret_true (by simp <;> omega), hB⟩

set_option maxRecDepth 100000 in
set_option maxHeartbeats 4000000 in
theorem ranges_4_big (a n : Int) (ha0 : 0 ≤ a) (ha1 : a ≤ 255) (h0 : -9223372036854775808 ≤ n) (h1 : n ≤ 9223372036854775807) (rc : Int) (rn rp rr : ByteArray) (h : byCode a = some ⟨rc, rn, 4, rp, rr⟩) (hn : 4294967296 ≤ n) (w : World) (hLaid : Laid w) :
    Calls Tryd.prog 7 #[.int .u8 a, .int .i64 n] w fun e w' => e = .returned (.bool true) ∧ Below w.heap.size w w' := by
  have c1 := op_of_is a (n := rn) (s := 4) (p := rp) (r := rr) (ok := true) (by omega) (by rw [h]; rfl) (by rw [h]; rfl)
  have c2 := op_right_nil a n 0 (f := false) (by omega) (by rw [h]; simp [rightOf, word] <;> omega)
  have c3 := op_right_nil a 64 n (f := false) (by omega) (by rw [h]; simp [rightOf] <;> omega)
  clear h
  have hB := Below.refl w.heap.size w
  go_enter Tryd.func7, Tryd.ntmps7
  go_wp2_with (first
    | (go_at_call 8; (with_reducible refine (head_op _ hLaid).mono ?_); rintro e w0 ⟨rfl, hb⟩; replace hB := bt hB hb; clear hb)
    | (go_at_call 9; (with_reducible refine (c1 _ ?_).mono ?_); (first | (with_reducible exact hLaid.below hB) | (with_reducible exact (hLaid.below hB).alloc _) | (with_reducible exact ((hLaid.below hB).alloc _).alloc _)); rintro e w1 ⟨rfl, hb⟩; replace hB := bt hB hb; clear hb)
    | (go_at_call 15; (with_reducible refine (c3 _ ?_).mono ?_); (first | (with_reducible exact hLaid.below hB) | (with_reducible exact (hLaid.below hB).alloc _) | (with_reducible exact ((hLaid.below hB).alloc _).alloc _)); rintro e w2 ⟨rfl, hb⟩; have hI := (At4.new _ _ _ _ _ _).below hb; have ⟨_, r0, r1, r2, r3⟩ := hI; replace hB := bta hB hb; clear hb)
    | (go_at_call 15; (with_reducible refine (c2 _ ?_).mono ?_); (first | (with_reducible exact hLaid.below hB) | (with_reducible exact (hLaid.below hB).alloc _) | (with_reducible exact ((hLaid.below hB).alloc _).alloc _)); rintro e w3 ⟨rfl, hb⟩; have ⟨_, q0, q1, q2, q3⟩ := hI.below hb; replace hB := bt hB hb; clear hb))
  all_goals go_ret
  all_goals exact ⟨by first | rfl | exact ret_true (by simp <;> omega), hB⟩

set_option maxRecDepth 100000 in
set_option maxHeartbeats 4000000 in
theorem ranges_4_zero (a n : Int) (ha0 : 0 ≤ a) (ha1 : a ≤ 255) (h0 : -9223372036854775808 ≤ n) (h1 : n ≤ 9223372036854775807) (rc : Int) (rn rp rr : ByteArray) (h : byCode a = some ⟨rc, rn, 4, rp, rr⟩) (hn : n = 0) (w : World) (hLaid : Laid w) :
    Calls Tryd.prog 7 #[.int .u8 a, .int .i64 n] w fun e w' => e = .returned (.bool true) ∧ Below w.heap.size w w' := by
  subst hn
  have c1 := op_of_is a (n := rn) (s := 4) (p := rp) (r := rr) (ok := true) (by omega) (by rw [h]; rfl) (by rw [h]; rfl)
  have c2 := op_right_nil a 0 0 (f := true) (by omega) (by rw [h]; simp [rightOf, word] <;> omega)
  have c3 := op_right_nil a 64 0 (by omega) rfl
  clear h
  generalize rightOf (byCode a) a 64 0 [] = x2 at c3
  have hB := Below.refl w.heap.size w
  go_enter Tryd.func7, Tryd.ntmps7
  go_wp2_with (first
    | (go_at_call 8; (with_reducible refine (head_op _ hLaid).mono ?_); rintro e w0 ⟨rfl, hb⟩; replace hB := bt hB hb; clear hb)
    | (go_at_call 9; (with_reducible refine (c1 _ ?_).mono ?_); (first | (with_reducible exact hLaid.below hB) | (with_reducible exact (hLaid.below hB).alloc _) | (with_reducible exact ((hLaid.below hB).alloc _).alloc _)); rintro e w1 ⟨rfl, hb⟩; replace hB := bt hB hb; clear hb)
    | (go_at_call 15; (with_reducible refine (c3 _ ?_).mono ?_); (first | (with_reducible exact hLaid.below hB) | (with_reducible exact (hLaid.below hB).alloc _) | (with_reducible exact ((hLaid.below hB).alloc _).alloc _)); rintro e w2 ⟨rfl, hb⟩; have hI := (At4.new _ _ _ _ _ _).below hb; have ⟨_, r0, r1, r2, r3⟩ := hI; replace hB := bta hB hb; clear hb)
    | (go_at_call 15; (with_reducible refine (c2 _ ?_).mono ?_); (first | (with_reducible exact hLaid.below hB) | (with_reducible exact (hLaid.below hB).alloc _) | (with_reducible exact ((hLaid.below hB).alloc _).alloc _)); rintro e w3 ⟨rfl, hb⟩; have ⟨_, q0, q1, q2, q3⟩ := hI.below hb; replace hB := bt hB hb; clear hb))
  all_goals go_ret
  all_goals exact ⟨by first | rfl | exact ret_true (by simp <;> omega), hB⟩

set_option maxRecDepth 100000 in
set_option maxHeartbeats 4000000 in
theorem ranges_4_mid (a n : Int) (ha0 : 0 ≤ a) (ha1 : a ≤ 255) (h0 : -9223372036854775808 ≤ n) (h1 : n ≤ 9223372036854775807) (rc : Int) (rn rp rr : ByteArray) (h : byCode a = some ⟨rc, rn, 4, rp, rr⟩) (hn : 0 < n ∧ n < 4294967296) (w : World) (hLaid : Laid w) :
    Calls Tryd.prog 7 #[.int .u8 a, .int .i64 n] w fun e w' => e = .returned (.bool true) ∧ Below w.heap.size w w' := by
  obtain ⟨hn1, hn2⟩ := hn
  have c1 := op_of_is a (n := rn) (s := 4) (p := rp) (r := rr) (ok := true) (by omega) (by rw [h]; rfl) (by rw [h]; rfl)
  have c2 := op_right_nil a n 0 (f := true) (by omega) (by rw [h]; simp [rightOf, word] <;> omega)
  have c3 := op_right_nil a 64 n (f := false) (by omega) (by rw [h]; simp [rightOf] <;> omega)
  clear h
  have hB := Below.refl w.heap.size w
  go_enter Tryd.func7, Tryd.ntmps7
  go_wp2_with (first
    | (go_at_call 8; (with_reducible refine (head_op _ hLaid).mono ?_); rintro e w0 ⟨rfl, hb⟩; replace hB := bt hB hb; clear hb)
    | (go_at_call 9; (with_reducible refine (c1 _ ?_).mono ?_); (first | (with_reducible exact hLaid.below hB) | (with_reducible exact (hLaid.below hB).alloc _) | (with_reducible exact ((hLaid.below hB).alloc _).alloc _)); rintro e w1 ⟨rfl, hb⟩; replace hB := bt hB hb; clear hb)
    | (go_at_call 15; (with_reducible refine (c3 _ ?_).mono ?_); (first | (with_reducible exact hLaid.below hB) | (with_reducible exact (hLaid.below hB).alloc _) | (with_reducible exact ((hLaid.below hB).alloc _).alloc _)); rintro e w2 ⟨rfl, hb⟩; have hI := (At4.new _ _ _ _ _ _).below hb; have ⟨_, r0, r1, r2, r3⟩ := hI; replace hB := bta hB hb; clear hb)
    | (go_at_call 15; (with_reducible refine (c2 _ ?_).mono ?_); (first | (with_reducible exact hLaid.below hB) | (with_reducible exact (hLaid.below hB).alloc _) | (with_reducible exact ((hLaid.below hB).alloc _).alloc _)); rintro e w3 ⟨rfl, hb⟩; have ⟨_, q0, q1, q2, q3⟩ := hI.below hb; replace hB := bt hB hb; clear hb))
  all_goals go_ret
  all_goals exact ⟨by first | rfl | exact ret_true (by simp <;> omega), hB⟩

set_option maxRecDepth 100000 in
set_option maxHeartbeats 4000000 in
theorem ranges_5_neg (a n : Int) (ha0 : 0 ≤ a) (ha1 : a ≤ 255) (h0 : -9223372036854775808 ≤ n) (h1 : n ≤ 9223372036854775807) (rc : Int) (rn rp rr : ByteArray) (h : byCode a = some ⟨rc, rn, 5, rp, rr⟩) (hn : n < 0) (w : World) (hLaid : Laid w) :
    Calls Tryd.prog 7 #[.int .u8 a, .int .i64 n] w fun e w' => e = .returned (.bool true) ∧ Below w.heap.size w w' := by
  have c1 := op_of_is a (n := rn) (s := 5) (p := rp) (r := rr) (ok := true) (by omega) (by rw [h]; rfl) (by rw [h]; rfl)
  have c2 := op_right_nil a n 0 (f := false) (by omega) (by rw [h]; simp [rightOf, word] <;> omega)
  have c3 := op_right_nil a 64 n (f := false) (by omega) (by rw [h]; simp [rightOf, word] <;> omega)
  clear h
  have hB := Below.refl w.heap.size w
  go_enter Tryd.func7, Tryd.ntmps7
  go_wp2_with (first
    | (go_at_call 8; (with_reducible refine (head_op _ hLaid).mono ?_); rintro e w0 ⟨rfl, hb⟩; replace hB := bt hB hb; clear hb)
    | (go_at_call 9; (with_reducible refine (c1 _ ?_).mono ?_); (first | (with_reducible exact hLaid.below hB) | (with_reducible exact (hLaid.below hB).alloc _) | (with_reducible exact ((hLaid.below hB).alloc _).alloc _)); rintro e w1 ⟨rfl, hb⟩; replace hB := bt hB hb; clear hb)
    | (go_at_call 15; (with_reducible refine (c3 _ ?_).mono ?_); (first | (with_reducible exact hLaid.below hB) | (with_reducible exact (hLaid.below hB).alloc _) | (with_reducible exact ((hLaid.below hB).alloc _).alloc _)); rintro e w2 ⟨rfl, hb⟩; have hI := (At4.new _ _ _ _ _ _).below hb; have ⟨_, r0, r1, r2, r3⟩ := hI; replace hB := bta hB hb; clear hb)
    | (go_at_call 15; (with_reducible refine (c2 _ ?_).mono ?_); (first | (with_reducible exact hLaid.below hB) | (with_reducible exact (hLaid.below hB).alloc _) | (with_reducible exact ((hLaid.below hB).alloc _).alloc _)); rintro e w3 ⟨rfl, hb⟩; have ⟨_, q0, q1, q2, q3⟩ := hI.below hb; replace hB := bt hB hb; clear hb))
  all_goals go_ret
  all_goals exact ⟨by first | rfl | exact ret_true (by simp <;> omega), hB⟩

set_option maxRecDepth 100000 in
set_option maxHeartbeats 4000000 in
theorem ranges_5_big (a n : Int) (ha0 : 0 ≤ a) (ha1 : a ≤ 255) (h0 : -9223372036854775808 ≤ n) (h1 : n ≤ 9223372036854775807) (rc : Int) (rn rp rr : ByteArray) (h : byCode a = some ⟨rc, rn, 5, rp, rr⟩) (hn : 4294967296 ≤ n) (w : World) (hLaid : Laid w) :
    Calls Tryd.prog 7 #[.int .u8 a, .int .i64 n] w fun e w' => e = .returned (.bool true) ∧ Below w.heap.size w w' := by
  have c1 := op_of_is a (n := rn) (s := 5) (p := rp) (r := rr) (ok := true) (by omega) (by rw [h]; rfl) (by rw [h]; rfl)
  have c2 := op_right_nil a n 0 (f := false) (by omega) (by rw [h]; simp [rightOf, word] <;> omega)
  have c3 := op_right_nil a 64 n (f := false) (by omega) (by rw [h]; simp [rightOf, word] <;> omega)
  clear h
  have hB := Below.refl w.heap.size w
  go_enter Tryd.func7, Tryd.ntmps7
  go_wp2_with (first
    | (go_at_call 8; (with_reducible refine (head_op _ hLaid).mono ?_); rintro e w0 ⟨rfl, hb⟩; replace hB := bt hB hb; clear hb)
    | (go_at_call 9; (with_reducible refine (c1 _ ?_).mono ?_); (first | (with_reducible exact hLaid.below hB) | (with_reducible exact (hLaid.below hB).alloc _) | (with_reducible exact ((hLaid.below hB).alloc _).alloc _)); rintro e w1 ⟨rfl, hb⟩; replace hB := bt hB hb; clear hb)
    | (go_at_call 15; (with_reducible refine (c3 _ ?_).mono ?_); (first | (with_reducible exact hLaid.below hB) | (with_reducible exact (hLaid.below hB).alloc _) | (with_reducible exact ((hLaid.below hB).alloc _).alloc _)); rintro e w2 ⟨rfl, hb⟩; have hI := (At4.new _ _ _ _ _ _).below hb; have ⟨_, r0, r1, r2, r3⟩ := hI; replace hB := bta hB hb; clear hb)
    | (go_at_call 15; (with_reducible refine (c2 _ ?_).mono ?_); (first | (with_reducible exact hLaid.below hB) | (with_reducible exact (hLaid.below hB).alloc _) | (with_reducible exact ((hLaid.below hB).alloc _).alloc _)); rintro e w3 ⟨rfl, hb⟩; have ⟨_, q0, q1, q2, q3⟩ := hI.below hb; replace hB := bt hB hb; clear hb))
  all_goals go_ret
  all_goals exact ⟨by first | rfl | exact ret_true (by simp <;> omega), hB⟩

set_option maxRecDepth 100000 in
set_option maxHeartbeats 4000000 in
theorem ranges_5_mid (a n : Int) (ha0 : 0 ≤ a) (ha1 : a ≤ 255) (h0 : -9223372036854775808 ≤ n) (h1 : n ≤ 9223372036854775807) (rc : Int) (rn rp rr : ByteArray) (h : byCode a = some ⟨rc, rn, 5, rp, rr⟩) (hn : 0 ≤ n ∧ n < 4294967296) (w : World) (hLaid : Laid w) :
    Calls Tryd.prog 7 #[.int .u8 a, .int .i64 n] w fun e w' => e = .returned (.bool true) ∧ Below w.heap.size w w' := by
  obtain ⟨hn1, hn2⟩ := hn
  have c1 := op_of_is a (n := rn) (s := 5) (p := rp) (r := rr) (ok := true) (by omega) (by rw [h]; rfl) (by rw [h]; rfl)
  have c2 := op_right_nil a n 0 (f := true) (by omega) (by rw [h]; simp [rightOf, word] <;> omega)
  have c3 := op_right_nil a 64 n (f := true) (by omega) (by rw [h]; simp [rightOf, word] <;> omega)
  clear h
  have hB := Below.refl w.heap.size w
  go_enter Tryd.func7, Tryd.ntmps7
  go_wp2_with (first
    | (go_at_call 8; (with_reducible refine (head_op _ hLaid).mono ?_); rintro e w0 ⟨rfl, hb⟩; replace hB := bt hB hb; clear hb)
    | (go_at_call 9; (with_reducible refine (c1 _ ?_).mono ?_); (first | (with_reducible exact hLaid.below hB) | (with_reducible exact (hLaid.below hB).alloc _) | (with_reducible exact ((hLaid.below hB).alloc _).alloc _)); rintro e w1 ⟨rfl, hb⟩; replace hB := bt hB hb; clear hb)
    | (go_at_call 15; (with_reducible refine (c3 _ ?_).mono ?_); (first | (with_reducible exact hLaid.below hB) | (with_reducible exact (hLaid.below hB).alloc _) | (with_reducible exact ((hLaid.below hB).alloc _).alloc _)); rintro e w2 ⟨rfl, hb⟩; have hI := (At4.new _ _ _ _ _ _).below hb; have ⟨_, r0, r1, r2, r3⟩ := hI; replace hB := bta hB hb; clear hb)
    | (go_at_call 15; (with_reducible refine (c2 _ ?_).mono ?_); (first | (with_reducible exact hLaid.below hB) | (with_reducible exact (hLaid.below hB).alloc _) | (with_reducible exact ((hLaid.below hB).alloc _).alloc _)); rintro e w3 ⟨rfl, hb⟩; have ⟨_, q0, q1, q2, q3⟩ := hI.below hb; replace hB := bt hB hb; clear hb))
  all_goals go_ret
  all_goals exact ⟨by first | rfl | exact ret_true (by simp <;> omega), hB⟩

set_option maxRecDepth 100000 in
set_option maxHeartbeats 4000000 in
theorem ranges_6_zero (a n : Int) (ha0 : 0 ≤ a) (ha1 : a ≤ 255) (h0 : -9223372036854775808 ≤ n) (h1 : n ≤ 9223372036854775807) (rc : Int) (rn rp rr : ByteArray) (h : byCode a = some ⟨rc, rn, 6, rp, rr⟩) (hn : n = 0) (w : World) (hLaid : Laid w) :
    Calls Tryd.prog 7 #[.int .u8 a, .int .i64 n] w fun e w' => e = .returned (.bool true) ∧ Below w.heap.size w w' := by
  subst hn
  have c1 := op_of_is a (n := rn) (s := 6) (p := rp) (r := rr) (ok := true) (by omega) (by rw [h]; rfl) (by rw [h]; rfl)
  have c2 := op_right_nil a 0 0 (f := true) (by omega) (by rw [h]; simp [rightOf] <;> omega)
  have c3 := op_right_nil a 64 0 (by omega) rfl
  clear h
  generalize rightOf (byCode a) a 64 0 [] = x2 at c3
  have hB := Below.refl w.heap.size w
  go_enter Tryd.func7, Tryd.ntmps7
  go_wp2_with (first
    | (go_at_call 8; (with_reducible refine (head_op _ hLaid).mono ?_); rintro e w0 ⟨rfl, hb⟩; replace hB := bt hB hb; clear hb)
    | (go_at_call 9; (with_reducible refine (c1 _ ?_).mono ?_); (first | (with_reducible exact hLaid.below hB) | (with_reducible exact (hLaid.below hB).alloc _) | (with_reducible exact ((hLaid.below hB).alloc _).alloc _)); rintro e w1 ⟨rfl, hb⟩; replace hB := bt hB hb; clear hb)
    | (go_at_call 15; (with_reducible refine (c3 _ ?_).mono ?_); (first | (with_reducible exact hLaid.below hB) | (with_reducible exact (hLaid.below hB).alloc _) | (with_reducible exact ((hLaid.below hB).alloc _).alloc _)); rintro e w2 ⟨rfl, hb⟩; have hI := (At4.new _ _ _ _ _ _).below hb; have ⟨_, r0, r1, r2, r3⟩ := hI; replace hB := bta hB hb; clear hb)
    | (go_at_call 15; (with_reducible refine (c2 _ ?_).mono ?_); (first | (with_reducible exact hLaid.below hB) | (with_reducible exact (hLaid.below hB).alloc _) | (with_reducible exact ((hLaid.below hB).alloc _).alloc _)); rintro e w3 ⟨rfl, hb⟩; have ⟨_, q0, q1, q2, q3⟩ := hI.below hb; replace hB := bt hB hb; clear hb))
  all_goals go_ret
  all_goals exact ⟨by first | rfl | exact ret_true (by simp <;> omega), hB⟩

set_option maxRecDepth 100000 in
set_option maxHeartbeats 4000000 in
theorem ranges_6_not (a n : Int) (ha0 : 0 ≤ a) (ha1 : a ≤ 255) (h0 : -9223372036854775808 ≤ n) (h1 : n ≤ 9223372036854775807) (rc : Int) (rn rp rr : ByteArray) (h : byCode a = some ⟨rc, rn, 6, rp, rr⟩) (hn : n ≠ 0) (w : World) (hLaid : Laid w) :
    Calls Tryd.prog 7 #[.int .u8 a, .int .i64 n] w fun e w' => e = .returned (.bool true) ∧ Below w.heap.size w w' := by
  have c1 := op_of_is a (n := rn) (s := 6) (p := rp) (r := rr) (ok := true) (by omega) (by rw [h]; rfl) (by rw [h]; rfl)
  have c2 := op_right_nil a n 0 (f := false) (by omega) (by rw [h]; simp [rightOf] <;> omega)
  have c3 := op_right_nil a 64 n (f := false) (by omega) (by rw [h]; simp [rightOf] <;> omega)
  clear h
  have hB := Below.refl w.heap.size w
  go_enter Tryd.func7, Tryd.ntmps7
  go_wp2_with (first
    | (go_at_call 8; (with_reducible refine (head_op _ hLaid).mono ?_); rintro e w0 ⟨rfl, hb⟩; replace hB := bt hB hb; clear hb)
    | (go_at_call 9; (with_reducible refine (c1 _ ?_).mono ?_); (first | (with_reducible exact hLaid.below hB) | (with_reducible exact (hLaid.below hB).alloc _) | (with_reducible exact ((hLaid.below hB).alloc _).alloc _)); rintro e w1 ⟨rfl, hb⟩; replace hB := bt hB hb; clear hb)
    | (go_at_call 15; (with_reducible refine (c3 _ ?_).mono ?_); (first | (with_reducible exact hLaid.below hB) | (with_reducible exact (hLaid.below hB).alloc _) | (with_reducible exact ((hLaid.below hB).alloc _).alloc _)); rintro e w2 ⟨rfl, hb⟩; have hI := (At4.new _ _ _ _ _ _).below hb; have ⟨_, r0, r1, r2, r3⟩ := hI; replace hB := bta hB hb; clear hb)
    | (go_at_call 15; (with_reducible refine (c2 _ ?_).mono ?_); (first | (with_reducible exact hLaid.below hB) | (with_reducible exact (hLaid.below hB).alloc _) | (with_reducible exact ((hLaid.below hB).alloc _).alloc _)); rintro e w3 ⟨rfl, hb⟩; have ⟨_, q0, q1, q2, q3⟩ := hI.below hb; replace hB := bt hB hb; clear hb))
  all_goals go_ret
  all_goals exact ⟨by first | rfl | exact ret_true (by simp <;> omega), hB⟩

set_option maxRecDepth 100000 in
set_option maxHeartbeats 4000000 in
theorem ranges_7_bz (a n : Int) (ha0 : 0 ≤ a) (ha1 : a ≤ 255) (h0 : -9223372036854775808 ≤ n) (h1 : n ≤ 9223372036854775807) (rc : Int) (rn rp rr : ByteArray) (h : byCode a = some ⟨rc, rn, 7, rp, rr⟩) (ha : a = 66) (hn : n = 0) (w : World) (hLaid : Laid w) :
    Calls Tryd.prog 7 #[.int .u8 a, .int .i64 n] w fun e w' => e = .returned (.bool true) ∧ Below w.heap.size w w' := by
  subst hn
  subst ha
  have c1 := op_of_is 66 (n := rn) (s := 7) (p := rp) (r := rr) (ok := true) (by omega) (by rw [h]; rfl) (by rw [h]; rfl)
  have c2 := op_right_nil 66 0 0 (f := true) (by omega) (by rw [h]; simp [rightOf] <;> omega)
  have c3 := op_right_nil 66 64 0 (by omega) rfl
  clear h
  generalize rightOf (byCode 66) 66 64 0 [] = x2 at c3
  have hB := Below.refl w.heap.size w
  go_enter Tryd.func7, Tryd.ntmps7
  go_wp2_with (first
    | (go_at_call 8; (with_reducible refine (head_op _ hLaid).mono ?_); rintro e w0 ⟨rfl, hb⟩; replace hB := bt hB hb; clear hb)
    | (go_at_call 9; (with_reducible refine (c1 _ ?_).mono ?_); (first | (with_reducible exact hLaid.below hB) | (with_reducible exact (hLaid.below hB).alloc _) | (with_reducible exact ((hLaid.below hB).alloc _).alloc _)); rintro e w1 ⟨rfl, hb⟩; replace hB := bt hB hb; clear hb)
    | (go_at_call 15; (with_reducible refine (c3 _ ?_).mono ?_); (first | (with_reducible exact hLaid.below hB) | (with_reducible exact (hLaid.below hB).alloc _) | (with_reducible exact ((hLaid.below hB).alloc _).alloc _)); rintro e w2 ⟨rfl, hb⟩; have hI := (At4.new _ _ _ _ _ _).below hb; have ⟨_, r0, r1, r2, r3⟩ := hI; replace hB := bta hB hb; clear hb)
    | (go_at_call 15; (with_reducible refine (c2 _ ?_).mono ?_); (first | (with_reducible exact hLaid.below hB) | (with_reducible exact (hLaid.below hB).alloc _) | (with_reducible exact ((hLaid.below hB).alloc _).alloc _)); rintro e w3 ⟨rfl, hb⟩; have ⟨_, q0, q1, q2, q3⟩ := hI.below hb; replace hB := bt hB hb; clear hb))
  all_goals go_ret
  all_goals exact ⟨by first | rfl | exact ret_true (by simp <;> omega), hB⟩

set_option maxRecDepth 100000 in
set_option maxHeartbeats 4000000 in
theorem ranges_7_bn (a n : Int) (ha0 : 0 ≤ a) (ha1 : a ≤ 255) (h0 : -9223372036854775808 ≤ n) (h1 : n ≤ 9223372036854775807) (rc : Int) (rn rp rr : ByteArray) (h : byCode a = some ⟨rc, rn, 7, rp, rr⟩) (ha : a = 66) (hn : n ≠ 0) (w : World) (hLaid : Laid w) :
    Calls Tryd.prog 7 #[.int .u8 a, .int .i64 n] w fun e w' => e = .returned (.bool true) ∧ Below w.heap.size w w' := by
  subst ha
  have c1 := op_of_is 66 (n := rn) (s := 7) (p := rp) (r := rr) (ok := true) (by omega) (by rw [h]; rfl) (by rw [h]; rfl)
  have c2 := op_right_nil 66 n 0 (f := true) (by omega) (by rw [h]; simp [rightOf] <;> omega)
  have c3 := op_right_nil 66 64 n (f := false) (by omega) (by rw [h]; simp [rightOf] <;> omega)
  clear h
  have hB := Below.refl w.heap.size w
  go_enter Tryd.func7, Tryd.ntmps7
  go_wp2_with (first
    | (go_at_call 8; (with_reducible refine (head_op _ hLaid).mono ?_); rintro e w0 ⟨rfl, hb⟩; replace hB := bt hB hb; clear hb)
    | (go_at_call 9; (with_reducible refine (c1 _ ?_).mono ?_); (first | (with_reducible exact hLaid.below hB) | (with_reducible exact (hLaid.below hB).alloc _) | (with_reducible exact ((hLaid.below hB).alloc _).alloc _)); rintro e w1 ⟨rfl, hb⟩; replace hB := bt hB hb; clear hb)
    | (go_at_call 15; (with_reducible refine (c3 _ ?_).mono ?_); (first | (with_reducible exact hLaid.below hB) | (with_reducible exact (hLaid.below hB).alloc _) | (with_reducible exact ((hLaid.below hB).alloc _).alloc _)); rintro e w2 ⟨rfl, hb⟩; have hI := (At4.new _ _ _ _ _ _).below hb; have ⟨_, r0, r1, r2, r3⟩ := hI; replace hB := bta hB hb; clear hb)
    | (go_at_call 15; (with_reducible refine (c2 _ ?_).mono ?_); (first | (with_reducible exact hLaid.below hB) | (with_reducible exact (hLaid.below hB).alloc _) | (with_reducible exact ((hLaid.below hB).alloc _).alloc _)); rintro e w3 ⟨rfl, hb⟩; have ⟨_, q0, q1, q2, q3⟩ := hI.below hb; replace hB := bt hB hb; clear hb))
  all_goals go_ret
  all_goals exact ⟨by first | rfl | exact ret_true (by simp <;> omega), hB⟩

set_option maxRecDepth 100000 in
set_option maxHeartbeats 4000000 in
theorem ranges_7_neg (a n : Int) (ha0 : 0 ≤ a) (ha1 : a ≤ 255) (h0 : -9223372036854775808 ≤ n) (h1 : n ≤ 9223372036854775807) (rc : Int) (rn rp rr : ByteArray) (h : byCode a = some ⟨rc, rn, 7, rp, rr⟩) (ha : a ≠ 66) (hn : n < -2147483648) (w : World) (hLaid : Laid w) :
    Calls Tryd.prog 7 #[.int .u8 a, .int .i64 n] w fun e w' => e = .returned (.bool true) ∧ Below w.heap.size w w' := by
  have c1 := op_of_is a (n := rn) (s := 7) (p := rp) (r := rr) (ok := true) (by omega) (by rw [h]; rfl) (by rw [h]; rfl)
  have c2 := op_right_nil a n 0 (f := false) (by omega) (by rw [h]; simp [rightOf] <;> omega)
  have c3 := op_right_nil a 64 n (f := false) (by omega) (by rw [h]; simp [rightOf] <;> omega)
  clear h
  have hB := Below.refl w.heap.size w
  go_enter Tryd.func7, Tryd.ntmps7
  go_wp2_with (first
    | (go_at_call 8; (with_reducible refine (head_op _ hLaid).mono ?_); rintro e w0 ⟨rfl, hb⟩; replace hB := bt hB hb; clear hb)
    | (go_at_call 9; (with_reducible refine (c1 _ ?_).mono ?_); (first | (with_reducible exact hLaid.below hB) | (with_reducible exact (hLaid.below hB).alloc _) | (with_reducible exact ((hLaid.below hB).alloc _).alloc _)); rintro e w1 ⟨rfl, hb⟩; replace hB := bt hB hb; clear hb)
    | (go_at_call 15; (with_reducible refine (c3 _ ?_).mono ?_); (first | (with_reducible exact hLaid.below hB) | (with_reducible exact (hLaid.below hB).alloc _) | (with_reducible exact ((hLaid.below hB).alloc _).alloc _)); rintro e w2 ⟨rfl, hb⟩; have hI := (At4.new _ _ _ _ _ _).below hb; have ⟨_, r0, r1, r2, r3⟩ := hI; replace hB := bta hB hb; clear hb)
    | (go_at_call 15; (with_reducible refine (c2 _ ?_).mono ?_); (first | (with_reducible exact hLaid.below hB) | (with_reducible exact (hLaid.below hB).alloc _) | (with_reducible exact ((hLaid.below hB).alloc _).alloc _)); rintro e w3 ⟨rfl, hb⟩; have ⟨_, q0, q1, q2, q3⟩ := hI.below hb; replace hB := bt hB hb; clear hb))
  all_goals go_ret
  all_goals exact ⟨by first | rfl | exact ret_true (by simp <;> omega), hB⟩

set_option maxRecDepth 100000 in
set_option maxHeartbeats 4000000 in
theorem ranges_7_big (a n : Int) (ha0 : 0 ≤ a) (ha1 : a ≤ 255) (h0 : -9223372036854775808 ≤ n) (h1 : n ≤ 9223372036854775807) (rc : Int) (rn rp rr : ByteArray) (h : byCode a = some ⟨rc, rn, 7, rp, rr⟩) (ha : a ≠ 66) (hn : 2147483648 ≤ n) (w : World) (hLaid : Laid w) :
    Calls Tryd.prog 7 #[.int .u8 a, .int .i64 n] w fun e w' => e = .returned (.bool true) ∧ Below w.heap.size w w' := by
  have c1 := op_of_is a (n := rn) (s := 7) (p := rp) (r := rr) (ok := true) (by omega) (by rw [h]; rfl) (by rw [h]; rfl)
  have c2 := op_right_nil a n 0 (f := false) (by omega) (by rw [h]; simp [rightOf] <;> omega)
  have c3 := op_right_nil a 64 n (f := false) (by omega) (by rw [h]; simp [rightOf] <;> omega)
  clear h
  have hB := Below.refl w.heap.size w
  go_enter Tryd.func7, Tryd.ntmps7
  go_wp2_with (first
    | (go_at_call 8; (with_reducible refine (head_op _ hLaid).mono ?_); rintro e w0 ⟨rfl, hb⟩; replace hB := bt hB hb; clear hb)
    | (go_at_call 9; (with_reducible refine (c1 _ ?_).mono ?_); (first | (with_reducible exact hLaid.below hB) | (with_reducible exact (hLaid.below hB).alloc _) | (with_reducible exact ((hLaid.below hB).alloc _).alloc _)); rintro e w1 ⟨rfl, hb⟩; replace hB := bt hB hb; clear hb)
    | (go_at_call 15; (with_reducible refine (c3 _ ?_).mono ?_); (first | (with_reducible exact hLaid.below hB) | (with_reducible exact (hLaid.below hB).alloc _) | (with_reducible exact ((hLaid.below hB).alloc _).alloc _)); rintro e w2 ⟨rfl, hb⟩; have hI := (At4.new _ _ _ _ _ _).below hb; have ⟨_, r0, r1, r2, r3⟩ := hI; replace hB := bta hB hb; clear hb)
    | (go_at_call 15; (with_reducible refine (c2 _ ?_).mono ?_); (first | (with_reducible exact hLaid.below hB) | (with_reducible exact (hLaid.below hB).alloc _) | (with_reducible exact ((hLaid.below hB).alloc _).alloc _)); rintro e w3 ⟨rfl, hb⟩; have ⟨_, q0, q1, q2, q3⟩ := hI.below hb; replace hB := bt hB hb; clear hb))
  all_goals go_ret
  all_goals exact ⟨by first | rfl | exact ret_true (by simp <;> omega), hB⟩

set_option maxRecDepth 100000 in
set_option maxHeartbeats 4000000 in
theorem ranges_7_zero (a n : Int) (ha0 : 0 ≤ a) (ha1 : a ≤ 255) (h0 : -9223372036854775808 ≤ n) (h1 : n ≤ 9223372036854775807) (rc : Int) (rn rp rr : ByteArray) (h : byCode a = some ⟨rc, rn, 7, rp, rr⟩) (ha : a ≠ 66) (hn : n = 0) (w : World) (hLaid : Laid w) :
    Calls Tryd.prog 7 #[.int .u8 a, .int .i64 n] w fun e w' => e = .returned (.bool true) ∧ Below w.heap.size w w' := by
  subst hn
  have c1 := op_of_is a (n := rn) (s := 7) (p := rp) (r := rr) (ok := true) (by omega) (by rw [h]; rfl) (by rw [h]; rfl)
  have c2 := op_right_nil a 0 0 (f := true) (by omega) (by rw [h]; simp [rightOf] <;> omega)
  have c3 := op_right_nil a 64 0 (by omega) rfl
  clear h
  generalize rightOf (byCode a) a 64 0 [] = x2 at c3
  have hB := Below.refl w.heap.size w
  go_enter Tryd.func7, Tryd.ntmps7
  go_wp2_with (first
    | (go_at_call 8; (with_reducible refine (head_op _ hLaid).mono ?_); rintro e w0 ⟨rfl, hb⟩; replace hB := bt hB hb; clear hb)
    | (go_at_call 9; (with_reducible refine (c1 _ ?_).mono ?_); (first | (with_reducible exact hLaid.below hB) | (with_reducible exact (hLaid.below hB).alloc _) | (with_reducible exact ((hLaid.below hB).alloc _).alloc _)); rintro e w1 ⟨rfl, hb⟩; replace hB := bt hB hb; clear hb)
    | (go_at_call 15; (with_reducible refine (c3 _ ?_).mono ?_); (first | (with_reducible exact hLaid.below hB) | (with_reducible exact (hLaid.below hB).alloc _) | (with_reducible exact ((hLaid.below hB).alloc _).alloc _)); rintro e w2 ⟨rfl, hb⟩; have hI := (At4.new _ _ _ _ _ _).below hb; have ⟨_, r0, r1, r2, r3⟩ := hI; replace hB := bta hB hb; clear hb)
    | (go_at_call 15; (with_reducible refine (c2 _ ?_).mono ?_); (first | (with_reducible exact hLaid.below hB) | (with_reducible exact (hLaid.below hB).alloc _) | (with_reducible exact ((hLaid.below hB).alloc _).alloc _)); rintro e w3 ⟨rfl, hb⟩; have ⟨_, q0, q1, q2, q3⟩ := hI.below hb; replace hB := bt hB hb; clear hb))
  all_goals go_ret
  all_goals exact ⟨by first | rfl | exact ret_true (by simp <;> omega), hB⟩

set_option maxRecDepth 100000 in
set_option maxHeartbeats 4000000 in
theorem ranges_7_mid (a n : Int) (ha0 : 0 ≤ a) (ha1 : a ≤ 255) (h0 : -9223372036854775808 ≤ n) (h1 : n ≤ 9223372036854775807) (rc : Int) (rn rp rr : ByteArray) (h : byCode a = some ⟨rc, rn, 7, rp, rr⟩) (ha : a ≠ 66) (hn : n ≠ 0 ∧ -2147483648 ≤ n ∧ n < 2147483648) (w : World) (hLaid : Laid w) :
    Calls Tryd.prog 7 #[.int .u8 a, .int .i64 n] w fun e w' => e = .returned (.bool true) ∧ Below w.heap.size w w' := by
  obtain ⟨hn0, hn1, hn2⟩ := hn
  have c1 := op_of_is a (n := rn) (s := 7) (p := rp) (r := rr) (ok := true) (by omega) (by rw [h]; rfl) (by rw [h]; rfl)
  have c2 := op_right_nil a n 0 (f := true) (by omega) (by rw [h]; simp [rightOf] <;> omega)
  have c3 := op_right_nil a 64 n (f := false) (by omega) (by rw [h]; simp [rightOf] <;> omega)
  clear h
  have hB := Below.refl w.heap.size w
  go_enter Tryd.func7, Tryd.ntmps7
  go_wp2_with (first
    | (go_at_call 8; (with_reducible refine (head_op _ hLaid).mono ?_); rintro e w0 ⟨rfl, hb⟩; replace hB := bt hB hb; clear hb)
    | (go_at_call 9; (with_reducible refine (c1 _ ?_).mono ?_); (first | (with_reducible exact hLaid.below hB) | (with_reducible exact (hLaid.below hB).alloc _) | (with_reducible exact ((hLaid.below hB).alloc _).alloc _)); rintro e w1 ⟨rfl, hb⟩; replace hB := bt hB hb; clear hb)
    | (go_at_call 15; (with_reducible refine (c3 _ ?_).mono ?_); (first | (with_reducible exact hLaid.below hB) | (with_reducible exact (hLaid.below hB).alloc _) | (with_reducible exact ((hLaid.below hB).alloc _).alloc _)); rintro e w2 ⟨rfl, hb⟩; have hI := (At4.new _ _ _ _ _ _).below hb; have ⟨_, r0, r1, r2, r3⟩ := hI; replace hB := bta hB hb; clear hb)
    | (go_at_call 15; (with_reducible refine (c2 _ ?_).mono ?_); (first | (with_reducible exact hLaid.below hB) | (with_reducible exact (hLaid.below hB).alloc _) | (with_reducible exact ((hLaid.below hB).alloc _).alloc _)); rintro e w3 ⟨rfl, hb⟩; have ⟨_, q0, q1, q2, q3⟩ := hI.below hb; replace hB := bt hB hb; clear hb))
  all_goals go_ret
  all_goals exact ⟨by first | rfl | exact ret_true (by simp <;> omega), hB⟩

theorem opRanges_walk (a n : Int) (ha0 : 0 ≤ a) (ha1 : a ≤ 255) (h0 : -9223372036854775808 ≤ n) (h1 : n ≤ 9223372036854775807) (w : World) (hLaid : Laid w) :
    Calls Tryd.prog 7 #[.int .u8 a, .int .i64 n] w fun e w' => e = .returned (.bool true) ∧ Below w.heap.size w w' := by
  cases h : byCode a with
  | none => exact ranges_none a n ha0 ha1 h0 h1 h w hLaid
  | some r =>
    have hbd := byCode_bd h
    obtain ⟨rc, rn, s, rp, rr⟩ := r
    simp only at hbd
    rcases (show s = 0 ∨ s = 1 ∨ s = 2 ∨ s = 3 ∨ s = 4 ∨ s = 5 ∨ s = 6 ∨ s = 7 by omega) with rfl | rfl | rfl | rfl | rfl | rfl | rfl | rfl
    · by_cases hn : n = 0
      · exact ranges_0_zero a n ha0 ha1 h0 h1 rc rn rp rr h hn w hLaid
      · exact ranges_0_not a n ha0 ha1 h0 h1 rc rn rp rr h hn w hLaid
    · by_cases hn1 : n = 64
      · exact ranges_1_a a n ha0 ha1 h0 h1 rc rn rp rr h hn1 w hLaid
      · by_cases hn2 : n = 126
        · exact ranges_1_b a n ha0 ha1 h0 h1 rc rn rp rr h hn2 w hLaid
        · by_cases hn3 : n = 127
          · exact ranges_1_c a n ha0 ha1 h0 h1 rc rn rp rr h hn3 w hLaid
          · by_cases hn0 : n = 0
            · exact ranges_1_zero a n ha0 ha1 h0 h1 rc rn rp rr h hn0 w hLaid
            · exact ranges_1_not a n ha0 ha1 h0 h1 rc rn rp rr h ⟨hn0, hn1, hn2, hn3⟩ w hLaid
    · by_cases hn : n < 0
      · exact ranges_2_neg a n ha0 ha1 h0 h1 rc rn rp rr h hn w hLaid
      · by_cases hn1 : n = 0
        · exact ranges_2_zero a n ha0 ha1 h0 h1 rc rn rp rr h hn1 w hLaid
        · by_cases hn2 : n < 4294967296
          · exact ranges_2_mid a n ha0 ha1 h0 h1 rc rn rp rr h ⟨by omega, hn2⟩ w hLaid
          · exact ranges_2_big a n ha0 ha1 h0 h1 rc rn rp rr h (by omega) w hLaid
    · by_cases hn : n < 0
      · exact ranges_3_neg a n ha0 ha1 h0 h1 rc rn rp rr h hn w hLaid
      · by_cases hn1 : n = 0
        · exact ranges_3_zero a n ha0 ha1 h0 h1 rc rn rp rr h hn1 w hLaid
        · by_cases hn2 : n < 4294967296
          · exact ranges_3_mid a n ha0 ha1 h0 h1 rc rn rp rr h ⟨by omega, hn2⟩ w hLaid
          · exact ranges_3_big a n ha0 ha1 h0 h1 rc rn rp rr h (by omega) w hLaid
    · by_cases hn : n < 0
      · exact ranges_4_neg a n ha0 ha1 h0 h1 rc rn rp rr h hn w hLaid
      · by_cases hn1 : n = 0
        · exact ranges_4_zero a n ha0 ha1 h0 h1 rc rn rp rr h hn1 w hLaid
        · by_cases hn2 : n < 4294967296
          · exact ranges_4_mid a n ha0 ha1 h0 h1 rc rn rp rr h ⟨by omega, hn2⟩ w hLaid
          · exact ranges_4_big a n ha0 ha1 h0 h1 rc rn rp rr h (by omega) w hLaid
    · by_cases hn : n < 0
      · exact ranges_5_neg a n ha0 ha1 h0 h1 rc rn rp rr h hn w hLaid
      · by_cases hn2 : n < 4294967296
        · exact ranges_5_mid a n ha0 ha1 h0 h1 rc rn rp rr h ⟨by omega, hn2⟩ w hLaid
        · exact ranges_5_big a n ha0 ha1 h0 h1 rc rn rp rr h (by omega) w hLaid
    · by_cases hn : n = 0
      · exact ranges_6_zero a n ha0 ha1 h0 h1 rc rn rp rr h hn w hLaid
      · exact ranges_6_not a n ha0 ha1 h0 h1 rc rn rp rr h hn w hLaid
    · by_cases ha : a = 66
      · by_cases hn : n = 0
        · exact ranges_7_bz a n ha0 ha1 h0 h1 rc rn rp rr h ha hn w hLaid
        · exact ranges_7_bn a n ha0 ha1 h0 h1 rc rn rp rr h ha hn w hLaid
      · by_cases hn : n = 0
        · exact ranges_7_zero a n ha0 ha1 h0 h1 rc rn rp rr h ha hn w hLaid
        · by_cases hn1 : n < -2147483648
          · exact ranges_7_neg a n ha0 ha1 h0 h1 rc rn rp rr h ha hn1 w hLaid
          · by_cases hn2 : n < 2147483648
            · exact ranges_7_mid a n ha0 ha1 h0 h1 rc rn rp rr h ha ⟨hn, by omega, hn2⟩ w hLaid
            · exact ranges_7_big a n ha0 ha1 h0 h1 rc rn rp rr h ha (by omega) w hLaid
end Go.Proofs.YtjpcobfaojjceaaDoor
