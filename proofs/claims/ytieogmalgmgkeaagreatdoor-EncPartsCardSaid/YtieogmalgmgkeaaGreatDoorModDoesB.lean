/-
  The program that the statements of chapter 4 put together: a step's other cases; walked. Contracts that the proofs call; no statement is proved here.
-/
import Derived.Test.YtieogmalgmgkeaaGreatDoorModOpens
namespace Go.Proofs.YtieogmalgmgkeaaGreatDoor
open Go.RowKit
variable {pr : List (Nat × Obj)}

theorem ok_two (op x y : Int) (hop : (byCode op).map Rw.shape = some 5) (hs : op ≠ 2 ∧ op ≠ 3 ∧ op ≠ 4 ∧ op ≠ 5 ∧ op ≠ 11) (hx : 0 ≤ x ∧ x < 4294967296) (hy : 0 ≤ y ∧ y < 4294967296) : okPI ⟨op, x, y⟩ = true := by
  unfold okPI rightOf
  cases h : byCode op with
  | none => rw [h] at hop; cases hop
  | some r =>
    rw [h] at hop
    have hr : r.shape = 5 := by simpa using hop
    have hi : inI64 x := by unfold inI64; omega
    simp [hr, word, hx, hy, hs, hi]

set_option maxRecDepth 100000 in
set_option maxHeartbeats 8000000 in
theorem does_6a (w0 : World) (s : PS) (kind op a b : Int) (hk : 0 ≤ kind ∧ kind < 256) (ho : 0 ≤ op ∧ op < 256) (hK : kind % 16 = 6) (hO : op % 4 = 0) (hg : Good s) (hw : s.weight ≤ 200000) (w : World) (h : Prog w0 pr s w) :
    Calls Tryz.prog 14 #[.pointer (some ⟨w0.heap.size, 0, none⟩), .agg #[.int .u8 kind, .int .i64 a, .int .i64 b, .int .u8 op]] w fun e w' => e = .returned (.tuple #[]) ∧ Done w0 pr s w' := by
  have hS := St.begin hg (step_box h (.cells #[.int .u8 kind, .int .i64 a, .int .i64 b, .int .u8 op] 62))
  clear h hg
  have hO2 : op % 2 = 0 := by omega
  have hK2 : kind % 2 = 0 := by omega
  go_enter Tryz.func14, Tryz.ntmps14
  go_wp2_with (first
    | (go_at_call 17; (first | refine (put_st (by first | assumption | decide +kernel) hw (by omega) hS).mono ?_ | refine (put_st (by first | assumption | decide +kernel) hw (by omega) (hS.alloc _)).mono ?_); rintro e wn ⟨rfl, hN⟩; clear hS; have hS := hN; clear hN; obtain ⟨z0, z1, z2, z3⟩ := hS.cells)
    | (go_at_call 33; (first | refine (push_st hw (by omega) hS).mono ?_ | refine (push_st hw (by omega) (hS.alloc _)).mono ?_); rintro e wn ⟨rfl, hN⟩; clear hS; have hS := hN; clear hN; obtain ⟨z0, z1, z2, z3⟩ := hS.cells)
    | (go_at_call 34; (first | refine (want_st (by omega) (by omega) hw (by omega) hS).mono ?_ | refine (want_st (by omega) (by omega) hw (by omega) (hS.alloc _)).mono ?_); rintro e wn ⟨rfl, hN⟩; clear hS; have hS := hN; clear hN; obtain ⟨z0, z1, z2, z3⟩ := hS.cells)
    | (go_at_call 35; (first | refine (take_st hw (by omega) hS).mono ?_ | refine (take_st hw (by omega) (hS.alloc _)).mono ?_); rintro e wn ⟨rfl, hN⟩; clear hS; have hS := hN; clear hN; obtain ⟨z0, z1, z2, z3⟩ := hS.cells))
  go_end0
  exact ⟨rfl, (St.done (by omega) hS).forget⟩

set_option maxRecDepth 100000 in
set_option maxHeartbeats 8000000 in
theorem does_7a (w0 : World) (s : PS) (kind op a b : Int) (hk : 0 ≤ kind ∧ kind < 256) (ho : 0 ≤ op ∧ op < 256) (hK : kind % 16 = 7) (hO : op % 4 = 0) (hg : Good s) (hw : s.weight ≤ 200000) (w : World) (h : Prog w0 pr s w) :
    Calls Tryz.prog 14 #[.pointer (some ⟨w0.heap.size, 0, none⟩), .agg #[.int .u8 kind, .int .i64 a, .int .i64 b, .int .u8 op]] w fun e w' => e = .returned (.tuple #[]) ∧ Done w0 pr s w' := by
  have hS := St.begin hg (step_box h (.cells #[.int .u8 kind, .int .i64 a, .int .i64 b, .int .u8 op] 62))
  clear h hg
  have hO2 : op % 2 = 0 := by omega
  have hK2 : kind % 2 = 1 := by omega
  go_enter Tryz.func14, Tryz.ntmps14
  go_wp2_with (first
    | (go_at_call 17; (first | refine (put_st (by first | assumption | decide +kernel) hw (by omega) hS).mono ?_ | refine (put_st (by first | assumption | decide +kernel) hw (by omega) (hS.alloc _)).mono ?_); rintro e wn ⟨rfl, hN⟩; clear hS; have hS := hN; clear hN; obtain ⟨z0, z1, z2, z3⟩ := hS.cells)
    | (go_at_call 33; (first | refine (push_st hw (by omega) hS).mono ?_ | refine (push_st hw (by omega) (hS.alloc _)).mono ?_); rintro e wn ⟨rfl, hN⟩; clear hS; have hS := hN; clear hN; obtain ⟨z0, z1, z2, z3⟩ := hS.cells)
    | (go_at_call 34; (first | refine (want_st (by omega) (by omega) hw (by omega) hS).mono ?_ | refine (want_st (by omega) (by omega) hw (by omega) (hS.alloc _)).mono ?_); rintro e wn ⟨rfl, hN⟩; clear hS; have hS := hN; clear hN; obtain ⟨z0, z1, z2, z3⟩ := hS.cells)
    | (go_at_call 35; (first | refine (take_st hw (by omega) hS).mono ?_ | refine (take_st hw (by omega) (hS.alloc _)).mono ?_); rintro e wn ⟨rfl, hN⟩; clear hS; have hS := hN; clear hN; obtain ⟨z0, z1, z2, z3⟩ := hS.cells))
  go_end0
  exact ⟨rfl, (St.done (by omega) hS).forget⟩

set_option maxRecDepth 100000 in
set_option maxHeartbeats 8000000 in
theorem does_6b (w0 : World) (s : PS) (kind op a b : Int) (hk : 0 ≤ kind ∧ kind < 256) (ho : 0 ≤ op ∧ op < 256) (hK : kind % 16 = 6) (hO : op % 4 = 1) (hg : Good s) (hw : s.weight ≤ 200000) (w : World) (h : Prog w0 pr s w) :
    Calls Tryz.prog 14 #[.pointer (some ⟨w0.heap.size, 0, none⟩), .agg #[.int .u8 kind, .int .i64 a, .int .i64 b, .int .u8 op]] w fun e w' => e = .returned (.tuple #[]) ∧ Done w0 pr s w' := by
  have hS := St.begin hg (step_box h (.cells #[.int .u8 kind, .int .i64 a, .int .i64 b, .int .u8 op] 62))
  clear h hg
  have hO2 : op % 2 = 1 := by omega
  have hK2 : kind % 2 = 0 := by omega
  go_enter Tryz.func14, Tryz.ntmps14
  go_wp2_with (first
    | (go_at_call 17; (first | refine (put_st (by first | assumption | decide +kernel) hw (by omega) hS).mono ?_ | refine (put_st (by first | assumption | decide +kernel) hw (by omega) (hS.alloc _)).mono ?_); rintro e wn ⟨rfl, hN⟩; clear hS; have hS := hN; clear hN; obtain ⟨z0, z1, z2, z3⟩ := hS.cells)
    | (go_at_call 33; (first | refine (push_st hw (by omega) hS).mono ?_ | refine (push_st hw (by omega) (hS.alloc _)).mono ?_); rintro e wn ⟨rfl, hN⟩; clear hS; have hS := hN; clear hN; obtain ⟨z0, z1, z2, z3⟩ := hS.cells)
    | (go_at_call 34; (first | refine (want_st (by omega) (by omega) hw (by omega) hS).mono ?_ | refine (want_st (by omega) (by omega) hw (by omega) (hS.alloc _)).mono ?_); rintro e wn ⟨rfl, hN⟩; clear hS; have hS := hN; clear hN; obtain ⟨z0, z1, z2, z3⟩ := hS.cells)
    | (go_at_call 35; (first | refine (take_st hw (by omega) hS).mono ?_ | refine (take_st hw (by omega) (hS.alloc _)).mono ?_); rintro e wn ⟨rfl, hN⟩; clear hS; have hS := hN; clear hN; obtain ⟨z0, z1, z2, z3⟩ := hS.cells))
  go_end0
  exact ⟨rfl, (St.done (by omega) hS).forget⟩

set_option maxRecDepth 100000 in
set_option maxHeartbeats 8000000 in
theorem does_7b (w0 : World) (s : PS) (kind op a b : Int) (hk : 0 ≤ kind ∧ kind < 256) (ho : 0 ≤ op ∧ op < 256) (hK : kind % 16 = 7) (hO : op % 4 = 1) (hg : Good s) (hw : s.weight ≤ 200000) (w : World) (h : Prog w0 pr s w) :
    Calls Tryz.prog 14 #[.pointer (some ⟨w0.heap.size, 0, none⟩), .agg #[.int .u8 kind, .int .i64 a, .int .i64 b, .int .u8 op]] w fun e w' => e = .returned (.tuple #[]) ∧ Done w0 pr s w' := by
  have hS := St.begin hg (step_box h (.cells #[.int .u8 kind, .int .i64 a, .int .i64 b, .int .u8 op] 62))
  clear h hg
  have hO2 : op % 2 = 1 := by omega
  have hK2 : kind % 2 = 1 := by omega
  go_enter Tryz.func14, Tryz.ntmps14
  go_wp2_with (first
    | (go_at_call 17; (first | refine (put_st (by first | assumption | decide +kernel) hw (by omega) hS).mono ?_ | refine (put_st (by first | assumption | decide +kernel) hw (by omega) (hS.alloc _)).mono ?_); rintro e wn ⟨rfl, hN⟩; clear hS; have hS := hN; clear hN; obtain ⟨z0, z1, z2, z3⟩ := hS.cells)
    | (go_at_call 33; (first | refine (push_st hw (by omega) hS).mono ?_ | refine (push_st hw (by omega) (hS.alloc _)).mono ?_); rintro e wn ⟨rfl, hN⟩; clear hS; have hS := hN; clear hN; obtain ⟨z0, z1, z2, z3⟩ := hS.cells)
    | (go_at_call 34; (first | refine (want_st (by omega) (by omega) hw (by omega) hS).mono ?_ | refine (want_st (by omega) (by omega) hw (by omega) (hS.alloc _)).mono ?_); rintro e wn ⟨rfl, hN⟩; clear hS; have hS := hN; clear hN; obtain ⟨z0, z1, z2, z3⟩ := hS.cells)
    | (go_at_call 35; (first | refine (take_st hw (by omega) hS).mono ?_ | refine (take_st hw (by omega) (hS.alloc _)).mono ?_); rintro e wn ⟨rfl, hN⟩; clear hS; have hS := hN; clear hN; obtain ⟨z0, z1, z2, z3⟩ := hS.cells))
  go_end0
  exact ⟨rfl, (St.done (by omega) hS).forget⟩

set_option maxRecDepth 100000 in
set_option maxHeartbeats 8000000 in
theorem does_6c (w0 : World) (s : PS) (kind op a b : Int) (hk : 0 ≤ kind ∧ kind < 256) (ho : 0 ≤ op ∧ op < 256) (hK : kind % 16 = 6) (hO : op % 4 = 2) (hg : Good s) (hw : s.weight ≤ 200000) (w : World) (h : Prog w0 pr s w) :
    Calls Tryz.prog 14 #[.pointer (some ⟨w0.heap.size, 0, none⟩), .agg #[.int .u8 kind, .int .i64 a, .int .i64 b, .int .u8 op]] w fun e w' => e = .returned (.tuple #[]) ∧ Done w0 pr s w' := by
  have hS := St.begin hg (step_box h (.cells #[.int .u8 kind, .int .i64 a, .int .i64 b, .int .u8 op] 62))
  clear h hg
  have hO2 : op % 2 = 0 := by omega
  have hK2 : kind % 2 = 0 := by omega
  go_enter Tryz.func14, Tryz.ntmps14
  go_wp2_with (first
    | (go_at_call 17; (first | refine (put_st (by first | assumption | decide +kernel) hw (by omega) hS).mono ?_ | refine (put_st (by first | assumption | decide +kernel) hw (by omega) (hS.alloc _)).mono ?_); rintro e wn ⟨rfl, hN⟩; clear hS; have hS := hN; clear hN; obtain ⟨z0, z1, z2, z3⟩ := hS.cells)
    | (go_at_call 33; (first | refine (push_st hw (by omega) hS).mono ?_ | refine (push_st hw (by omega) (hS.alloc _)).mono ?_); rintro e wn ⟨rfl, hN⟩; clear hS; have hS := hN; clear hN; obtain ⟨z0, z1, z2, z3⟩ := hS.cells)
    | (go_at_call 34; (first | refine (want_st (by omega) (by omega) hw (by omega) hS).mono ?_ | refine (want_st (by omega) (by omega) hw (by omega) (hS.alloc _)).mono ?_); rintro e wn ⟨rfl, hN⟩; clear hS; have hS := hN; clear hN; obtain ⟨z0, z1, z2, z3⟩ := hS.cells)
    | (go_at_call 35; (first | refine (take_st hw (by omega) hS).mono ?_ | refine (take_st hw (by omega) (hS.alloc _)).mono ?_); rintro e wn ⟨rfl, hN⟩; clear hS; have hS := hN; clear hN; obtain ⟨z0, z1, z2, z3⟩ := hS.cells))
  go_end0
  exact ⟨rfl, (St.done (by omega) hS).forget⟩

set_option maxRecDepth 100000 in
set_option maxHeartbeats 8000000 in
theorem does_7c (w0 : World) (s : PS) (kind op a b : Int) (hk : 0 ≤ kind ∧ kind < 256) (ho : 0 ≤ op ∧ op < 256) (hK : kind % 16 = 7) (hO : op % 4 = 2) (hg : Good s) (hw : s.weight ≤ 200000) (w : World) (h : Prog w0 pr s w) :
    Calls Tryz.prog 14 #[.pointer (some ⟨w0.heap.size, 0, none⟩), .agg #[.int .u8 kind, .int .i64 a, .int .i64 b, .int .u8 op]] w fun e w' => e = .returned (.tuple #[]) ∧ Done w0 pr s w' := by
  have hS := St.begin hg (step_box h (.cells #[.int .u8 kind, .int .i64 a, .int .i64 b, .int .u8 op] 62))
  clear h hg
  have hO2 : op % 2 = 0 := by omega
  have hK2 : kind % 2 = 1 := by omega
  go_enter Tryz.func14, Tryz.ntmps14
  go_wp2_with (first
    | (go_at_call 17; (first | refine (put_st (by first | assumption | decide +kernel) hw (by omega) hS).mono ?_ | refine (put_st (by first | assumption | decide +kernel) hw (by omega) (hS.alloc _)).mono ?_); rintro e wn ⟨rfl, hN⟩; clear hS; have hS := hN; clear hN; obtain ⟨z0, z1, z2, z3⟩ := hS.cells)
    | (go_at_call 33; (first | refine (push_st hw (by omega) hS).mono ?_ | refine (push_st hw (by omega) (hS.alloc _)).mono ?_); rintro e wn ⟨rfl, hN⟩; clear hS; have hS := hN; clear hN; obtain ⟨z0, z1, z2, z3⟩ := hS.cells)
    | (go_at_call 34; (first | refine (want_st (by omega) (by omega) hw (by omega) hS).mono ?_ | refine (want_st (by omega) (by omega) hw (by omega) (hS.alloc _)).mono ?_); rintro e wn ⟨rfl, hN⟩; clear hS; have hS := hN; clear hN; obtain ⟨z0, z1, z2, z3⟩ := hS.cells)
    | (go_at_call 35; (first | refine (take_st hw (by omega) hS).mono ?_ | refine (take_st hw (by omega) (hS.alloc _)).mono ?_); rintro e wn ⟨rfl, hN⟩; clear hS; have hS := hN; clear hN; obtain ⟨z0, z1, z2, z3⟩ := hS.cells))
  go_end0
  exact ⟨rfl, (St.done (by omega) hS).forget⟩

set_option maxRecDepth 100000 in
set_option maxHeartbeats 8000000 in
theorem does_6d (w0 : World) (s : PS) (kind op a b : Int) (hk : 0 ≤ kind ∧ kind < 256) (ho : 0 ≤ op ∧ op < 256) (hK : kind % 16 = 6) (hO : op % 4 = 3) (hg : Good s) (hw : s.weight ≤ 200000) (w : World) (h : Prog w0 pr s w) :
    Calls Tryz.prog 14 #[.pointer (some ⟨w0.heap.size, 0, none⟩), .agg #[.int .u8 kind, .int .i64 a, .int .i64 b, .int .u8 op]] w fun e w' => e = .returned (.tuple #[]) ∧ Done w0 pr s w' := by
  have hS := St.begin hg (step_box h (.cells #[.int .u8 kind, .int .i64 a, .int .i64 b, .int .u8 op] 62))
  clear h hg
  have hO2 : op % 2 = 1 := by omega
  have hK2 : kind % 2 = 0 := by omega
  go_enter Tryz.func14, Tryz.ntmps14
  go_wp2_with (first
    | (go_at_call 17; (first | refine (put_st (by first | assumption | decide +kernel) hw (by omega) hS).mono ?_ | refine (put_st (by first | assumption | decide +kernel) hw (by omega) (hS.alloc _)).mono ?_); rintro e wn ⟨rfl, hN⟩; clear hS; have hS := hN; clear hN; obtain ⟨z0, z1, z2, z3⟩ := hS.cells)
    | (go_at_call 33; (first | refine (push_st hw (by omega) hS).mono ?_ | refine (push_st hw (by omega) (hS.alloc _)).mono ?_); rintro e wn ⟨rfl, hN⟩; clear hS; have hS := hN; clear hN; obtain ⟨z0, z1, z2, z3⟩ := hS.cells)
    | (go_at_call 34; (first | refine (want_st (by omega) (by omega) hw (by omega) hS).mono ?_ | refine (want_st (by omega) (by omega) hw (by omega) (hS.alloc _)).mono ?_); rintro e wn ⟨rfl, hN⟩; clear hS; have hS := hN; clear hN; obtain ⟨z0, z1, z2, z3⟩ := hS.cells)
    | (go_at_call 35; (first | refine (take_st hw (by omega) hS).mono ?_ | refine (take_st hw (by omega) (hS.alloc _)).mono ?_); rintro e wn ⟨rfl, hN⟩; clear hS; have hS := hN; clear hN; obtain ⟨z0, z1, z2, z3⟩ := hS.cells))
  go_end0
  exact ⟨rfl, (St.done (by omega) hS).forget⟩

set_option maxRecDepth 100000 in
set_option maxHeartbeats 8000000 in
theorem does_7d (w0 : World) (s : PS) (kind op a b : Int) (hk : 0 ≤ kind ∧ kind < 256) (ho : 0 ≤ op ∧ op < 256) (hK : kind % 16 = 7) (hO : op % 4 = 3) (hg : Good s) (hw : s.weight ≤ 200000) (w : World) (h : Prog w0 pr s w) :
    Calls Tryz.prog 14 #[.pointer (some ⟨w0.heap.size, 0, none⟩), .agg #[.int .u8 kind, .int .i64 a, .int .i64 b, .int .u8 op]] w fun e w' => e = .returned (.tuple #[]) ∧ Done w0 pr s w' := by
  have hS := St.begin hg (step_box h (.cells #[.int .u8 kind, .int .i64 a, .int .i64 b, .int .u8 op] 62))
  clear h hg
  have hO2 : op % 2 = 1 := by omega
  have hK2 : kind % 2 = 1 := by omega
  go_enter Tryz.func14, Tryz.ntmps14
  go_wp2_with (first
    | (go_at_call 17; (first | refine (put_st (by first | assumption | decide +kernel) hw (by omega) hS).mono ?_ | refine (put_st (by first | assumption | decide +kernel) hw (by omega) (hS.alloc _)).mono ?_); rintro e wn ⟨rfl, hN⟩; clear hS; have hS := hN; clear hN; obtain ⟨z0, z1, z2, z3⟩ := hS.cells)
    | (go_at_call 33; (first | refine (push_st hw (by omega) hS).mono ?_ | refine (push_st hw (by omega) (hS.alloc _)).mono ?_); rintro e wn ⟨rfl, hN⟩; clear hS; have hS := hN; clear hN; obtain ⟨z0, z1, z2, z3⟩ := hS.cells)
    | (go_at_call 34; (first | refine (want_st (by omega) (by omega) hw (by omega) hS).mono ?_ | refine (want_st (by omega) (by omega) hw (by omega) (hS.alloc _)).mono ?_); rintro e wn ⟨rfl, hN⟩; clear hS; have hS := hN; clear hN; obtain ⟨z0, z1, z2, z3⟩ := hS.cells)
    | (go_at_call 35; (first | refine (take_st hw (by omega) hS).mono ?_ | refine (take_st hw (by omega) (hS.alloc _)).mono ?_); rintro e wn ⟨rfl, hN⟩; clear hS; have hS := hN; clear hN; obtain ⟨z0, z1, z2, z3⟩ := hS.cells))
  go_end0
  exact ⟨rfl, (St.done (by omega) hS).forget⟩

set_option maxRecDepth 100000 in
set_option maxHeartbeats 8000000 in
theorem does_8a (w0 : World) (s : PS) (kind op a b : Int) (hk : 0 ≤ kind ∧ kind < 256) (ho : 0 ≤ op ∧ op < 256) (hK : kind % 16 = 8) (hO : op % 2 = 0) (hg : Good s) (hw : s.weight ≤ 200000) (w : World) (h : Prog w0 pr s w) :
    Calls Tryz.prog 14 #[.pointer (some ⟨w0.heap.size, 0, none⟩), .agg #[.int .u8 kind, .int .i64 a, .int .i64 b, .int .u8 op]] w fun e w' => e = .returned (.tuple #[]) ∧ Done w0 pr s w' := by
  have hS := St.begin hg (step_box h (.cells #[.int .u8 kind, .int .i64 a, .int .i64 b, .int .u8 op] 62))
  clear h hg
  go_enter Tryz.func14, Tryz.ntmps14
  go_wp2_with (first
    | (go_at_call 17; (first | refine (put_st (by first | assumption | decide +kernel) hw (by omega) hS).mono ?_ | refine (put_st (by first | assumption | decide +kernel) hw (by omega) (hS.alloc _)).mono ?_); rintro e wn ⟨rfl, hN⟩; clear hS; have hS := hN; clear hN; obtain ⟨z0, z1, z2, z3⟩ := hS.cells)
    | (go_at_call 33; (first | refine (push_st hw (by omega) hS).mono ?_ | refine (push_st hw (by omega) (hS.alloc _)).mono ?_); rintro e wn ⟨rfl, hN⟩; clear hS; have hS := hN; clear hN; obtain ⟨z0, z1, z2, z3⟩ := hS.cells)
    | (go_at_call 34; (first | refine (want_st (by omega) (by omega) hw (by omega) hS).mono ?_ | refine (want_st (by omega) (by omega) hw (by omega) (hS.alloc _)).mono ?_); rintro e wn ⟨rfl, hN⟩; clear hS; have hS := hN; clear hN; obtain ⟨z0, z1, z2, z3⟩ := hS.cells)
    | (go_at_call 35; (first | refine (take_st hw (by omega) hS).mono ?_ | refine (take_st hw (by omega) (hS.alloc _)).mono ?_); rintro e wn ⟨rfl, hN⟩; clear hS; have hS := hN; clear hN; obtain ⟨z0, z1, z2, z3⟩ := hS.cells))
  go_end0
  exact ⟨rfl, (St.done (by omega) hS).forget⟩

set_option maxRecDepth 100000 in
set_option maxHeartbeats 8000000 in
theorem does_8b (w0 : World) (s : PS) (kind op a b : Int) (hk : 0 ≤ kind ∧ kind < 256) (ho : 0 ≤ op ∧ op < 256) (hK : kind % 16 = 8) (hO : op % 2 = 1) (hg : Good s) (hw : s.weight ≤ 200000) (w : World) (h : Prog w0 pr s w) :
    Calls Tryz.prog 14 #[.pointer (some ⟨w0.heap.size, 0, none⟩), .agg #[.int .u8 kind, .int .i64 a, .int .i64 b, .int .u8 op]] w fun e w' => e = .returned (.tuple #[]) ∧ Done w0 pr s w' := by
  have hS := St.begin hg (step_box h (.cells #[.int .u8 kind, .int .i64 a, .int .i64 b, .int .u8 op] 62))
  clear h hg
  go_enter Tryz.func14, Tryz.ntmps14
  go_wp2_with (first
    | (go_at_call 17; (first | refine (put_st (by first | assumption | decide +kernel) hw (by omega) hS).mono ?_ | refine (put_st (by first | assumption | decide +kernel) hw (by omega) (hS.alloc _)).mono ?_); rintro e wn ⟨rfl, hN⟩; clear hS; have hS := hN; clear hN; obtain ⟨z0, z1, z2, z3⟩ := hS.cells)
    | (go_at_call 33; (first | refine (push_st hw (by omega) hS).mono ?_ | refine (push_st hw (by omega) (hS.alloc _)).mono ?_); rintro e wn ⟨rfl, hN⟩; clear hS; have hS := hN; clear hN; obtain ⟨z0, z1, z2, z3⟩ := hS.cells)
    | (go_at_call 34; (first | refine (want_st (by omega) (by omega) hw (by omega) hS).mono ?_ | refine (want_st (by omega) (by omega) hw (by omega) (hS.alloc _)).mono ?_); rintro e wn ⟨rfl, hN⟩; clear hS; have hS := hN; clear hN; obtain ⟨z0, z1, z2, z3⟩ := hS.cells)
    | (go_at_call 35; (first | refine (take_st hw (by omega) hS).mono ?_ | refine (take_st hw (by omega) (hS.alloc _)).mono ?_); rintro e wn ⟨rfl, hN⟩; clear hS; have hS := hN; clear hN; obtain ⟨z0, z1, z2, z3⟩ := hS.cells))
  go_end0
  exact ⟨rfl, (St.done (by omega) hS).forget⟩

set_option maxRecDepth 100000 in
set_option maxHeartbeats 8000000 in
theorem does_15a (w0 : World) (s : PS) (kind op a b : Int) (hk : 0 ≤ kind ∧ kind < 256) (ho : 0 ≤ op ∧ op < 256) (hK : kind % 16 = 15) (hO : op % 3 = 0) (hg : Good s) (hw : s.weight ≤ 200000) (w : World) (h : Prog w0 pr s w) :
    Calls Tryz.prog 14 #[.pointer (some ⟨w0.heap.size, 0, none⟩), .agg #[.int .u8 kind, .int .i64 a, .int .i64 b, .int .u8 op]] w fun e w' => e = .returned (.tuple #[]) ∧ Done w0 pr s w' := by
  have hS := St.begin hg (step_box h (.cells #[.int .u8 kind, .int .i64 a, .int .i64 b, .int .u8 op] 62))
  clear h hg
  go_enter Tryz.func14, Tryz.ntmps14
  go_wp2_with (first
    | (go_at_call 17; (first | refine (put_st (by first | assumption | decide +kernel) hw (by omega) hS).mono ?_ | refine (put_st (by first | assumption | decide +kernel) hw (by omega) (hS.alloc _)).mono ?_); rintro e wn ⟨rfl, hN⟩; clear hS; have hS := hN; clear hN; obtain ⟨z0, z1, z2, z3⟩ := hS.cells)
    | (go_at_call 33; (first | refine (push_st hw (by omega) hS).mono ?_ | refine (push_st hw (by omega) (hS.alloc _)).mono ?_); rintro e wn ⟨rfl, hN⟩; clear hS; have hS := hN; clear hN; obtain ⟨z0, z1, z2, z3⟩ := hS.cells)
    | (go_at_call 34; (first | refine (want_st (by omega) (by omega) hw (by omega) hS).mono ?_ | refine (want_st (by omega) (by omega) hw (by omega) (hS.alloc _)).mono ?_); rintro e wn ⟨rfl, hN⟩; clear hS; have hS := hN; clear hN; obtain ⟨z0, z1, z2, z3⟩ := hS.cells)
    | (go_at_call 35; (first | refine (take_st hw (by omega) hS).mono ?_ | refine (take_st hw (by omega) (hS.alloc _)).mono ?_); rintro e wn ⟨rfl, hN⟩; clear hS; have hS := hN; clear hN; obtain ⟨z0, z1, z2, z3⟩ := hS.cells))
  go_end0
  exact ⟨rfl, (St.done (by omega) hS).forget⟩

set_option maxRecDepth 100000 in
set_option maxHeartbeats 8000000 in
theorem does_15b (w0 : World) (s : PS) (kind op a b : Int) (hk : 0 ≤ kind ∧ kind < 256) (ho : 0 ≤ op ∧ op < 256) (hK : kind % 16 = 15) (hO : op % 3 = 1) (hg : Good s) (hw : s.weight ≤ 200000) (w : World) (h : Prog w0 pr s w) :
    Calls Tryz.prog 14 #[.pointer (some ⟨w0.heap.size, 0, none⟩), .agg #[.int .u8 kind, .int .i64 a, .int .i64 b, .int .u8 op]] w fun e w' => e = .returned (.tuple #[]) ∧ Done w0 pr s w' := by
  have hS := St.begin hg (step_box h (.cells #[.int .u8 kind, .int .i64 a, .int .i64 b, .int .u8 op] 62))
  clear h hg
  go_enter Tryz.func14, Tryz.ntmps14
  go_wp2_with (first
    | (go_at_call 17; (first | refine (put_st (by first | assumption | decide +kernel) hw (by omega) hS).mono ?_ | refine (put_st (by first | assumption | decide +kernel) hw (by omega) (hS.alloc _)).mono ?_); rintro e wn ⟨rfl, hN⟩; clear hS; have hS := hN; clear hN; obtain ⟨z0, z1, z2, z3⟩ := hS.cells)
    | (go_at_call 33; (first | refine (push_st hw (by omega) hS).mono ?_ | refine (push_st hw (by omega) (hS.alloc _)).mono ?_); rintro e wn ⟨rfl, hN⟩; clear hS; have hS := hN; clear hN; obtain ⟨z0, z1, z2, z3⟩ := hS.cells)
    | (go_at_call 34; (first | refine (want_st (by omega) (by omega) hw (by omega) hS).mono ?_ | refine (want_st (by omega) (by omega) hw (by omega) (hS.alloc _)).mono ?_); rintro e wn ⟨rfl, hN⟩; clear hS; have hS := hN; clear hN; obtain ⟨z0, z1, z2, z3⟩ := hS.cells)
    | (go_at_call 35; (first | refine (take_st hw (by omega) hS).mono ?_ | refine (take_st hw (by omega) (hS.alloc _)).mono ?_); rintro e wn ⟨rfl, hN⟩; clear hS; have hS := hN; clear hN; obtain ⟨z0, z1, z2, z3⟩ := hS.cells))
  go_end0
  exact ⟨rfl, (St.done (by omega) hS).forget⟩

set_option maxRecDepth 100000 in
set_option maxHeartbeats 8000000 in
theorem does_15c (w0 : World) (s : PS) (kind op a b : Int) (hk : 0 ≤ kind ∧ kind < 256) (ho : 0 ≤ op ∧ op < 256) (hK : kind % 16 = 15) (hO : op % 3 = 2) (hg : Good s) (hw : s.weight ≤ 200000) (w : World) (h : Prog w0 pr s w) :
    Calls Tryz.prog 14 #[.pointer (some ⟨w0.heap.size, 0, none⟩), .agg #[.int .u8 kind, .int .i64 a, .int .i64 b, .int .u8 op]] w fun e w' => e = .returned (.tuple #[]) ∧ Done w0 pr s w' := by
  have hS := St.begin hg (step_box h (.cells #[.int .u8 kind, .int .i64 a, .int .i64 b, .int .u8 op] 62))
  clear h hg
  go_enter Tryz.func14, Tryz.ntmps14
  go_wp2_with (first
    | (go_at_call 17; (first | refine (put_st (by first | assumption | decide +kernel) hw (by omega) hS).mono ?_ | refine (put_st (by first | assumption | decide +kernel) hw (by omega) (hS.alloc _)).mono ?_); rintro e wn ⟨rfl, hN⟩; clear hS; have hS := hN; clear hN; obtain ⟨z0, z1, z2, z3⟩ := hS.cells)
    | (go_at_call 33; (first | refine (push_st hw (by omega) hS).mono ?_ | refine (push_st hw (by omega) (hS.alloc _)).mono ?_); rintro e wn ⟨rfl, hN⟩; clear hS; have hS := hN; clear hN; obtain ⟨z0, z1, z2, z3⟩ := hS.cells)
    | (go_at_call 34; (first | refine (want_st (by omega) (by omega) hw (by omega) hS).mono ?_ | refine (want_st (by omega) (by omega) hw (by omega) (hS.alloc _)).mono ?_); rintro e wn ⟨rfl, hN⟩; clear hS; have hS := hN; clear hN; obtain ⟨z0, z1, z2, z3⟩ := hS.cells)
    | (go_at_call 35; (first | refine (take_st hw (by omega) hS).mono ?_ | refine (take_st hw (by omega) (hS.alloc _)).mono ?_); rintro e wn ⟨rfl, hN⟩; clear hS; have hS := hN; clear hN; obtain ⟨z0, z1, z2, z3⟩ := hS.cells))
  go_end0
  exact ⟨rfl, (St.done (by omega) hS).forget⟩

end Go.Proofs.YtieogmalgmgkeaaGreatDoor

namespace Go.Proofs.YtieogmalgmgkeaaGreatDoor
open Go.RowKit
variable {pr : List (Nat × Obj)}

theorem and17 (n : Int) : bits .and .i64 n 131071 = n % 131072 := by
  have h1 : (BitVec.ofInt 64 131071).toNat = 2 ^ 17 - 1 := by decide
  have key : (BitVec.ofInt 64 n &&& BitVec.ofInt 64 131071).toNat = (n % ((2 ^ 64 : Nat) : Int)).toNat % 2 ^ 17 := by
    rw [BitVec.toNat_and, BitVec.toNat_ofInt, h1, Nat.and_two_pow_sub_one_eq_mod]
  show IntKind.i64.wrap ((BitVec.ofInt 64 n &&& BitVec.ofInt 64 131071).toNat : Nat) = n % 131072
  rw [key, IntKind.wrap_i64]
  omega
theorem low17 (b : Int) : 0 ≤ bits .and .i64 b 131071 ∧ bits .and .i64 b 131071 < 131072 := by rw [and17]; omega

set_option maxRecDepth 100000 in
set_option maxHeartbeats 8000000 in
theorem does_9a (w0 : World) (s : PS) (kind op a b : Int) (hk : 0 ≤ kind ∧ kind < 256) (ho : 0 ≤ op ∧ op < 256) (hK : kind % 16 = 9) (hO : op % 3 = 0) (hg : Good s) (hw : s.weight ≤ 200000) (w : World) (h : Prog w0 pr s w) :
    Calls Tryz.prog 14 #[.pointer (some ⟨w0.heap.size, 0, none⟩), .agg #[.int .u8 kind, .int .i64 a, .int .i64 b, .int .u8 op]] w fun e w' => e = .returned (.tuple #[]) ∧ Done w0 pr s w' := by
  have hS := St.begin hg (step_box h (.cells #[.int .u8 kind, .int .i64 a, .int .i64 b, .int .u8 op] 62))
  clear h hg
  have ok1 := ok_two 40 0 (bits .and .i64 b 131071) (by kernel_rfl) (by omega) (by omega) (by have := low17 b; omega)
  go_enter Tryz.func14, Tryz.ntmps14
  go_wp2_with (first
    | (go_at_call 17; (first | refine (put_st (by first | assumption | decide +kernel) hw (by omega) hS).mono ?_ | refine (put_st (by first | assumption | decide +kernel) hw (by omega) (hS.alloc _)).mono ?_); rintro e wn ⟨rfl, hN⟩; clear hS; have hS := hN; clear hN; obtain ⟨z0, z1, z2, z3⟩ := hS.cells)
    | (go_at_call 33; (first | refine (push_st hw (by omega) hS).mono ?_ | refine (push_st hw (by omega) (hS.alloc _)).mono ?_); rintro e wn ⟨rfl, hN⟩; clear hS; have hS := hN; clear hN; obtain ⟨z0, z1, z2, z3⟩ := hS.cells)
    | (go_at_call 34; (first | refine (want_st (by omega) (by omega) hw (by omega) hS).mono ?_ | refine (want_st (by omega) (by omega) hw (by omega) (hS.alloc _)).mono ?_); rintro e wn ⟨rfl, hN⟩; clear hS; have hS := hN; clear hN; obtain ⟨z0, z1, z2, z3⟩ := hS.cells)
    | (go_at_call 35; (first | refine (take_st hw (by omega) hS).mono ?_ | refine (take_st hw (by omega) (hS.alloc _)).mono ?_); rintro e wn ⟨rfl, hN⟩; clear hS; have hS := hN; clear hN; obtain ⟨z0, z1, z2, z3⟩ := hS.cells))
  go_end0
  exact ⟨rfl, (St.done (by omega) hS).forget⟩

set_option maxRecDepth 100000 in
set_option maxHeartbeats 8000000 in
theorem does_9b (w0 : World) (s : PS) (kind op a b : Int) (hk : 0 ≤ kind ∧ kind < 256) (ho : 0 ≤ op ∧ op < 256) (hK : kind % 16 = 9) (hO : op % 3 = 1) (hg : Good s) (hw : s.weight ≤ 200000) (w : World) (h : Prog w0 pr s w) :
    Calls Tryz.prog 14 #[.pointer (some ⟨w0.heap.size, 0, none⟩), .agg #[.int .u8 kind, .int .i64 a, .int .i64 b, .int .u8 op]] w fun e w' => e = .returned (.tuple #[]) ∧ Done w0 pr s w' := by
  have hS := St.begin hg (step_box h (.cells #[.int .u8 kind, .int .i64 a, .int .i64 b, .int .u8 op] 62))
  clear h hg
  have ok1 := ok_two 40 1 (bits .and .i64 b 131071) (by kernel_rfl) (by omega) (by omega) (by have := low17 b; omega)
  go_enter Tryz.func14, Tryz.ntmps14
  go_wp2_with (first
    | (go_at_call 17; (first | refine (put_st (by first | assumption | decide +kernel) hw (by omega) hS).mono ?_ | refine (put_st (by first | assumption | decide +kernel) hw (by omega) (hS.alloc _)).mono ?_); rintro e wn ⟨rfl, hN⟩; clear hS; have hS := hN; clear hN; obtain ⟨z0, z1, z2, z3⟩ := hS.cells)
    | (go_at_call 33; (first | refine (push_st hw (by omega) hS).mono ?_ | refine (push_st hw (by omega) (hS.alloc _)).mono ?_); rintro e wn ⟨rfl, hN⟩; clear hS; have hS := hN; clear hN; obtain ⟨z0, z1, z2, z3⟩ := hS.cells)
    | (go_at_call 34; (first | refine (want_st (by omega) (by omega) hw (by omega) hS).mono ?_ | refine (want_st (by omega) (by omega) hw (by omega) (hS.alloc _)).mono ?_); rintro e wn ⟨rfl, hN⟩; clear hS; have hS := hN; clear hN; obtain ⟨z0, z1, z2, z3⟩ := hS.cells)
    | (go_at_call 35; (first | refine (take_st hw (by omega) hS).mono ?_ | refine (take_st hw (by omega) (hS.alloc _)).mono ?_); rintro e wn ⟨rfl, hN⟩; clear hS; have hS := hN; clear hN; obtain ⟨z0, z1, z2, z3⟩ := hS.cells))
  go_end0
  exact ⟨rfl, (St.done (by omega) hS).forget⟩

set_option maxRecDepth 100000 in
set_option maxHeartbeats 8000000 in
theorem does_9c (w0 : World) (s : PS) (kind op a b : Int) (hk : 0 ≤ kind ∧ kind < 256) (ho : 0 ≤ op ∧ op < 256) (hK : kind % 16 = 9) (hO : op % 3 = 2) (hg : Good s) (hw : s.weight ≤ 200000) (w : World) (h : Prog w0 pr s w) :
    Calls Tryz.prog 14 #[.pointer (some ⟨w0.heap.size, 0, none⟩), .agg #[.int .u8 kind, .int .i64 a, .int .i64 b, .int .u8 op]] w fun e w' => e = .returned (.tuple #[]) ∧ Done w0 pr s w' := by
  have hS := St.begin hg (step_box h (.cells #[.int .u8 kind, .int .i64 a, .int .i64 b, .int .u8 op] 62))
  clear h hg
  have ok1 := ok_two 40 2 (bits .and .i64 b 131071) (by kernel_rfl) (by omega) (by omega) (by have := low17 b; omega)
  go_enter Tryz.func14, Tryz.ntmps14
  go_wp2_with (first
    | (go_at_call 17; (first | refine (put_st (by first | assumption | decide +kernel) hw (by omega) hS).mono ?_ | refine (put_st (by first | assumption | decide +kernel) hw (by omega) (hS.alloc _)).mono ?_); rintro e wn ⟨rfl, hN⟩; clear hS; have hS := hN; clear hN; obtain ⟨z0, z1, z2, z3⟩ := hS.cells)
    | (go_at_call 33; (first | refine (push_st hw (by omega) hS).mono ?_ | refine (push_st hw (by omega) (hS.alloc _)).mono ?_); rintro e wn ⟨rfl, hN⟩; clear hS; have hS := hN; clear hN; obtain ⟨z0, z1, z2, z3⟩ := hS.cells)
    | (go_at_call 34; (first | refine (want_st (by omega) (by omega) hw (by omega) hS).mono ?_ | refine (want_st (by omega) (by omega) hw (by omega) (hS.alloc _)).mono ?_); rintro e wn ⟨rfl, hN⟩; clear hS; have hS := hN; clear hN; obtain ⟨z0, z1, z2, z3⟩ := hS.cells)
    | (go_at_call 35; (first | refine (take_st hw (by omega) hS).mono ?_ | refine (take_st hw (by omega) (hS.alloc _)).mono ?_); rintro e wn ⟨rfl, hN⟩; clear hS; have hS := hN; clear hN; obtain ⟨z0, z1, z2, z3⟩ := hS.cells))
  go_end0
  exact ⟨rfl, (St.done (by omega) hS).forget⟩

set_option maxRecDepth 100000 in
set_option maxHeartbeats 8000000 in
theorem does_10a (w0 : World) (s : PS) (kind op a b : Int) (hk : 0 ≤ kind ∧ kind < 256) (ho : 0 ≤ op ∧ op < 256) (hK : kind % 16 = 10) (hO : op % 3 = 0) (hg : Good s) (hw : s.weight ≤ 200000) (w : World) (h : Prog w0 pr s w) :
    Calls Tryz.prog 14 #[.pointer (some ⟨w0.heap.size, 0, none⟩), .agg #[.int .u8 kind, .int .i64 a, .int .i64 b, .int .u8 op]] w fun e w' => e = .returned (.tuple #[]) ∧ Done w0 pr s w' := by
  have hS := St.begin hg (step_box h (.cells #[.int .u8 kind, .int .i64 a, .int .i64 b, .int .u8 op] 62))
  clear h hg
  have ok1 := ok_two 60 0 (bits .and .i64 b 131071) (by kernel_rfl) (by omega) (by omega) (by have := low17 b; omega)
  go_enter Tryz.func14, Tryz.ntmps14
  go_wp2_with (first
    | (go_at_call 17; (first | refine (put_st (by first | assumption | decide +kernel) hw (by omega) hS).mono ?_ | refine (put_st (by first | assumption | decide +kernel) hw (by omega) (hS.alloc _)).mono ?_); rintro e wn ⟨rfl, hN⟩; clear hS; have hS := hN; clear hN; obtain ⟨z0, z1, z2, z3⟩ := hS.cells)
    | (go_at_call 33; (first | refine (push_st hw (by omega) hS).mono ?_ | refine (push_st hw (by omega) (hS.alloc _)).mono ?_); rintro e wn ⟨rfl, hN⟩; clear hS; have hS := hN; clear hN; obtain ⟨z0, z1, z2, z3⟩ := hS.cells)
    | (go_at_call 34; (first | refine (want_st (by omega) (by omega) hw (by omega) hS).mono ?_ | refine (want_st (by omega) (by omega) hw (by omega) (hS.alloc _)).mono ?_); rintro e wn ⟨rfl, hN⟩; clear hS; have hS := hN; clear hN; obtain ⟨z0, z1, z2, z3⟩ := hS.cells)
    | (go_at_call 35; (first | refine (take_st hw (by omega) hS).mono ?_ | refine (take_st hw (by omega) (hS.alloc _)).mono ?_); rintro e wn ⟨rfl, hN⟩; clear hS; have hS := hN; clear hN; obtain ⟨z0, z1, z2, z3⟩ := hS.cells))
  go_end0
  exact ⟨rfl, (St.done (by omega) hS).forget⟩

set_option maxRecDepth 100000 in
set_option maxHeartbeats 8000000 in
theorem does_10b (w0 : World) (s : PS) (kind op a b : Int) (hk : 0 ≤ kind ∧ kind < 256) (ho : 0 ≤ op ∧ op < 256) (hK : kind % 16 = 10) (hO : op % 3 = 1) (hg : Good s) (hw : s.weight ≤ 200000) (w : World) (h : Prog w0 pr s w) :
    Calls Tryz.prog 14 #[.pointer (some ⟨w0.heap.size, 0, none⟩), .agg #[.int .u8 kind, .int .i64 a, .int .i64 b, .int .u8 op]] w fun e w' => e = .returned (.tuple #[]) ∧ Done w0 pr s w' := by
  have hS := St.begin hg (step_box h (.cells #[.int .u8 kind, .int .i64 a, .int .i64 b, .int .u8 op] 62))
  clear h hg
  have ok1 := ok_two 61 0 (bits .and .i64 b 131071) (by kernel_rfl) (by omega) (by omega) (by have := low17 b; omega)
  go_enter Tryz.func14, Tryz.ntmps14
  go_wp2_with (first
    | (go_at_call 17; (first | refine (put_st (by first | assumption | decide +kernel) hw (by omega) hS).mono ?_ | refine (put_st (by first | assumption | decide +kernel) hw (by omega) (hS.alloc _)).mono ?_); rintro e wn ⟨rfl, hN⟩; clear hS; have hS := hN; clear hN; obtain ⟨z0, z1, z2, z3⟩ := hS.cells)
    | (go_at_call 33; (first | refine (push_st hw (by omega) hS).mono ?_ | refine (push_st hw (by omega) (hS.alloc _)).mono ?_); rintro e wn ⟨rfl, hN⟩; clear hS; have hS := hN; clear hN; obtain ⟨z0, z1, z2, z3⟩ := hS.cells)
    | (go_at_call 34; (first | refine (want_st (by omega) (by omega) hw (by omega) hS).mono ?_ | refine (want_st (by omega) (by omega) hw (by omega) (hS.alloc _)).mono ?_); rintro e wn ⟨rfl, hN⟩; clear hS; have hS := hN; clear hN; obtain ⟨z0, z1, z2, z3⟩ := hS.cells)
    | (go_at_call 35; (first | refine (take_st hw (by omega) hS).mono ?_ | refine (take_st hw (by omega) (hS.alloc _)).mono ?_); rintro e wn ⟨rfl, hN⟩; clear hS; have hS := hN; clear hN; obtain ⟨z0, z1, z2, z3⟩ := hS.cells))
  go_end0
  exact ⟨rfl, (St.done (by omega) hS).forget⟩

set_option maxRecDepth 100000 in
set_option maxHeartbeats 8000000 in
theorem does_10c (w0 : World) (s : PS) (kind op a b : Int) (hk : 0 ≤ kind ∧ kind < 256) (ho : 0 ≤ op ∧ op < 256) (hK : kind % 16 = 10) (hO : op % 3 = 2) (hg : Good s) (hw : s.weight ≤ 200000) (w : World) (h : Prog w0 pr s w) :
    Calls Tryz.prog 14 #[.pointer (some ⟨w0.heap.size, 0, none⟩), .agg #[.int .u8 kind, .int .i64 a, .int .i64 b, .int .u8 op]] w fun e w' => e = .returned (.tuple #[]) ∧ Done w0 pr s w' := by
  have hS := St.begin hg (step_box h (.cells #[.int .u8 kind, .int .i64 a, .int .i64 b, .int .u8 op] 62))
  clear h hg
  have ok1 := ok_two 62 0 (bits .and .i64 b 131071) (by kernel_rfl) (by omega) (by omega) (by have := low17 b; omega)
  go_enter Tryz.func14, Tryz.ntmps14
  go_wp2_with (first
    | (go_at_call 17; (first | refine (put_st (by first | assumption | decide +kernel) hw (by omega) hS).mono ?_ | refine (put_st (by first | assumption | decide +kernel) hw (by omega) (hS.alloc _)).mono ?_); rintro e wn ⟨rfl, hN⟩; clear hS; have hS := hN; clear hN; obtain ⟨z0, z1, z2, z3⟩ := hS.cells)
    | (go_at_call 33; (first | refine (push_st hw (by omega) hS).mono ?_ | refine (push_st hw (by omega) (hS.alloc _)).mono ?_); rintro e wn ⟨rfl, hN⟩; clear hS; have hS := hN; clear hN; obtain ⟨z0, z1, z2, z3⟩ := hS.cells)
    | (go_at_call 34; (first | refine (want_st (by omega) (by omega) hw (by omega) hS).mono ?_ | refine (want_st (by omega) (by omega) hw (by omega) (hS.alloc _)).mono ?_); rintro e wn ⟨rfl, hN⟩; clear hS; have hS := hN; clear hN; obtain ⟨z0, z1, z2, z3⟩ := hS.cells)
    | (go_at_call 35; (first | refine (take_st hw (by omega) hS).mono ?_ | refine (take_st hw (by omega) (hS.alloc _)).mono ?_); rintro e wn ⟨rfl, hN⟩; clear hS; have hS := hN; clear hN; obtain ⟨z0, z1, z2, z3⟩ := hS.cells))
  go_end0
  exact ⟨rfl, (St.done (by omega) hS).forget⟩

end Go.Proofs.YtieogmalgmgkeaaGreatDoor

namespace Go.Proofs.YtieogmalgmgkeaaGreatDoor
open Go.RowKit
variable {pr : List (Nat × Obj)}

set_option maxRecDepth 100000 in
set_option maxHeartbeats 8000000 in
theorem does_12a (w0 : World) (s : PS) (kind op a b : Int) (hk : 0 ≤ kind ∧ kind < 256) (ho : 0 ≤ op ∧ op < 256) (hK : kind % 16 = 12) (hO : op % 2 = 0) (hg : Good s) (hw : s.weight ≤ 200000) (w : World) (h : Prog w0 pr s w) :
    Calls Tryz.prog 14 #[.pointer (some ⟨w0.heap.size, 0, none⟩), .agg #[.int .u8 kind, .int .i64 a, .int .i64 b, .int .u8 op]] w fun e w' => e = .returned (.tuple #[]) ∧ Done w0 pr s w' := by
  have hS := St.begin hg (step_box h (.cells #[.int .u8 kind, .int .i64 a, .int .i64 b, .int .u8 op] 62))
  clear h hg
  go_enter Tryz.func14, Tryz.ntmps14
  go_wp2_with (first
    | (go_at_call 17; (first | refine (put_st (by first | assumption | decide +kernel) hw (by omega) hS).mono ?_ | refine (put_st (by first | assumption | decide +kernel) hw (by omega) (hS.alloc _)).mono ?_); rintro e wn ⟨rfl, hN⟩; clear hS; have hS := hN; clear hN; obtain ⟨z0, z1, z2, z3⟩ := hS.cells)
    | (go_at_call 36; refine (opens_st (by omega) (by omega) hw (by omega) hS).mono ?_; rintro e wn ⟨rfl, hD⟩)
    | (go_at_call 33; (first | refine (push_st hw (by omega) hS).mono ?_ | refine (push_st hw (by omega) (hS.alloc _)).mono ?_); rintro e wn ⟨rfl, hN⟩; clear hS; have hS := hN; clear hN; obtain ⟨z0, z1, z2, z3⟩ := hS.cells)
    | (go_at_call 34; (first | refine (want_st (by omega) (by omega) hw (by omega) hS).mono ?_ | refine (want_st (by omega) (by omega) hw (by omega) (hS.alloc _)).mono ?_); rintro e wn ⟨rfl, hN⟩; clear hS; have hS := hN; clear hN; obtain ⟨z0, z1, z2, z3⟩ := hS.cells)
    | (go_at_call 35; (first | refine (take_st hw (by omega) hS).mono ?_ | refine (take_st hw (by omega) (hS.alloc _)).mono ?_); rintro e wn ⟨rfl, hN⟩; clear hS; have hS := hN; clear hN; obtain ⟨z0, z1, z2, z3⟩ := hS.cells))
  go_end0
  exact ⟨rfl, hD.forget⟩

set_option maxRecDepth 100000 in
set_option maxHeartbeats 8000000 in
theorem does_12b (w0 : World) (s : PS) (kind op a b : Int) (hk : 0 ≤ kind ∧ kind < 256) (ho : 0 ≤ op ∧ op < 256) (hK : kind % 16 = 12) (hO : op % 2 = 1) (hg : Good s) (hw : s.weight ≤ 200000) (w : World) (h : Prog w0 pr s w) :
    Calls Tryz.prog 14 #[.pointer (some ⟨w0.heap.size, 0, none⟩), .agg #[.int .u8 kind, .int .i64 a, .int .i64 b, .int .u8 op]] w fun e w' => e = .returned (.tuple #[]) ∧ Done w0 pr s w' := by
  have hS := St.begin hg (step_box h (.cells #[.int .u8 kind, .int .i64 a, .int .i64 b, .int .u8 op] 62))
  clear h hg
  go_enter Tryz.func14, Tryz.ntmps14
  go_wp2_with (first
    | (go_at_call 17; (first | refine (put_st (by first | assumption | decide +kernel) hw (by omega) hS).mono ?_ | refine (put_st (by first | assumption | decide +kernel) hw (by omega) (hS.alloc _)).mono ?_); rintro e wn ⟨rfl, hN⟩; clear hS; have hS := hN; clear hN; obtain ⟨z0, z1, z2, z3⟩ := hS.cells)
    | (go_at_call 36; refine (opens_st (by omega) (by omega) hw (by omega) hS).mono ?_; rintro e wn ⟨rfl, hD⟩)
    | (go_at_call 33; (first | refine (push_st hw (by omega) hS).mono ?_ | refine (push_st hw (by omega) (hS.alloc _)).mono ?_); rintro e wn ⟨rfl, hN⟩; clear hS; have hS := hN; clear hN; obtain ⟨z0, z1, z2, z3⟩ := hS.cells)
    | (go_at_call 34; (first | refine (want_st (by omega) (by omega) hw (by omega) hS).mono ?_ | refine (want_st (by omega) (by omega) hw (by omega) (hS.alloc _)).mono ?_); rintro e wn ⟨rfl, hN⟩; clear hS; have hS := hN; clear hN; obtain ⟨z0, z1, z2, z3⟩ := hS.cells)
    | (go_at_call 35; (first | refine (take_st hw (by omega) hS).mono ?_ | refine (take_st hw (by omega) (hS.alloc _)).mono ?_); rintro e wn ⟨rfl, hN⟩; clear hS; have hS := hN; clear hN; obtain ⟨z0, z1, z2, z3⟩ := hS.cells))
  go_end0
  exact ⟨rfl, hD.forget⟩

set_option maxRecDepth 100000 in
set_option maxHeartbeats 8000000 in
theorem does_14a (w0 : World) (s : PS) (kind op a b : Int) (hk : 0 ≤ kind ∧ kind < 256) (ho : 0 ≤ op ∧ op < 256) (hK : kind % 16 = 14) (hO : op % 2 = 0) (hg : Good s) (hw : s.weight ≤ 200000) (w : World) (h : Prog w0 pr s w) :
    Calls Tryz.prog 14 #[.pointer (some ⟨w0.heap.size, 0, none⟩), .agg #[.int .u8 kind, .int .i64 a, .int .i64 b, .int .u8 op]] w fun e w' => e = .returned (.tuple #[]) ∧ Done w0 pr s w' := by
  obtain ⟨n, rfl⟩ : ∃ n : Nat, op = n := ⟨op.toNat, by omega⟩
  have hS := step_box h (.cells #[.int .u8 kind, .int .i64 a, .int .i64 b, .int .u8 n] 62)
  clear h
  go_enter Tryz.func14, Tryz.ntmps14
  go_wp2_with (go_at_call 37; refine (jumps_st n (by omega) hg hw hS).mono ?_; rintro e wn ⟨rfl, hD⟩)
  go_end0
  exact ⟨rfl, hD.forget⟩

set_option maxRecDepth 100000 in
set_option maxHeartbeats 8000000 in
theorem does_14b (w0 : World) (s : PS) (kind op a b : Int) (hk : 0 ≤ kind ∧ kind < 256) (ho : 0 ≤ op ∧ op < 256) (hK : kind % 16 = 14) (hO : op % 2 = 1) (hg : Good s) (hw : s.weight ≤ 200000) (w : World) (h : Prog w0 pr s w) :
    Calls Tryz.prog 14 #[.pointer (some ⟨w0.heap.size, 0, none⟩), .agg #[.int .u8 kind, .int .i64 a, .int .i64 b, .int .u8 op]] w fun e w' => e = .returned (.tuple #[]) ∧ Done w0 pr s w' := by
  obtain ⟨n, rfl⟩ : ∃ n : Nat, op = n := ⟨op.toNat, by omega⟩
  have hS := step_box h (.cells #[.int .u8 kind, .int .i64 a, .int .i64 b, .int .u8 n] 62)
  clear h
  go_enter Tryz.func14, Tryz.ntmps14
  go_wp2_with (go_at_call 37; refine (jumps_st n (by omega) hg hw hS).mono ?_; rintro e wn ⟨rfl, hD⟩)
  go_end0
  exact ⟨rfl, hD.forget⟩

end Go.Proofs.YtieogmalgmgkeaaGreatDoor
