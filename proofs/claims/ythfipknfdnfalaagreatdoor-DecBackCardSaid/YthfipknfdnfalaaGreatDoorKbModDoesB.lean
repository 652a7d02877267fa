/-
  The program that the statements of chapter 4 put together: a step's other cases; walked. Contracts that the proofs call; no statement is proved here.
-/
import Derived.Test.YthfipknfdnfalaaGreatDoorKbModOpens
namespace Go.Proofs.YthfipknfdnfalaaGreatDoor
set_option maxRecDepth 100000
set_option maxHeartbeats 16000000
open Go.RowKit
variable {pr : List (Nat × Obj)}
theorem ok_two (op x y : Int) (hop : (byCode op).map Rw.shape = some 5) (hs : op ≠ 2 ∧ op ≠ 3 ∧ op ≠ 4 ∧ op ≠ 5 ∧ op ≠ 11) (hx : 0 ≤ x ∧ x < 4294967296) (hy : 0 ≤ y ∧ y < 4294967296) : okPI ⟨op, x, y⟩ = true := by
  unfold okPI rightOf
  cases h : byCode op with
  | none => rw [h] at hop; cases hop
  | some r =>
    rw [h] at hop
    have hr : r.shape = 5 := by simpa using hop
    have hi : inI64 x := by unfold inI64; omega
    simp [hr, word, hx, hy, hs, hi]
theorem does_6a (w0 : World) (s : PS) (kind op a b : Int) (hk : 0 ≤ kind ∧ kind < 256) (ho : 0 ≤ op ∧ op < 256) (hK : kind % 16 = 6) (hO : op % 4 = 0) (hg : Good s) (hw : s.weight ≤ 200000) (w : World) (h : Prog w0 pr s w) :
    Calls Tryz.prog 44 #[.pointer (some ⟨w0.heap.size, 0, none⟩), .agg #[.int .u8 kind, .int .i64 a, .int .i64 b, .int .u8 op]] w fun e w' => e = .returned (.tuple #[]) ∧ Done w0 pr s (doesF s kind op a b) w' := by
  have HF : Hid (doesF s kind op a b = takeF (putF (wantF s 126) 33 0 0)) := Lib.hid (by unfold doesF; rw [hK]; simp [hO])
  have hS := St.begin hg (step_box h (.cells #[.int .u8 kind, .int .i64 a, .int .i64 b, .int .u8 op] 102))
  clear h hg
  have hO2 : op % 2 = 0 := by omega
  have hK2 : kind % 2 = 0 := by omega
  go_enter Tryz.func44, Tryz.ntmps44
  go_wp2_with (first
    | (go_at_call 47; (first | refine (put_st (by first | assumption | decide +kernel) hw (by omega) hS).mono ?_ | refine (put_st (by first | assumption | decide +kernel) hw (by omega) (hS.alloc _)).mono ?_); rintro e wn ⟨rfl, hN⟩; clear hS; have hS := hN; clear hN; obtain ⟨z0, z1, z2, z3⟩ := hS.cells)
    | (go_at_call 121; (first | refine (push_st hw (by omega) hS).mono ?_ | refine (push_st hw (by omega) (hS.alloc _)).mono ?_); rintro e wn ⟨rfl, hN⟩; clear hS; have hS := hN; clear hN; obtain ⟨z0, z1, z2, z3⟩ := hS.cells)
    | (go_at_call 122; (first | refine (want_st (by omega) (by omega) hw (by omega) hS).mono ?_ | refine (want_st (by omega) (by omega) hw (by omega) (hS.alloc _)).mono ?_); rintro e wn ⟨rfl, hN⟩; clear hS; have hS := hN; clear hN; obtain ⟨z0, z1, z2, z3⟩ := hS.cells)
    | (go_at_call 123; (first | refine (take_st hw (by omega) hS).mono ?_ | refine (take_st hw (by omega) (hS.alloc _)).mono ?_); rintro e wn ⟨rfl, hN⟩; clear hS; have hS := hN; clear hN; obtain ⟨z0, z1, z2, z3⟩ := hS.cells))
  go_end0
  exact ⟨rfl, by rw [HF.out]; exact (St.done (by omega) hS).forget⟩
theorem does_7a (w0 : World) (s : PS) (kind op a b : Int) (hk : 0 ≤ kind ∧ kind < 256) (ho : 0 ≤ op ∧ op < 256) (hK : kind % 16 = 7) (hO : op % 4 = 0) (hg : Good s) (hw : s.weight ≤ 200000) (w : World) (h : Prog w0 pr s w) :
    Calls Tryz.prog 44 #[.pointer (some ⟨w0.heap.size, 0, none⟩), .agg #[.int .u8 kind, .int .i64 a, .int .i64 b, .int .u8 op]] w fun e w' => e = .returned (.tuple #[]) ∧ Done w0 pr s (doesF s kind op a b) w' := by
  have HF : Hid (doesF s kind op a b = putF (wantF s 126) 34 0 0) := Lib.hid (by unfold doesF; rw [hK]; simp [hO])
  have hS := St.begin hg (step_box h (.cells #[.int .u8 kind, .int .i64 a, .int .i64 b, .int .u8 op] 102))
  clear h hg
  have hO2 : op % 2 = 0 := by omega
  have hK2 : kind % 2 = 1 := by omega
  go_enter Tryz.func44, Tryz.ntmps44
  go_wp2_with (first
    | (go_at_call 47; (first | refine (put_st (by first | assumption | decide +kernel) hw (by omega) hS).mono ?_ | refine (put_st (by first | assumption | decide +kernel) hw (by omega) (hS.alloc _)).mono ?_); rintro e wn ⟨rfl, hN⟩; clear hS; have hS := hN; clear hN; obtain ⟨z0, z1, z2, z3⟩ := hS.cells)
    | (go_at_call 121; (first | refine (push_st hw (by omega) hS).mono ?_ | refine (push_st hw (by omega) (hS.alloc _)).mono ?_); rintro e wn ⟨rfl, hN⟩; clear hS; have hS := hN; clear hN; obtain ⟨z0, z1, z2, z3⟩ := hS.cells)
    | (go_at_call 122; (first | refine (want_st (by omega) (by omega) hw (by omega) hS).mono ?_ | refine (want_st (by omega) (by omega) hw (by omega) (hS.alloc _)).mono ?_); rintro e wn ⟨rfl, hN⟩; clear hS; have hS := hN; clear hN; obtain ⟨z0, z1, z2, z3⟩ := hS.cells)
    | (go_at_call 123; (first | refine (take_st hw (by omega) hS).mono ?_ | refine (take_st hw (by omega) (hS.alloc _)).mono ?_); rintro e wn ⟨rfl, hN⟩; clear hS; have hS := hN; clear hN; obtain ⟨z0, z1, z2, z3⟩ := hS.cells))
  go_end0
  exact ⟨rfl, by rw [HF.out]; exact (St.done (by omega) hS).forget⟩
theorem does_6b (w0 : World) (s : PS) (kind op a b : Int) (hk : 0 ≤ kind ∧ kind < 256) (ho : 0 ≤ op ∧ op < 256) (hK : kind % 16 = 6) (hO : op % 4 = 1) (hg : Good s) (hw : s.weight ≤ 200000) (w : World) (h : Prog w0 pr s w) :
    Calls Tryz.prog 44 #[.pointer (some ⟨w0.heap.size, 0, none⟩), .agg #[.int .u8 kind, .int .i64 a, .int .i64 b, .int .u8 op]] w fun e w' => e = .returned (.tuple #[]) ∧ Done w0 pr s (doesF s kind op a b) w' := by
  have HF : Hid (doesF s kind op a b = takeF (putF (wantF s 127) 33 1 0)) := Lib.hid (by unfold doesF; rw [hK]; simp [hO])
  have hS := St.begin hg (step_box h (.cells #[.int .u8 kind, .int .i64 a, .int .i64 b, .int .u8 op] 102))
  clear h hg
  have hO2 : op % 2 = 1 := by omega
  have hK2 : kind % 2 = 0 := by omega
  go_enter Tryz.func44, Tryz.ntmps44
  go_wp2_with (first
    | (go_at_call 47; (first | refine (put_st (by first | assumption | decide +kernel) hw (by omega) hS).mono ?_ | refine (put_st (by first | assumption | decide +kernel) hw (by omega) (hS.alloc _)).mono ?_); rintro e wn ⟨rfl, hN⟩; clear hS; have hS := hN; clear hN; obtain ⟨z0, z1, z2, z3⟩ := hS.cells)
    | (go_at_call 121; (first | refine (push_st hw (by omega) hS).mono ?_ | refine (push_st hw (by omega) (hS.alloc _)).mono ?_); rintro e wn ⟨rfl, hN⟩; clear hS; have hS := hN; clear hN; obtain ⟨z0, z1, z2, z3⟩ := hS.cells)
    | (go_at_call 122; (first | refine (want_st (by omega) (by omega) hw (by omega) hS).mono ?_ | refine (want_st (by omega) (by omega) hw (by omega) (hS.alloc _)).mono ?_); rintro e wn ⟨rfl, hN⟩; clear hS; have hS := hN; clear hN; obtain ⟨z0, z1, z2, z3⟩ := hS.cells)
    | (go_at_call 123; (first | refine (take_st hw (by omega) hS).mono ?_ | refine (take_st hw (by omega) (hS.alloc _)).mono ?_); rintro e wn ⟨rfl, hN⟩; clear hS; have hS := hN; clear hN; obtain ⟨z0, z1, z2, z3⟩ := hS.cells))
  go_end0
  exact ⟨rfl, by rw [HF.out]; exact (St.done (by omega) hS).forget⟩
theorem does_7b (w0 : World) (s : PS) (kind op a b : Int) (hk : 0 ≤ kind ∧ kind < 256) (ho : 0 ≤ op ∧ op < 256) (hK : kind % 16 = 7) (hO : op % 4 = 1) (hg : Good s) (hw : s.weight ≤ 200000) (w : World) (h : Prog w0 pr s w) :
    Calls Tryz.prog 44 #[.pointer (some ⟨w0.heap.size, 0, none⟩), .agg #[.int .u8 kind, .int .i64 a, .int .i64 b, .int .u8 op]] w fun e w' => e = .returned (.tuple #[]) ∧ Done w0 pr s (doesF s kind op a b) w' := by
  have HF : Hid (doesF s kind op a b = putF (wantF s 127) 34 1 0) := Lib.hid (by unfold doesF; rw [hK]; simp [hO])
  have hS := St.begin hg (step_box h (.cells #[.int .u8 kind, .int .i64 a, .int .i64 b, .int .u8 op] 102))
  clear h hg
  have hO2 : op % 2 = 1 := by omega
  have hK2 : kind % 2 = 1 := by omega
  go_enter Tryz.func44, Tryz.ntmps44
  go_wp2_with (first
    | (go_at_call 47; (first | refine (put_st (by first | assumption | decide +kernel) hw (by omega) hS).mono ?_ | refine (put_st (by first | assumption | decide +kernel) hw (by omega) (hS.alloc _)).mono ?_); rintro e wn ⟨rfl, hN⟩; clear hS; have hS := hN; clear hN; obtain ⟨z0, z1, z2, z3⟩ := hS.cells)
    | (go_at_call 121; (first | refine (push_st hw (by omega) hS).mono ?_ | refine (push_st hw (by omega) (hS.alloc _)).mono ?_); rintro e wn ⟨rfl, hN⟩; clear hS; have hS := hN; clear hN; obtain ⟨z0, z1, z2, z3⟩ := hS.cells)
    | (go_at_call 122; (first | refine (want_st (by omega) (by omega) hw (by omega) hS).mono ?_ | refine (want_st (by omega) (by omega) hw (by omega) (hS.alloc _)).mono ?_); rintro e wn ⟨rfl, hN⟩; clear hS; have hS := hN; clear hN; obtain ⟨z0, z1, z2, z3⟩ := hS.cells)
    | (go_at_call 123; (first | refine (take_st hw (by omega) hS).mono ?_ | refine (take_st hw (by omega) (hS.alloc _)).mono ?_); rintro e wn ⟨rfl, hN⟩; clear hS; have hS := hN; clear hN; obtain ⟨z0, z1, z2, z3⟩ := hS.cells))
  go_end0
  exact ⟨rfl, by rw [HF.out]; exact (St.done (by omega) hS).forget⟩
theorem does_6c (w0 : World) (s : PS) (kind op a b : Int) (hk : 0 ≤ kind ∧ kind < 256) (ho : 0 ≤ op ∧ op < 256) (hK : kind % 16 = 6) (hO : op % 4 = 2) (hg : Good s) (hw : s.weight ≤ 200000) (w : World) (h : Prog w0 pr s w) :
    Calls Tryz.prog 44 #[.pointer (some ⟨w0.heap.size, 0, none⟩), .agg #[.int .u8 kind, .int .i64 a, .int .i64 b, .int .u8 op]] w fun e w' => e = .returned (.tuple #[]) ∧ Done w0 pr s (doesF s kind op a b) w' := by
  have HF : Hid (doesF s kind op a b = takeF (putF (wantF s 127) 33 2 0)) := Lib.hid (by unfold doesF; rw [hK]; simp [hO])
  have hS := St.begin hg (step_box h (.cells #[.int .u8 kind, .int .i64 a, .int .i64 b, .int .u8 op] 102))
  clear h hg
  have hO2 : op % 2 = 0 := by omega
  have hK2 : kind % 2 = 0 := by omega
  go_enter Tryz.func44, Tryz.ntmps44
  go_wp2_with (first
    | (go_at_call 47; (first | refine (put_st (by first | assumption | decide +kernel) hw (by omega) hS).mono ?_ | refine (put_st (by first | assumption | decide +kernel) hw (by omega) (hS.alloc _)).mono ?_); rintro e wn ⟨rfl, hN⟩; clear hS; have hS := hN; clear hN; obtain ⟨z0, z1, z2, z3⟩ := hS.cells)
    | (go_at_call 121; (first | refine (push_st hw (by omega) hS).mono ?_ | refine (push_st hw (by omega) (hS.alloc _)).mono ?_); rintro e wn ⟨rfl, hN⟩; clear hS; have hS := hN; clear hN; obtain ⟨z0, z1, z2, z3⟩ := hS.cells)
    | (go_at_call 122; (first | refine (want_st (by omega) (by omega) hw (by omega) hS).mono ?_ | refine (want_st (by omega) (by omega) hw (by omega) (hS.alloc _)).mono ?_); rintro e wn ⟨rfl, hN⟩; clear hS; have hS := hN; clear hN; obtain ⟨z0, z1, z2, z3⟩ := hS.cells)
    | (go_at_call 123; (first | refine (take_st hw (by omega) hS).mono ?_ | refine (take_st hw (by omega) (hS.alloc _)).mono ?_); rintro e wn ⟨rfl, hN⟩; clear hS; have hS := hN; clear hN; obtain ⟨z0, z1, z2, z3⟩ := hS.cells))
  go_end0
  exact ⟨rfl, by rw [HF.out]; exact (St.done (by omega) hS).forget⟩
theorem does_7c (w0 : World) (s : PS) (kind op a b : Int) (hk : 0 ≤ kind ∧ kind < 256) (ho : 0 ≤ op ∧ op < 256) (hK : kind % 16 = 7) (hO : op % 4 = 2) (hg : Good s) (hw : s.weight ≤ 200000) (w : World) (h : Prog w0 pr s w) :
    Calls Tryz.prog 44 #[.pointer (some ⟨w0.heap.size, 0, none⟩), .agg #[.int .u8 kind, .int .i64 a, .int .i64 b, .int .u8 op]] w fun e w' => e = .returned (.tuple #[]) ∧ Done w0 pr s (doesF s kind op a b) w' := by
  have HF : Hid (doesF s kind op a b = putF (wantF s 127) 34 2 0) := Lib.hid (by unfold doesF; rw [hK]; simp [hO])
  have hS := St.begin hg (step_box h (.cells #[.int .u8 kind, .int .i64 a, .int .i64 b, .int .u8 op] 102))
  clear h hg
  have hO2 : op % 2 = 0 := by omega
  have hK2 : kind % 2 = 1 := by omega
  go_enter Tryz.func44, Tryz.ntmps44
  go_wp2_with (first
    | (go_at_call 47; (first | refine (put_st (by first | assumption | decide +kernel) hw (by omega) hS).mono ?_ | refine (put_st (by first | assumption | decide +kernel) hw (by omega) (hS.alloc _)).mono ?_); rintro e wn ⟨rfl, hN⟩; clear hS; have hS := hN; clear hN; obtain ⟨z0, z1, z2, z3⟩ := hS.cells)
    | (go_at_call 121; (first | refine (push_st hw (by omega) hS).mono ?_ | refine (push_st hw (by omega) (hS.alloc _)).mono ?_); rintro e wn ⟨rfl, hN⟩; clear hS; have hS := hN; clear hN; obtain ⟨z0, z1, z2, z3⟩ := hS.cells)
    | (go_at_call 122; (first | refine (want_st (by omega) (by omega) hw (by omega) hS).mono ?_ | refine (want_st (by omega) (by omega) hw (by omega) (hS.alloc _)).mono ?_); rintro e wn ⟨rfl, hN⟩; clear hS; have hS := hN; clear hN; obtain ⟨z0, z1, z2, z3⟩ := hS.cells)
    | (go_at_call 123; (first | refine (take_st hw (by omega) hS).mono ?_ | refine (take_st hw (by omega) (hS.alloc _)).mono ?_); rintro e wn ⟨rfl, hN⟩; clear hS; have hS := hN; clear hN; obtain ⟨z0, z1, z2, z3⟩ := hS.cells))
  go_end0
  exact ⟨rfl, by rw [HF.out]; exact (St.done (by omega) hS).forget⟩
theorem does_6d (w0 : World) (s : PS) (kind op a b : Int) (hk : 0 ≤ kind ∧ kind < 256) (ho : 0 ≤ op ∧ op < 256) (hK : kind % 16 = 6) (hO : op % 4 = 3) (hg : Good s) (hw : s.weight ≤ 200000) (w : World) (h : Prog w0 pr s w) :
    Calls Tryz.prog 44 #[.pointer (some ⟨w0.heap.size, 0, none⟩), .agg #[.int .u8 kind, .int .i64 a, .int .i64 b, .int .u8 op]] w fun e w' => e = .returned (.tuple #[]) ∧ Done w0 pr s (doesF s kind op a b) w' := by
  have HF : Hid (doesF s kind op a b = takeF (putF (wantF s 126) 33 3 0)) := Lib.hid (by unfold doesF; rw [hK]; simp [hO])
  have hS := St.begin hg (step_box h (.cells #[.int .u8 kind, .int .i64 a, .int .i64 b, .int .u8 op] 102))
  clear h hg
  have hO2 : op % 2 = 1 := by omega
  have hK2 : kind % 2 = 0 := by omega
  go_enter Tryz.func44, Tryz.ntmps44
  go_wp2_with (first
    | (go_at_call 47; (first | refine (put_st (by first | assumption | decide +kernel) hw (by omega) hS).mono ?_ | refine (put_st (by first | assumption | decide +kernel) hw (by omega) (hS.alloc _)).mono ?_); rintro e wn ⟨rfl, hN⟩; clear hS; have hS := hN; clear hN; obtain ⟨z0, z1, z2, z3⟩ := hS.cells)
    | (go_at_call 121; (first | refine (push_st hw (by omega) hS).mono ?_ | refine (push_st hw (by omega) (hS.alloc _)).mono ?_); rintro e wn ⟨rfl, hN⟩; clear hS; have hS := hN; clear hN; obtain ⟨z0, z1, z2, z3⟩ := hS.cells)
    | (go_at_call 122; (first | refine (want_st (by omega) (by omega) hw (by omega) hS).mono ?_ | refine (want_st (by omega) (by omega) hw (by omega) (hS.alloc _)).mono ?_); rintro e wn ⟨rfl, hN⟩; clear hS; have hS := hN; clear hN; obtain ⟨z0, z1, z2, z3⟩ := hS.cells)
    | (go_at_call 123; (first | refine (take_st hw (by omega) hS).mono ?_ | refine (take_st hw (by omega) (hS.alloc _)).mono ?_); rintro e wn ⟨rfl, hN⟩; clear hS; have hS := hN; clear hN; obtain ⟨z0, z1, z2, z3⟩ := hS.cells))
  go_end0
  exact ⟨rfl, by rw [HF.out]; exact (St.done (by omega) hS).forget⟩
theorem does_7d (w0 : World) (s : PS) (kind op a b : Int) (hk : 0 ≤ kind ∧ kind < 256) (ho : 0 ≤ op ∧ op < 256) (hK : kind % 16 = 7) (hO : op % 4 = 3) (hg : Good s) (hw : s.weight ≤ 200000) (w : World) (h : Prog w0 pr s w) :
    Calls Tryz.prog 44 #[.pointer (some ⟨w0.heap.size, 0, none⟩), .agg #[.int .u8 kind, .int .i64 a, .int .i64 b, .int .u8 op]] w fun e w' => e = .returned (.tuple #[]) ∧ Done w0 pr s (doesF s kind op a b) w' := by
  have HF : Hid (doesF s kind op a b = putF (wantF s 126) 34 3 0) := Lib.hid (by unfold doesF; rw [hK]; simp [hO])
  have hS := St.begin hg (step_box h (.cells #[.int .u8 kind, .int .i64 a, .int .i64 b, .int .u8 op] 102))
  clear h hg
  have hO2 : op % 2 = 1 := by omega
  have hK2 : kind % 2 = 1 := by omega
  go_enter Tryz.func44, Tryz.ntmps44
  go_wp2_with (first
    | (go_at_call 47; (first | refine (put_st (by first | assumption | decide +kernel) hw (by omega) hS).mono ?_ | refine (put_st (by first | assumption | decide +kernel) hw (by omega) (hS.alloc _)).mono ?_); rintro e wn ⟨rfl, hN⟩; clear hS; have hS := hN; clear hN; obtain ⟨z0, z1, z2, z3⟩ := hS.cells)
    | (go_at_call 121; (first | refine (push_st hw (by omega) hS).mono ?_ | refine (push_st hw (by omega) (hS.alloc _)).mono ?_); rintro e wn ⟨rfl, hN⟩; clear hS; have hS := hN; clear hN; obtain ⟨z0, z1, z2, z3⟩ := hS.cells)
    | (go_at_call 122; (first | refine (want_st (by omega) (by omega) hw (by omega) hS).mono ?_ | refine (want_st (by omega) (by omega) hw (by omega) (hS.alloc _)).mono ?_); rintro e wn ⟨rfl, hN⟩; clear hS; have hS := hN; clear hN; obtain ⟨z0, z1, z2, z3⟩ := hS.cells)
    | (go_at_call 123; (first | refine (take_st hw (by omega) hS).mono ?_ | refine (take_st hw (by omega) (hS.alloc _)).mono ?_); rintro e wn ⟨rfl, hN⟩; clear hS; have hS := hN; clear hN; obtain ⟨z0, z1, z2, z3⟩ := hS.cells))
  go_end0
  exact ⟨rfl, by rw [HF.out]; exact (St.done (by omega) hS).forget⟩
theorem does_8a (w0 : World) (s : PS) (kind op a b : Int) (hk : 0 ≤ kind ∧ kind < 256) (ho : 0 ≤ op ∧ op < 256) (hK : kind % 16 = 8) (hO : op % 2 = 0) (hg : Good s) (hw : s.weight ≤ 200000) (w : World) (h : Prog w0 pr s w) :
    Calls Tryz.prog 44 #[.pointer (some ⟨w0.heap.size, 0, none⟩), .agg #[.int .u8 kind, .int .i64 a, .int .i64 b, .int .u8 op]] w fun e w' => e = .returned (.tuple #[]) ∧ Done w0 pr s (doesF s kind op a b) w' := by
  have HF : Hid (doesF s kind op a b = takeF (putF (wantF (pushF (putF s 35 0 0) 127) 126) 36 1 0)) := Lib.hid (by unfold doesF; rw [hK]; simp [hO])
  have hS := St.begin hg (step_box h (.cells #[.int .u8 kind, .int .i64 a, .int .i64 b, .int .u8 op] 102))
  clear h hg
  go_enter Tryz.func44, Tryz.ntmps44
  go_wp2_with (first
    | (go_at_call 47; (first | refine (put_st (by first | assumption | decide +kernel) hw (by omega) hS).mono ?_ | refine (put_st (by first | assumption | decide +kernel) hw (by omega) (hS.alloc _)).mono ?_); rintro e wn ⟨rfl, hN⟩; clear hS; have hS := hN; clear hN; obtain ⟨z0, z1, z2, z3⟩ := hS.cells)
    | (go_at_call 121; (first | refine (push_st hw (by omega) hS).mono ?_ | refine (push_st hw (by omega) (hS.alloc _)).mono ?_); rintro e wn ⟨rfl, hN⟩; clear hS; have hS := hN; clear hN; obtain ⟨z0, z1, z2, z3⟩ := hS.cells)
    | (go_at_call 122; (first | refine (want_st (by omega) (by omega) hw (by omega) hS).mono ?_ | refine (want_st (by omega) (by omega) hw (by omega) (hS.alloc _)).mono ?_); rintro e wn ⟨rfl, hN⟩; clear hS; have hS := hN; clear hN; obtain ⟨z0, z1, z2, z3⟩ := hS.cells)
    | (go_at_call 123; (first | refine (take_st hw (by omega) hS).mono ?_ | refine (take_st hw (by omega) (hS.alloc _)).mono ?_); rintro e wn ⟨rfl, hN⟩; clear hS; have hS := hN; clear hN; obtain ⟨z0, z1, z2, z3⟩ := hS.cells))
  go_end0
  exact ⟨rfl, by rw [HF.out]; exact (St.done (by omega) hS).forget⟩
theorem does_8b (w0 : World) (s : PS) (kind op a b : Int) (hk : 0 ≤ kind ∧ kind < 256) (ho : 0 ≤ op ∧ op < 256) (hK : kind % 16 = 8) (hO : op % 2 = 1) (hg : Good s) (hw : s.weight ≤ 200000) (w : World) (h : Prog w0 pr s w) :
    Calls Tryz.prog 44 #[.pointer (some ⟨w0.heap.size, 0, none⟩), .agg #[.int .u8 kind, .int .i64 a, .int .i64 b, .int .u8 op]] w fun e w' => e = .returned (.tuple #[]) ∧ Done w0 pr s (doesF s kind op a b) w' := by
  have HF : Hid (doesF s kind op a b = takeF (putF (wantF (pushF (putF s 35 1 0) 126) 126) 36 1 0)) := Lib.hid (by unfold doesF; rw [hK]; simp [hO])
  have hS := St.begin hg (step_box h (.cells #[.int .u8 kind, .int .i64 a, .int .i64 b, .int .u8 op] 102))
  clear h hg
  go_enter Tryz.func44, Tryz.ntmps44
  go_wp2_with (first
    | (go_at_call 47; (first | refine (put_st (by first | assumption | decide +kernel) hw (by omega) hS).mono ?_ | refine (put_st (by first | assumption | decide +kernel) hw (by omega) (hS.alloc _)).mono ?_); rintro e wn ⟨rfl, hN⟩; clear hS; have hS := hN; clear hN; obtain ⟨z0, z1, z2, z3⟩ := hS.cells)
    | (go_at_call 121; (first | refine (push_st hw (by omega) hS).mono ?_ | refine (push_st hw (by omega) (hS.alloc _)).mono ?_); rintro e wn ⟨rfl, hN⟩; clear hS; have hS := hN; clear hN; obtain ⟨z0, z1, z2, z3⟩ := hS.cells)
    | (go_at_call 122; (first | refine (want_st (by omega) (by omega) hw (by omega) hS).mono ?_ | refine (want_st (by omega) (by omega) hw (by omega) (hS.alloc _)).mono ?_); rintro e wn ⟨rfl, hN⟩; clear hS; have hS := hN; clear hN; obtain ⟨z0, z1, z2, z3⟩ := hS.cells)
    | (go_at_call 123; (first | refine (take_st hw (by omega) hS).mono ?_ | refine (take_st hw (by omega) (hS.alloc _)).mono ?_); rintro e wn ⟨rfl, hN⟩; clear hS; have hS := hN; clear hN; obtain ⟨z0, z1, z2, z3⟩ := hS.cells))
  go_end0
  exact ⟨rfl, by rw [HF.out]; exact (St.done (by omega) hS).forget⟩
theorem does_15a (w0 : World) (s : PS) (kind op a b : Int) (hk : 0 ≤ kind ∧ kind < 256) (ho : 0 ≤ op ∧ op < 256) (hK : kind % 16 = 15) (hO : op % 3 = 0) (hg : Good s) (hw : s.weight ≤ 200000) (w : World) (h : Prog w0 pr s w) :
    Calls Tryz.prog 44 #[.pointer (some ⟨w0.heap.size, 0, none⟩), .agg #[.int .u8 kind, .int .i64 a, .int .i64 b, .int .u8 op]] w fun e w' => e = .returned (.tuple #[]) ∧ Done w0 pr s (doesF s kind op a b) w' := by
  have HF : Hid (doesF s kind op a b = pushF (putF s 63 0 0) 127) := Lib.hid (by unfold doesF; rw [hK]; simp [hO])
  have hS := St.begin hg (step_box h (.cells #[.int .u8 kind, .int .i64 a, .int .i64 b, .int .u8 op] 102))
  clear h hg
  go_enter Tryz.func44, Tryz.ntmps44
  go_wp2_with (first
    | (go_at_call 47; (first | refine (put_st (by first | assumption | decide +kernel) hw (by omega) hS).mono ?_ | refine (put_st (by first | assumption | decide +kernel) hw (by omega) (hS.alloc _)).mono ?_); rintro e wn ⟨rfl, hN⟩; clear hS; have hS := hN; clear hN; obtain ⟨z0, z1, z2, z3⟩ := hS.cells)
    | (go_at_call 121; (first | refine (push_st hw (by omega) hS).mono ?_ | refine (push_st hw (by omega) (hS.alloc _)).mono ?_); rintro e wn ⟨rfl, hN⟩; clear hS; have hS := hN; clear hN; obtain ⟨z0, z1, z2, z3⟩ := hS.cells)
    | (go_at_call 122; (first | refine (want_st (by omega) (by omega) hw (by omega) hS).mono ?_ | refine (want_st (by omega) (by omega) hw (by omega) (hS.alloc _)).mono ?_); rintro e wn ⟨rfl, hN⟩; clear hS; have hS := hN; clear hN; obtain ⟨z0, z1, z2, z3⟩ := hS.cells)
    | (go_at_call 123; (first | refine (take_st hw (by omega) hS).mono ?_ | refine (take_st hw (by omega) (hS.alloc _)).mono ?_); rintro e wn ⟨rfl, hN⟩; clear hS; have hS := hN; clear hN; obtain ⟨z0, z1, z2, z3⟩ := hS.cells))
  go_end0
  exact ⟨rfl, by rw [HF.out]; exact (St.done (by omega) hS).forget⟩
theorem does_15b (w0 : World) (s : PS) (kind op a b : Int) (hk : 0 ≤ kind ∧ kind < 256) (ho : 0 ≤ op ∧ op < 256) (hK : kind % 16 = 15) (hO : op % 3 = 1) (hg : Good s) (hw : s.weight ≤ 200000) (w : World) (h : Prog w0 pr s w) :
    Calls Tryz.prog 44 #[.pointer (some ⟨w0.heap.size, 0, none⟩), .agg #[.int .u8 kind, .int .i64 a, .int .i64 b, .int .u8 op]] w fun e w' => e = .returned (.tuple #[]) ∧ Done w0 pr s (doesF s kind op a b) w' := by
  have HF : Hid (doesF s kind op a b = putF s 1 0 0) := Lib.hid (by unfold doesF; rw [hK]; simp [hO])
  have hS := St.begin hg (step_box h (.cells #[.int .u8 kind, .int .i64 a, .int .i64 b, .int .u8 op] 102))
  clear h hg
  go_enter Tryz.func44, Tryz.ntmps44
  go_wp2_with (first
    | (go_at_call 47; (first | refine (put_st (by first | assumption | decide +kernel) hw (by omega) hS).mono ?_ | refine (put_st (by first | assumption | decide +kernel) hw (by omega) (hS.alloc _)).mono ?_); rintro e wn ⟨rfl, hN⟩; clear hS; have hS := hN; clear hN; obtain ⟨z0, z1, z2, z3⟩ := hS.cells)
    | (go_at_call 121; (first | refine (push_st hw (by omega) hS).mono ?_ | refine (push_st hw (by omega) (hS.alloc _)).mono ?_); rintro e wn ⟨rfl, hN⟩; clear hS; have hS := hN; clear hN; obtain ⟨z0, z1, z2, z3⟩ := hS.cells)
    | (go_at_call 122; (first | refine (want_st (by omega) (by omega) hw (by omega) hS).mono ?_ | refine (want_st (by omega) (by omega) hw (by omega) (hS.alloc _)).mono ?_); rintro e wn ⟨rfl, hN⟩; clear hS; have hS := hN; clear hN; obtain ⟨z0, z1, z2, z3⟩ := hS.cells)
    | (go_at_call 123; (first | refine (take_st hw (by omega) hS).mono ?_ | refine (take_st hw (by omega) (hS.alloc _)).mono ?_); rintro e wn ⟨rfl, hN⟩; clear hS; have hS := hN; clear hN; obtain ⟨z0, z1, z2, z3⟩ := hS.cells))
  go_end0
  exact ⟨rfl, by rw [HF.out]; exact (St.done (by omega) hS).forget⟩
theorem does_15c (w0 : World) (s : PS) (kind op a b : Int) (hk : 0 ≤ kind ∧ kind < 256) (ho : 0 ≤ op ∧ op < 256) (hK : kind % 16 = 15) (hO : op % 3 = 2) (hg : Good s) (hw : s.weight ≤ 200000) (w : World) (h : Prog w0 pr s w) :
    Calls Tryz.prog 44 #[.pointer (some ⟨w0.heap.size, 0, none⟩), .agg #[.int .u8 kind, .int .i64 a, .int .i64 b, .int .u8 op]] w fun e w' => e = .returned (.tuple #[]) ∧ Done w0 pr s (doesF s kind op a b) w' := by
  have HF : Hid (doesF s kind op a b = putF (pushF (putF s 63 0 0) 127) 64 0 0) := Lib.hid (by unfold doesF; rw [hK]; simp [hO])
  have hS := St.begin hg (step_box h (.cells #[.int .u8 kind, .int .i64 a, .int .i64 b, .int .u8 op] 102))
  clear h hg
  go_enter Tryz.func44, Tryz.ntmps44
  go_wp2_with (first
    | (go_at_call 47; (first | refine (put_st (by first | assumption | decide +kernel) hw (by omega) hS).mono ?_ | refine (put_st (by first | assumption | decide +kernel) hw (by omega) (hS.alloc _)).mono ?_); rintro e wn ⟨rfl, hN⟩; clear hS; have hS := hN; clear hN; obtain ⟨z0, z1, z2, z3⟩ := hS.cells)
    | (go_at_call 121; (first | refine (push_st hw (by omega) hS).mono ?_ | refine (push_st hw (by omega) (hS.alloc _)).mono ?_); rintro e wn ⟨rfl, hN⟩; clear hS; have hS := hN; clear hN; obtain ⟨z0, z1, z2, z3⟩ := hS.cells)
    | (go_at_call 122; (first | refine (want_st (by omega) (by omega) hw (by omega) hS).mono ?_ | refine (want_st (by omega) (by omega) hw (by omega) (hS.alloc _)).mono ?_); rintro e wn ⟨rfl, hN⟩; clear hS; have hS := hN; clear hN; obtain ⟨z0, z1, z2, z3⟩ := hS.cells)
    | (go_at_call 123; (first | refine (take_st hw (by omega) hS).mono ?_ | refine (take_st hw (by omega) (hS.alloc _)).mono ?_); rintro e wn ⟨rfl, hN⟩; clear hS; have hS := hN; clear hN; obtain ⟨z0, z1, z2, z3⟩ := hS.cells))
  go_end0
  exact ⟨rfl, by rw [HF.out]; exact (St.done (by omega) hS).forget⟩
end Go.Proofs.YthfipknfdnfalaaGreatDoor
namespace Go.Proofs.YthfipknfdnfalaaGreatDoor
set_option maxRecDepth 100000
set_option maxHeartbeats 16000000
open Go.RowKit
variable {pr : List (Nat × Obj)}
theorem and17 (n : Int) : bits .and .i64 n 131071 = n % 131072 := by
  have h1 : (BitVec.ofInt 64 131071).toNat = 2 ^ 17 - 1 := by decide
  have key : (BitVec.ofInt 64 n &&& BitVec.ofInt 64 131071).toNat = (n % ((2 ^ 64 : Nat) : Int)).toNat % 2 ^ 17 := by
    rw [BitVec.toNat_and, BitVec.toNat_ofInt, h1, Nat.and_two_pow_sub_one_eq_mod]
  show IntKind.i64.wrap ((BitVec.ofInt 64 n &&& BitVec.ofInt 64 131071).toNat : Nat) = n % 131072
  rw [key, IntKind.wrap_i64]
  omega
theorem low17 (b : Int) : 0 ≤ bits .and .i64 b 131071 ∧ bits .and .i64 b 131071 < 131072 := by rw [and17]; omega
theorem does_9a (w0 : World) (s : PS) (kind op a b : Int) (hk : 0 ≤ kind ∧ kind < 256) (ho : 0 ≤ op ∧ op < 256) (hK : kind % 16 = 9) (hO : op % 3 = 0) (hg : Good s) (hw : s.weight ≤ 200000) (w : World) (h : Prog w0 pr s w) :
    Calls Tryz.prog 44 #[.pointer (some ⟨w0.heap.size, 0, none⟩), .agg #[.int .u8 kind, .int .i64 a, .int .i64 b, .int .u8 op]] w fun e w' => e = .returned (.tuple #[]) ∧ Done w0 pr s (doesF s kind op a b) w' := by
  have HF : Hid (doesF s kind op a b = putF (wantF s 127) 40 0 (bits .and .i64 b 131071)) := Lib.hid (by unfold doesF; rw [hK]; simp [hO])
  have hS := St.begin hg (step_box h (.cells #[.int .u8 kind, .int .i64 a, .int .i64 b, .int .u8 op] 102))
  clear h hg
  have ok1 := ok_two 40 0 (bits .and .i64 b 131071) (by kernel_rfl) (by omega) (by omega) (by have := low17 b; omega)
  go_enter Tryz.func44, Tryz.ntmps44
  go_wp2_with (first
    | (go_at_call 47; (first | refine (put_st (by first | assumption | decide +kernel) hw (by omega) hS).mono ?_ | refine (put_st (by first | assumption | decide +kernel) hw (by omega) (hS.alloc _)).mono ?_); rintro e wn ⟨rfl, hN⟩; clear hS; have hS := hN; clear hN; obtain ⟨z0, z1, z2, z3⟩ := hS.cells)
    | (go_at_call 121; (first | refine (push_st hw (by omega) hS).mono ?_ | refine (push_st hw (by omega) (hS.alloc _)).mono ?_); rintro e wn ⟨rfl, hN⟩; clear hS; have hS := hN; clear hN; obtain ⟨z0, z1, z2, z3⟩ := hS.cells)
    | (go_at_call 122; (first | refine (want_st (by omega) (by omega) hw (by omega) hS).mono ?_ | refine (want_st (by omega) (by omega) hw (by omega) (hS.alloc _)).mono ?_); rintro e wn ⟨rfl, hN⟩; clear hS; have hS := hN; clear hN; obtain ⟨z0, z1, z2, z3⟩ := hS.cells)
    | (go_at_call 123; (first | refine (take_st hw (by omega) hS).mono ?_ | refine (take_st hw (by omega) (hS.alloc _)).mono ?_); rintro e wn ⟨rfl, hN⟩; clear hS; have hS := hN; clear hN; obtain ⟨z0, z1, z2, z3⟩ := hS.cells))
  go_end0
  exact ⟨rfl, by rw [HF.out]; exact (St.done (by omega) hS).forget⟩
theorem does_9b (w0 : World) (s : PS) (kind op a b : Int) (hk : 0 ≤ kind ∧ kind < 256) (ho : 0 ≤ op ∧ op < 256) (hK : kind % 16 = 9) (hO : op % 3 = 1) (hg : Good s) (hw : s.weight ≤ 200000) (w : World) (h : Prog w0 pr s w) :
    Calls Tryz.prog 44 #[.pointer (some ⟨w0.heap.size, 0, none⟩), .agg #[.int .u8 kind, .int .i64 a, .int .i64 b, .int .u8 op]] w fun e w' => e = .returned (.tuple #[]) ∧ Done w0 pr s (doesF s kind op a b) w' := by
  have HF : Hid (doesF s kind op a b = putF (wantF s 127) 40 1 (bits .and .i64 b 131071)) := Lib.hid (by unfold doesF; rw [hK]; simp [hO])
  have hS := St.begin hg (step_box h (.cells #[.int .u8 kind, .int .i64 a, .int .i64 b, .int .u8 op] 102))
  clear h hg
  have ok1 := ok_two 40 1 (bits .and .i64 b 131071) (by kernel_rfl) (by omega) (by omega) (by have := low17 b; omega)
  go_enter Tryz.func44, Tryz.ntmps44
  go_wp2_with (first
    | (go_at_call 47; (first | refine (put_st (by first | assumption | decide +kernel) hw (by omega) hS).mono ?_ | refine (put_st (by first | assumption | decide +kernel) hw (by omega) (hS.alloc _)).mono ?_); rintro e wn ⟨rfl, hN⟩; clear hS; have hS := hN; clear hN; obtain ⟨z0, z1, z2, z3⟩ := hS.cells)
    | (go_at_call 121; (first | refine (push_st hw (by omega) hS).mono ?_ | refine (push_st hw (by omega) (hS.alloc _)).mono ?_); rintro e wn ⟨rfl, hN⟩; clear hS; have hS := hN; clear hN; obtain ⟨z0, z1, z2, z3⟩ := hS.cells)
    | (go_at_call 122; (first | refine (want_st (by omega) (by omega) hw (by omega) hS).mono ?_ | refine (want_st (by omega) (by omega) hw (by omega) (hS.alloc _)).mono ?_); rintro e wn ⟨rfl, hN⟩; clear hS; have hS := hN; clear hN; obtain ⟨z0, z1, z2, z3⟩ := hS.cells)
    | (go_at_call 123; (first | refine (take_st hw (by omega) hS).mono ?_ | refine (take_st hw (by omega) (hS.alloc _)).mono ?_); rintro e wn ⟨rfl, hN⟩; clear hS; have hS := hN; clear hN; obtain ⟨z0, z1, z2, z3⟩ := hS.cells))
  go_end0
  exact ⟨rfl, by rw [HF.out]; exact (St.done (by omega) hS).forget⟩
theorem does_9c (w0 : World) (s : PS) (kind op a b : Int) (hk : 0 ≤ kind ∧ kind < 256) (ho : 0 ≤ op ∧ op < 256) (hK : kind % 16 = 9) (hO : op % 3 = 2) (hg : Good s) (hw : s.weight ≤ 200000) (w : World) (h : Prog w0 pr s w) :
    Calls Tryz.prog 44 #[.pointer (some ⟨w0.heap.size, 0, none⟩), .agg #[.int .u8 kind, .int .i64 a, .int .i64 b, .int .u8 op]] w fun e w' => e = .returned (.tuple #[]) ∧ Done w0 pr s (doesF s kind op a b) w' := by
  have HF : Hid (doesF s kind op a b = putF (wantF s 127) 40 2 (bits .and .i64 b 131071)) := Lib.hid (by unfold doesF; rw [hK]; simp [hO])
  have hS := St.begin hg (step_box h (.cells #[.int .u8 kind, .int .i64 a, .int .i64 b, .int .u8 op] 102))
  clear h hg
  have ok1 := ok_two 40 2 (bits .and .i64 b 131071) (by kernel_rfl) (by omega) (by omega) (by have := low17 b; omega)
  go_enter Tryz.func44, Tryz.ntmps44
  go_wp2_with (first
    | (go_at_call 47; (first | refine (put_st (by first | assumption | decide +kernel) hw (by omega) hS).mono ?_ | refine (put_st (by first | assumption | decide +kernel) hw (by omega) (hS.alloc _)).mono ?_); rintro e wn ⟨rfl, hN⟩; clear hS; have hS := hN; clear hN; obtain ⟨z0, z1, z2, z3⟩ := hS.cells)
    | (go_at_call 121; (first | refine (push_st hw (by omega) hS).mono ?_ | refine (push_st hw (by omega) (hS.alloc _)).mono ?_); rintro e wn ⟨rfl, hN⟩; clear hS; have hS := hN; clear hN; obtain ⟨z0, z1, z2, z3⟩ := hS.cells)
    | (go_at_call 122; (first | refine (want_st (by omega) (by omega) hw (by omega) hS).mono ?_ | refine (want_st (by omega) (by omega) hw (by omega) (hS.alloc _)).mono ?_); rintro e wn ⟨rfl, hN⟩; clear hS; have hS := hN; clear hN; obtain ⟨z0, z1, z2, z3⟩ := hS.cells)
    | (go_at_call 123; (first | refine (take_st hw (by omega) hS).mono ?_ | refine (take_st hw (by omega) (hS.alloc _)).mono ?_); rintro e wn ⟨rfl, hN⟩; clear hS; have hS := hN; clear hN; obtain ⟨z0, z1, z2, z3⟩ := hS.cells))
  go_end0
  exact ⟨rfl, by rw [HF.out]; exact (St.done (by omega) hS).forget⟩
theorem does_10a (w0 : World) (s : PS) (kind op a b : Int) (hk : 0 ≤ kind ∧ kind < 256) (ho : 0 ≤ op ∧ op < 256) (hK : kind % 16 = 10) (hO : op % 3 = 0) (hg : Good s) (hw : s.weight ≤ 200000) (w : World) (h : Prog w0 pr s w) :
    Calls Tryz.prog 44 #[.pointer (some ⟨w0.heap.size, 0, none⟩), .agg #[.int .u8 kind, .int .i64 a, .int .i64 b, .int .u8 op]] w fun e w' => e = .returned (.tuple #[]) ∧ Done w0 pr s (doesF s kind op a b) w' := by
  have HF : Hid (doesF s kind op a b = takeF (putF (putF (wantF s 127) 32 0 0) 60 0 (bits .and .i64 b 131071))) := Lib.hid (by unfold doesF; rw [hK]; simp [hO])
  have hS := St.begin hg (step_box h (.cells #[.int .u8 kind, .int .i64 a, .int .i64 b, .int .u8 op] 102))
  clear h hg
  have ok1 := ok_two 60 0 (bits .and .i64 b 131071) (by kernel_rfl) (by omega) (by omega) (by have := low17 b; omega)
  go_enter Tryz.func44, Tryz.ntmps44
  go_wp2_with (first
    | (go_at_call 47; (first | refine (put_st (by first | assumption | decide +kernel) hw (by omega) hS).mono ?_ | refine (put_st (by first | assumption | decide +kernel) hw (by omega) (hS.alloc _)).mono ?_); rintro e wn ⟨rfl, hN⟩; clear hS; have hS := hN; clear hN; obtain ⟨z0, z1, z2, z3⟩ := hS.cells)
    | (go_at_call 121; (first | refine (push_st hw (by omega) hS).mono ?_ | refine (push_st hw (by omega) (hS.alloc _)).mono ?_); rintro e wn ⟨rfl, hN⟩; clear hS; have hS := hN; clear hN; obtain ⟨z0, z1, z2, z3⟩ := hS.cells)
    | (go_at_call 122; (first | refine (want_st (by omega) (by omega) hw (by omega) hS).mono ?_ | refine (want_st (by omega) (by omega) hw (by omega) (hS.alloc _)).mono ?_); rintro e wn ⟨rfl, hN⟩; clear hS; have hS := hN; clear hN; obtain ⟨z0, z1, z2, z3⟩ := hS.cells)
    | (go_at_call 123; (first | refine (take_st hw (by omega) hS).mono ?_ | refine (take_st hw (by omega) (hS.alloc _)).mono ?_); rintro e wn ⟨rfl, hN⟩; clear hS; have hS := hN; clear hN; obtain ⟨z0, z1, z2, z3⟩ := hS.cells))
  go_end0
  exact ⟨rfl, by rw [HF.out]; exact (St.done (by omega) hS).forget⟩
theorem does_10b (w0 : World) (s : PS) (kind op a b : Int) (hk : 0 ≤ kind ∧ kind < 256) (ho : 0 ≤ op ∧ op < 256) (hK : kind % 16 = 10) (hO : op % 3 = 1) (hg : Good s) (hw : s.weight ≤ 200000) (w : World) (h : Prog w0 pr s w) :
    Calls Tryz.prog 44 #[.pointer (some ⟨w0.heap.size, 0, none⟩), .agg #[.int .u8 kind, .int .i64 a, .int .i64 b, .int .u8 op]] w fun e w' => e = .returned (.tuple #[]) ∧ Done w0 pr s (doesF s kind op a b) w' := by
  have HF : Hid (doesF s kind op a b = takeF (putF (putF (wantF s 127) 32 0 0) 61 0 (bits .and .i64 b 131071))) := Lib.hid (by unfold doesF; rw [hK]; simp [hO])
  have hS := St.begin hg (step_box h (.cells #[.int .u8 kind, .int .i64 a, .int .i64 b, .int .u8 op] 102))
  clear h hg
  have ok1 := ok_two 61 0 (bits .and .i64 b 131071) (by kernel_rfl) (by omega) (by omega) (by have := low17 b; omega)
  go_enter Tryz.func44, Tryz.ntmps44
  go_wp2_with (first
    | (go_at_call 47; (first | refine (put_st (by first | assumption | decide +kernel) hw (by omega) hS).mono ?_ | refine (put_st (by first | assumption | decide +kernel) hw (by omega) (hS.alloc _)).mono ?_); rintro e wn ⟨rfl, hN⟩; clear hS; have hS := hN; clear hN; obtain ⟨z0, z1, z2, z3⟩ := hS.cells)
    | (go_at_call 121; (first | refine (push_st hw (by omega) hS).mono ?_ | refine (push_st hw (by omega) (hS.alloc _)).mono ?_); rintro e wn ⟨rfl, hN⟩; clear hS; have hS := hN; clear hN; obtain ⟨z0, z1, z2, z3⟩ := hS.cells)
    | (go_at_call 122; (first | refine (want_st (by omega) (by omega) hw (by omega) hS).mono ?_ | refine (want_st (by omega) (by omega) hw (by omega) (hS.alloc _)).mono ?_); rintro e wn ⟨rfl, hN⟩; clear hS; have hS := hN; clear hN; obtain ⟨z0, z1, z2, z3⟩ := hS.cells)
    | (go_at_call 123; (first | refine (take_st hw (by omega) hS).mono ?_ | refine (take_st hw (by omega) (hS.alloc _)).mono ?_); rintro e wn ⟨rfl, hN⟩; clear hS; have hS := hN; clear hN; obtain ⟨z0, z1, z2, z3⟩ := hS.cells))
  go_end0
  exact ⟨rfl, by rw [HF.out]; exact (St.done (by omega) hS).forget⟩
theorem does_10c (w0 : World) (s : PS) (kind op a b : Int) (hk : 0 ≤ kind ∧ kind < 256) (ho : 0 ≤ op ∧ op < 256) (hK : kind % 16 = 10) (hO : op % 3 = 2) (hg : Good s) (hw : s.weight ≤ 200000) (w : World) (h : Prog w0 pr s w) :
    Calls Tryz.prog 44 #[.pointer (some ⟨w0.heap.size, 0, none⟩), .agg #[.int .u8 kind, .int .i64 a, .int .i64 b, .int .u8 op]] w fun e w' => e = .returned (.tuple #[]) ∧ Done w0 pr s (doesF s kind op a b) w' := by
  have HF : Hid (doesF s kind op a b = takeF (putF (putF (wantF s 127) 32 0 0) 62 0 (bits .and .i64 b 131071))) := Lib.hid (by unfold doesF; rw [hK]; simp [hO])
  have hS := St.begin hg (step_box h (.cells #[.int .u8 kind, .int .i64 a, .int .i64 b, .int .u8 op] 102))
  clear h hg
  have ok1 := ok_two 62 0 (bits .and .i64 b 131071) (by kernel_rfl) (by omega) (by omega) (by have := low17 b; omega)
  go_enter Tryz.func44, Tryz.ntmps44
  go_wp2_with (first
    | (go_at_call 47; (first | refine (put_st (by first | assumption | decide +kernel) hw (by omega) hS).mono ?_ | refine (put_st (by first | assumption | decide +kernel) hw (by omega) (hS.alloc _)).mono ?_); rintro e wn ⟨rfl, hN⟩; clear hS; have hS := hN; clear hN; obtain ⟨z0, z1, z2, z3⟩ := hS.cells)
    | (go_at_call 121; (first | refine (push_st hw (by omega) hS).mono ?_ | refine (push_st hw (by omega) (hS.alloc _)).mono ?_); rintro e wn ⟨rfl, hN⟩; clear hS; have hS := hN; clear hN; obtain ⟨z0, z1, z2, z3⟩ := hS.cells)
    | (go_at_call 122; (first | refine (want_st (by omega) (by omega) hw (by omega) hS).mono ?_ | refine (want_st (by omega) (by omega) hw (by omega) (hS.alloc _)).mono ?_); rintro e wn ⟨rfl, hN⟩; clear hS; have hS := hN; clear hN; obtain ⟨z0, z1, z2, z3⟩ := hS.cells)
    | (go_at_call 123; (first | refine (take_st hw (by omega) hS).mono ?_ | refine (take_st hw (by omega) (hS.alloc _)).mono ?_); rintro e wn ⟨rfl, hN⟩; clear hS; have hS := hN; clear hN; obtain ⟨z0, z1, z2, z3⟩ := hS.cells))
  go_end0
  exact ⟨rfl, by rw [HF.out]; exact (St.done (by omega) hS).forget⟩
end Go.Proofs.YthfipknfdnfalaaGreatDoor
namespace Go.Proofs.YthfipknfdnfalaaGreatDoor
set_option maxRecDepth 100000
set_option maxHeartbeats 16000000
open Go.RowKit
variable {pr : List (Nat × Obj)}
theorem does_12a (w0 : World) (s : PS) (kind op a b : Int) (hk : 0 ≤ kind ∧ kind < 256) (ho : 0 ≤ op ∧ op < 256) (hK : kind % 16 = 12) (hO : op % 2 = 0) (hg : Good s) (hw : s.weight ≤ 200000) (w : World) (h : Prog w0 pr s w) :
    Calls Tryz.prog 44 #[.pointer (some ⟨w0.heap.size, 0, none⟩), .agg #[.int .u8 kind, .int .i64 a, .int .i64 b, .int .u8 op]] w fun e w' => e = .returned (.tuple #[]) ∧ Done w0 pr s (doesF s kind op a b) w' := by
  have HF : Hid (doesF s kind op a b = opensF (takeF (wantF s 127)) 4 64) := Lib.hid (by unfold doesF; rw [hK]; rfl)
  have hS := St.begin hg (step_box h (.cells #[.int .u8 kind, .int .i64 a, .int .i64 b, .int .u8 op] 102))
  clear h hg
  go_enter Tryz.func44, Tryz.ntmps44
  go_wp2_with (first
    | (go_at_call 47; (first | refine (put_st (by first | assumption | decide +kernel) hw (by omega) hS).mono ?_ | refine (put_st (by first | assumption | decide +kernel) hw (by omega) (hS.alloc _)).mono ?_); rintro e wn ⟨rfl, hN⟩; clear hS; have hS := hN; clear hN; obtain ⟨z0, z1, z2, z3⟩ := hS.cells)
    | (go_at_call 124; refine (opens_st (by omega) (by omega) hw (by omega) hS).mono ?_; rintro e wn ⟨rfl, hD⟩)
    | (go_at_call 121; (first | refine (push_st hw (by omega) hS).mono ?_ | refine (push_st hw (by omega) (hS.alloc _)).mono ?_); rintro e wn ⟨rfl, hN⟩; clear hS; have hS := hN; clear hN; obtain ⟨z0, z1, z2, z3⟩ := hS.cells)
    | (go_at_call 122; (first | refine (want_st (by omega) (by omega) hw (by omega) hS).mono ?_ | refine (want_st (by omega) (by omega) hw (by omega) (hS.alloc _)).mono ?_); rintro e wn ⟨rfl, hN⟩; clear hS; have hS := hN; clear hN; obtain ⟨z0, z1, z2, z3⟩ := hS.cells)
    | (go_at_call 123; (first | refine (take_st hw (by omega) hS).mono ?_ | refine (take_st hw (by omega) (hS.alloc _)).mono ?_); rintro e wn ⟨rfl, hN⟩; clear hS; have hS := hN; clear hN; obtain ⟨z0, z1, z2, z3⟩ := hS.cells))
  go_end0
  exact ⟨rfl, by rw [HF.out]; exact hD.forget⟩
theorem does_12b (w0 : World) (s : PS) (kind op a b : Int) (hk : 0 ≤ kind ∧ kind < 256) (ho : 0 ≤ op ∧ op < 256) (hK : kind % 16 = 12) (hO : op % 2 = 1) (hg : Good s) (hw : s.weight ≤ 200000) (w : World) (h : Prog w0 pr s w) :
    Calls Tryz.prog 44 #[.pointer (some ⟨w0.heap.size, 0, none⟩), .agg #[.int .u8 kind, .int .i64 a, .int .i64 b, .int .u8 op]] w fun e w' => e = .returned (.tuple #[]) ∧ Done w0 pr s (doesF s kind op a b) w' := by
  have HF : Hid (doesF s kind op a b = opensF (takeF (wantF s 127)) 4 64) := Lib.hid (by unfold doesF; rw [hK]; rfl)
  have hS := St.begin hg (step_box h (.cells #[.int .u8 kind, .int .i64 a, .int .i64 b, .int .u8 op] 102))
  clear h hg
  go_enter Tryz.func44, Tryz.ntmps44
  go_wp2_with (first
    | (go_at_call 47; (first | refine (put_st (by first | assumption | decide +kernel) hw (by omega) hS).mono ?_ | refine (put_st (by first | assumption | decide +kernel) hw (by omega) (hS.alloc _)).mono ?_); rintro e wn ⟨rfl, hN⟩; clear hS; have hS := hN; clear hN; obtain ⟨z0, z1, z2, z3⟩ := hS.cells)
    | (go_at_call 124; refine (opens_st (by omega) (by omega) hw (by omega) hS).mono ?_; rintro e wn ⟨rfl, hD⟩)
    | (go_at_call 121; (first | refine (push_st hw (by omega) hS).mono ?_ | refine (push_st hw (by omega) (hS.alloc _)).mono ?_); rintro e wn ⟨rfl, hN⟩; clear hS; have hS := hN; clear hN; obtain ⟨z0, z1, z2, z3⟩ := hS.cells)
    | (go_at_call 122; (first | refine (want_st (by omega) (by omega) hw (by omega) hS).mono ?_ | refine (want_st (by omega) (by omega) hw (by omega) (hS.alloc _)).mono ?_); rintro e wn ⟨rfl, hN⟩; clear hS; have hS := hN; clear hN; obtain ⟨z0, z1, z2, z3⟩ := hS.cells)
    | (go_at_call 123; (first | refine (take_st hw (by omega) hS).mono ?_ | refine (take_st hw (by omega) (hS.alloc _)).mono ?_); rintro e wn ⟨rfl, hN⟩; clear hS; have hS := hN; clear hN; obtain ⟨z0, z1, z2, z3⟩ := hS.cells))
  go_end0
  exact ⟨rfl, by rw [HF.out]; exact hD.forget⟩
theorem does_14a (w0 : World) (s : PS) (kind op a b : Int) (hk : 0 ≤ kind ∧ kind < 256) (ho : 0 ≤ op ∧ op < 256) (hK : kind % 16 = 14) (hO : op % 2 = 0) (hg : Good s) (hw : s.weight ≤ 200000) (w : World) (h : Prog w0 pr s w) :
    Calls Tryz.prog 44 #[.pointer (some ⟨w0.heap.size, 0, none⟩), .agg #[.int .u8 kind, .int .i64 a, .int .i64 b, .int .u8 op]] w fun e w' => e = .returned (.tuple #[]) ∧ Done w0 pr s (doesF s kind op a b) w' := by
  have hF : doesF s kind op a b = jumpsF s op.toNat := by unfold doesF; rw [hK]; rfl
  obtain ⟨n, rfl⟩ : ∃ n : Nat, op = n := ⟨op.toNat, by omega⟩
  rw [Int.toNat_natCast] at hF
  have hS := step_box h (.cells #[.int .u8 kind, .int .i64 a, .int .i64 b, .int .u8 n] 102)
  clear h
  have HF := Lib.hid hF
  clear hF
  go_enter Tryz.func44, Tryz.ntmps44
  go_wp2_with (go_at_call 125; refine (jumps_st n (by omega) hg hw hS).mono ?_; rintro e wn ⟨rfl, hD⟩)
  go_end0
  exact ⟨rfl, by rw [HF.out]; exact hD.forget⟩
theorem does_14b (w0 : World) (s : PS) (kind op a b : Int) (hk : 0 ≤ kind ∧ kind < 256) (ho : 0 ≤ op ∧ op < 256) (hK : kind % 16 = 14) (hO : op % 2 = 1) (hg : Good s) (hw : s.weight ≤ 200000) (w : World) (h : Prog w0 pr s w) :
    Calls Tryz.prog 44 #[.pointer (some ⟨w0.heap.size, 0, none⟩), .agg #[.int .u8 kind, .int .i64 a, .int .i64 b, .int .u8 op]] w fun e w' => e = .returned (.tuple #[]) ∧ Done w0 pr s (doesF s kind op a b) w' := by
  have hF : doesF s kind op a b = jumpsF s op.toNat := by unfold doesF; rw [hK]; rfl
  obtain ⟨n, rfl⟩ : ∃ n : Nat, op = n := ⟨op.toNat, by omega⟩
  rw [Int.toNat_natCast] at hF
  have hS := step_box h (.cells #[.int .u8 kind, .int .i64 a, .int .i64 b, .int .u8 n] 102)
  clear h
  have HF := Lib.hid hF
  clear hF
  go_enter Tryz.func44, Tryz.ntmps44
  go_wp2_with (go_at_call 125; refine (jumps_st n (by omega) hg hw hS).mono ?_; rintro e wn ⟨rfl, hD⟩)
  go_end0
  exact ⟨rfl, by rw [HF.out]; exact hD.forget⟩
variable {pr : List (Nat × Obj)}
theorem St.drew {w0 w : World} {s f : PS} {d k : Nat} (h : St w0 pr s f d k w) : St w0 pr s f d k w.drew := by
  obtain ⟨h1, h2, h3, h4, cv, sv, ov, h5⟩ := h
  exact ⟨h1, h2, h3, h4, cv, sv, ov, h5.drew⟩
theorem St.drewN {w0 w : World} {s f : PS} {d k : Nat} (h : St w0 pr s f d k w) (q : Nat) : St w0 pr s f d k (w.drewN q) := by
  obtain ⟨h1, h2, h3, h4, cv, sv, ov, h5⟩ := h
  exact ⟨h1, h2, h3, h4, cv, sv, ov, h5.drewN q⟩
theorem does_11a (w0 : World) (s : PS) (kind op a b : Int) (hk : 0 ≤ kind ∧ kind < 256) (ho : 0 ≤ op ∧ op < 256) (hK : kind % 16 = 11) (hO : op % 2 = 0) (hO3 : op / 2 % 3 = 0) (hg : Good s) (hw : s.weight ≤ 200000) (w : World) (h : Prog w0 pr s w) :
    Calls Tryz.prog 44 #[.pointer (some ⟨w0.heap.size, 0, none⟩), .agg #[.int .u8 kind, .int .i64 a, .int .i64 b, .int .u8 op]] w fun e w' => e = .returned (.tuple #[]) ∧ Done w0 pr s (doesF s kind op a b) w' := by
  have HF : Hid (doesF s kind op a b = opensF s 2 64) := Lib.hid (by unfold doesF; rw [hK]; simp [hO, hO3])
  have hS := St.begin hg (step_box h (.cells #[.int .u8 kind, .int .i64 a, .int .i64 b, .int .u8 op] 102))
  clear h hg
  have hE : (IntKind.u8.wrap (op.tdiv 2)).tmod 3 = 0 := by
    rw [show IntKind.u8.wrap (op.tdiv 2) = op / 2 by rw [Int.tdiv_eq_ediv_of_nonneg ho.1, IntKind.wrap_u8]; omega, Int.tmod_eq_emod_of_nonneg (by omega)]; exact hO3
  have hM : IntKind.i64.wrap (2 + (IntKind.i64.wrap op).tmod 2) = 2 := by
    rw [show IntKind.i64.wrap op = op by rw [IntKind.wrap_i64]; omega, Int.tmod_eq_emod_of_nonneg ho.1, hO]; decide
  go_enter Tryz.func44, Tryz.ntmps44
  go_wp2
  go_region_with (go_at_call 124; refine (opens_st (by omega) (by omega) hw (by omega) ((hS.alloc _).drew)).mono ?_; rintro e wn ⟨rfl, hD⟩)
  all_goals (go_wp2; go_end0; exact ⟨rfl, by rw [HF.out]; exact hD.forget⟩)
theorem does_11b (w0 : World) (s : PS) (kind op a b : Int) (hk : 0 ≤ kind ∧ kind < 256) (ho : 0 ≤ op ∧ op < 256) (hK : kind % 16 = 11) (hO : op % 2 = 1) (hO3 : op / 2 % 3 = 0) (hg : Good s) (hw : s.weight ≤ 200000) (w : World) (h : Prog w0 pr s w) :
    Calls Tryz.prog 44 #[.pointer (some ⟨w0.heap.size, 0, none⟩), .agg #[.int .u8 kind, .int .i64 a, .int .i64 b, .int .u8 op]] w fun e w' => e = .returned (.tuple #[]) ∧ Done w0 pr s (doesF s kind op a b) w' := by
  have HF : Hid (doesF s kind op a b = opensF s 3 64) := Lib.hid (by unfold doesF; rw [hK]; simp [hO, hO3])
  have hS := St.begin hg (step_box h (.cells #[.int .u8 kind, .int .i64 a, .int .i64 b, .int .u8 op] 102))
  clear h hg
  have hE : (IntKind.u8.wrap (op.tdiv 2)).tmod 3 = 0 := by
    rw [show IntKind.u8.wrap (op.tdiv 2) = op / 2 by rw [Int.tdiv_eq_ediv_of_nonneg ho.1, IntKind.wrap_u8]; omega, Int.tmod_eq_emod_of_nonneg (by omega)]; exact hO3
  have hM : IntKind.i64.wrap (2 + (IntKind.i64.wrap op).tmod 2) = 3 := by
    rw [show IntKind.i64.wrap op = op by rw [IntKind.wrap_i64]; omega, Int.tmod_eq_emod_of_nonneg ho.1, hO]; decide
  go_enter Tryz.func44, Tryz.ntmps44
  go_wp2
  go_region_with (go_at_call 124; refine (opens_st (by omega) (by omega) hw (by omega) ((hS.alloc _).drew)).mono ?_; rintro e wn ⟨rfl, hD⟩)
  all_goals (go_wp2; go_end0; exact ⟨rfl, by rw [HF.out]; exact hD.forget⟩)
end Go.Proofs.YthfipknfdnfalaaGreatDoor
namespace Go.Proofs.YthfipknfdnfalaaGreatDoor
set_option maxRecDepth 100000
set_option maxHeartbeats 16000000
open Go.RowKit
variable {pr : List (Nat × Obj)}
theorem does_11c (w0 : World) (s : PS) (kind op a b : Int) (hk : 0 ≤ kind ∧ kind < 256) (ho : 0 ≤ op ∧ op < 256) (hK : kind % 16 = 11) (hO : op % 2 = 0) (hO3 : op / 2 % 3 = 1) (hg : Good s) (hw : s.weight ≤ 200000) (w : World) (h : Prog w0 pr s w) :
    Calls Tryz.prog 44 #[.pointer (some ⟨w0.heap.size, 0, none⟩), .agg #[.int .u8 kind, .int .i64 a, .int .i64 b, .int .u8 op]] w fun e w' => e = .returned (.tuple #[]) ∧ Done w0 pr s (doesF s kind op a b) w' := by
  have HF : Hid (doesF s kind op a b = opensF s 2 127) := Lib.hid (by unfold doesF; rw [hK]; simp [hO, hO3])
  have hS := St.begin hg (step_box h (.cells #[.int .u8 kind, .int .i64 a, .int .i64 b, .int .u8 op] 102))
  clear h hg
  have hE : (IntKind.u8.wrap (op.tdiv 2)).tmod 3 = 1 := by
    rw [show IntKind.u8.wrap (op.tdiv 2) = op / 2 by rw [Int.tdiv_eq_ediv_of_nonneg ho.1, IntKind.wrap_u8]; omega, Int.tmod_eq_emod_of_nonneg (by omega)]; exact hO3
  have hM : IntKind.i64.wrap (2 + (IntKind.i64.wrap op).tmod 2) = 2 := by
    rw [show IntKind.i64.wrap op = op by rw [IntKind.wrap_i64]; omega, Int.tmod_eq_emod_of_nonneg ho.1, hO]; decide
  go_enter Tryz.func44, Tryz.ntmps44
  go_wp2
  go_region_with (go_at_call 124; refine (opens_st (by omega) (by omega) hw (by omega) ((hS.alloc _).drew)).mono ?_; rintro e wn ⟨rfl, hD⟩)
  all_goals (go_wp2; go_end0; exact ⟨rfl, by rw [HF.out]; exact hD.forget⟩)
theorem does_11d (w0 : World) (s : PS) (kind op a b : Int) (hk : 0 ≤ kind ∧ kind < 256) (ho : 0 ≤ op ∧ op < 256) (hK : kind % 16 = 11) (hO : op % 2 = 1) (hO3 : op / 2 % 3 = 1) (hg : Good s) (hw : s.weight ≤ 200000) (w : World) (h : Prog w0 pr s w) :
    Calls Tryz.prog 44 #[.pointer (some ⟨w0.heap.size, 0, none⟩), .agg #[.int .u8 kind, .int .i64 a, .int .i64 b, .int .u8 op]] w fun e w' => e = .returned (.tuple #[]) ∧ Done w0 pr s (doesF s kind op a b) w' := by
  have HF : Hid (doesF s kind op a b = opensF s 3 127) := Lib.hid (by unfold doesF; rw [hK]; simp [hO, hO3])
  have hS := St.begin hg (step_box h (.cells #[.int .u8 kind, .int .i64 a, .int .i64 b, .int .u8 op] 102))
  clear h hg
  have hE : (IntKind.u8.wrap (op.tdiv 2)).tmod 3 = 1 := by
    rw [show IntKind.u8.wrap (op.tdiv 2) = op / 2 by rw [Int.tdiv_eq_ediv_of_nonneg ho.1, IntKind.wrap_u8]; omega, Int.tmod_eq_emod_of_nonneg (by omega)]; exact hO3
  have hM : IntKind.i64.wrap (2 + (IntKind.i64.wrap op).tmod 2) = 3 := by
    rw [show IntKind.i64.wrap op = op by rw [IntKind.wrap_i64]; omega, Int.tmod_eq_emod_of_nonneg ho.1, hO]; decide
  go_enter Tryz.func44, Tryz.ntmps44
  go_wp2
  go_region_with (go_at_call 124; refine (opens_st (by omega) (by omega) hw (by omega) ((hS.alloc _).drew)).mono ?_; rintro e wn ⟨rfl, hD⟩)
  all_goals (go_wp2; go_end0; exact ⟨rfl, by rw [HF.out]; exact hD.forget⟩)
end Go.Proofs.YthfipknfdnfalaaGreatDoor
