/-
  Facts and contracts that the proof calls.
-/
import Derived.Test.YtomffpibdinkaaaGreatDoorVbModOpens
namespace Go.Proofs.YtomffpibdinkaaaGreatDoor
set_option maxRecDepth 100000
set_option maxHeartbeats 16000000
open Go.RowKit
variable {pr : List (Nat × Obj)}
theorem ok_two (op x y : Int) (hop : (byCode op).map Rw.shape = some 5) (hs : op ≠ 2 ∧ op ≠ 3 ∧ op ≠ 4 ∧ op ≠ 5 ∧ op ≠ 11) (hx : 0 ≤ x ∧ x < 4294967296) (hy : 0 ≤ y ∧ y < 4294967296) : okPI ⟨op, x, y⟩ = true := by
  unfold okPI rightOf
  cases h : byCode op with
  | none => rw [h] at hop; cases hop
  | some r =>
    rw [h] at hop
    have hr : r.shape = 5 := by simpa using hop
    have hi : inI64 x := by unfold inI64; omega
    simp [hr, word, hx, hy, hs, hi]
theorem does_6a (w0 : World) (s : PS) (kind op a b : Int) (hk : 0 ≤ kind ∧ kind < 256) (ho : 0 ≤ op ∧ op < 256) (hK : kind % 16 = 6) (hO : op % 4 = 0) (hg : Good s) (hw : s.weight ≤ 200000) (w : World) (h : Prog w0 pr s w) :
    Calls Tryz.prog 14 #[.pointer (some ⟨w0.heap.size, 0, none⟩), .agg #[.int .u8 kind, .int .i64 a, .int .i64 b, .int .u8 op]] w fun e w' => e = .returned (.tuple #[]) ∧ Done w0 pr s (doesF s kind op a b) w' := by
  have HF : Hid (doesF s kind op a b = takeF (putF (wantF s 126) 33 0 0)) := Lib.hid (by unfold doesF; rw [hK]; simp [hO])
  have hS := St.begin hg (step_box h (.cells #[.int .u8 kind, .int .i64 a, .int .i64 b, .int .u8 op] 59))
  clear h hg
  have hO2 : op % 2 = 0 := by omega
  have hK2 : kind % 2 = 0 := by omega
  go_enter Tryz.func14, Tryz.ntmps14
  go_wp2_with (first
    | (go_at_call 17; (first | refine (put_st (by first | assumption | decide +kernel) hw (by omega) hS).mono ?_ | refine (put_st (by first | assumption | decide +kernel) hw (by omega) (hS.alloc _)).mono ?_); rintro e wn ⟨rfl, hN⟩; clear hS; have hS := hN; clear hN; obtain ⟨z0, z1, z2, z3⟩ := hS.cells)
    | (go_at_call 27; (first | refine (push_st hw (by omega) hS).mono ?_ | refine (push_st hw (by omega) (hS.alloc _)).mono ?_); rintro e wn ⟨rfl, hN⟩; clear hS; have hS := hN; clear hN; obtain ⟨z0, z1, z2, z3⟩ := hS.cells)
    | (go_at_call 28; (first | refine (want_st (by omega) (by omega) hw (by omega) hS).mono ?_ | refine (want_st (by omega) (by omega) hw (by omega) (hS.alloc _)).mono ?_); rintro e wn ⟨rfl, hN⟩; clear hS; have hS := hN; clear hN; obtain ⟨z0, z1, z2, z3⟩ := hS.cells)
    | (go_at_call 29; (first | refine (take_st hw (by omega) hS).mono ?_ | refine (take_st hw (by omega) (hS.alloc _)).mono ?_); rintro e wn ⟨rfl, hN⟩; clear hS; have hS := hN; clear hN; obtain ⟨z0, z1, z2, z3⟩ := hS.cells))
  go_end0
  exact ⟨rfl, by rw [HF.out]; exact (St.done (by omega) hS).forget⟩
theorem does_7a (w0 : World) (s : PS) (kind op a b : Int) (hk : 0 ≤ kind ∧ kind < 256) (ho : 0 ≤ op ∧ op < 256) (hK : kind % 16 = 7) (hO : op % 4 = 0) (hg : Good s) (hw : s.weight ≤ 200000) (w : World) (h : Prog w0 pr s w) :
    Calls Tryz.prog 14 #[.pointer (some ⟨w0.heap.size, 0, none⟩), .agg #[.int .u8 kind, .int .i64 a, .int .i64 b, .int .u8 op]] w fun e w' => e = .returned (.tuple #[]) ∧ Done w0 pr s (doesF s kind op a b) w' := by
  have HF : Hid (doesF s kind op a b = putF (wantF s 126) 34 0 0) := Lib.hid (by unfold doesF; rw [hK]; simp [hO])
  have hS := St.begin hg (step_box h (.cells #[.int .u8 kind, .int .i64 a, .int .i64 b, .int .u8 op] 59))
  clear h hg
  have hO2 : op % 2 = 0 := by omega
  have hK2 : kind % 2 = 1 := by omega
  go_enter Tryz.func14, Tryz.ntmps14
  go_wp2_with (first
    | (go_at_call 17; (first | refine (put_st (by first | assumption | decide +kernel) hw (by omega) hS).mono ?_ | refine (put_st (by first | assumption | decide +kernel) hw (by omega) (hS.alloc _)).mono ?_); rintro e wn ⟨rfl, hN⟩; clear hS; have hS := hN; clear hN; obtain ⟨z0, z1, z2, z3⟩ := hS.cells)
    | (go_at_call 27; (first | refine (push_st hw (by omega) hS).mono ?_ | refine (push_st hw (by omega) (hS.alloc _)).mono ?_); rintro e wn ⟨rfl, hN⟩; clear hS; have hS := hN; clear hN; obtain ⟨z0, z1, z2, z3⟩ := hS.cells)
    | (go_at_call 28; (first | refine (want_st (by omega) (by omega) hw (by omega) hS).mono ?_ | refine (want_st (by omega) (by omega) hw (by omega) (hS.alloc _)).mono ?_); rintro e wn ⟨rfl, hN⟩; clear hS; have hS := hN; clear hN; obtain ⟨z0, z1, z2, z3⟩ := hS.cells)
    | (go_at_call 29; (first | refine (take_st hw (by omega) hS).mono ?_ | refine (take_st hw (by omega) (hS.alloc _)).mono ?_); rintro e wn ⟨rfl, hN⟩; clear hS; have hS := hN; clear hN; obtain ⟨z0, z1, z2, z3⟩ := hS.cells))
  go_end0
  exact ⟨rfl, by rw [HF.out]; exact (St.done (by omega) hS).forget⟩
theorem does_6b (w0 : World) (s : PS) (kind op a b : Int) (hk : 0 ≤ kind ∧ kind < 256) (ho : 0 ≤ op ∧ op < 256) (hK : kind % 16 = 6) (hO : op % 4 = 1) (hg : Good s) (hw : s.weight ≤ 200000) (w : World) (h : Prog w0 pr s w) :
    Calls Tryz.prog 14 #[.pointer (some ⟨w0.heap.size, 0, none⟩), .agg #[.int .u8 kind, .int .i64 a, .int .i64 b, .int .u8 op]] w fun e w' => e = .returned (.tuple #[]) ∧ Done w0 pr s (doesF s kind op a b) w' := by
  have HF : Hid (doesF s kind op a b = takeF (putF (wantF s 127) 33 1 0)) := Lib.hid (by unfold doesF; rw [hK]; simp [hO])
  have hS := St.begin hg (step_box h (.cells #[.int .u8 kind, .int .i64 a, .int .i64 b, .int .u8 op] 59))
  clear h hg
  have hO2 : op % 2 = 1 := by omega
  have hK2 : kind % 2 = 0 := by omega
  go_enter Tryz.func14, Tryz.ntmps14
  go_wp2_with (first
    | (go_at_call 17; (first | refine (put_st (by first | assumption | decide +kernel) hw (by omega) hS).mono ?_ | refine (put_st (by first | assumption | decide +kernel) hw (by omega) (hS.alloc _)).mono ?_); rintro e wn ⟨rfl, hN⟩; clear hS; have hS := hN; clear hN; obtain ⟨z0, z1, z2, z3⟩ := hS.cells)
    | (go_at_call 27; (first | refine (push_st hw (by omega) hS).mono ?_ | refine (push_st hw (by omega) (hS.alloc _)).mono ?_); rintro e wn ⟨rfl, hN⟩; clear hS; have hS := hN; clear hN; obtain ⟨z0, z1, z2, z3⟩ := hS.cells)
    | (go_at_call 28; (first | refine (want_st (by omega) (by omega) hw (by omega) hS).mono ?_ | refine (want_st (by omega) (by omega) hw (by omega) (hS.alloc _)).mono ?_); rintro e wn ⟨rfl, hN⟩; clear hS; have hS := hN; clear hN; obtain ⟨z0, z1, z2, z3⟩ := hS.cells)
    | (go_at_call 29; (first | refine (take_st hw (by omega) hS).mono ?_ | refine (take_st hw (by omega) (hS.alloc _)).mono ?_); rintro e wn ⟨rfl, hN⟩; clear hS; have hS := hN; clear hN; obtain ⟨z0, z1, z2, z3⟩ := hS.cells))
  go_end0
  exact ⟨rfl, by rw [HF.out]; exact (St.done (by omega) hS).forget⟩
theorem does_7b (w0 : World) (s : PS) (kind op a b : Int) (hk : 0 ≤ kind ∧ kind < 256) (ho : 0 ≤ op ∧ op < 256) (hK : kind % 16 = 7) (hO : op % 4 = 1) (hg : Good s) (hw : s.weight ≤ 200000) (w : World) (h : Prog w0 pr s w) :
    Calls Tryz.prog 14 #[.pointer (some ⟨w0.heap.size, 0, none⟩), .agg #[.int .u8 kind, .int .i64 a, .int .i64 b, .int .u8 op]] w fun e w' => e = .returned (.tuple #[]) ∧ Done w0 pr s (doesF s kind op a b) w' := by
  have HF : Hid (doesF s kind op a b = putF (wantF s 127) 34 1 0) := Lib.hid (by unfold doesF; rw [hK]; simp [hO])
  have hS := St.begin hg (step_box h (.cells #[.int .u8 kind, .int .i64 a, .int .i64 b, .int .u8 op] 59))
  clear h hg
  have hO2 : op % 2 = 1 := by omega
  have hK2 : kind % 2 = 1 := by omega
  go_enter Tryz.func14, Tryz.ntmps14
  go_wp2_with (first
    | (go_at_call 17; (first | refine (put_st (by first | assumption | decide +kernel) hw (by omega) hS).mono ?_ | refine (put_st (by first | assumption | decide +kernel) hw (by omega) (hS.alloc _)).mono ?_); rintro e wn ⟨rfl, hN⟩; clear hS; have hS := hN; clear hN; obtain ⟨z0, z1, z2, z3⟩ := hS.cells)
    | (go_at_call 27; (first | refine (push_st hw (by omega) hS).mono ?_ | refine (push_st hw (by omega) (hS.alloc _)).mono ?_); rintro e wn ⟨rfl, hN⟩; clear hS; have hS := hN; clear hN; obtain ⟨z0, z1, z2, z3⟩ := hS.cells)
    | (go_at_call 28; (first | refine (want_st (by omega) (by omega) hw (by omega) hS).mono ?_ | refine (want_st (by omega) (by omega) hw (by omega) (hS.alloc _)).mono ?_); rintro e wn ⟨rfl, hN⟩; clear hS; have hS := hN; clear hN; obtain ⟨z0, z1, z2, z3⟩ := hS.cells)
    | (go_at_call 29; (first | refine (take_st hw (by omega) hS).mono ?_ | refine (take_st hw (by omega) (hS.alloc _)).mono ?_); rintro e wn ⟨rfl, hN⟩; clear hS; have hS := hN; clear hN; obtain ⟨z0, z1, z2, z3⟩ := hS.cells))
  go_end0
  exact ⟨rfl, by rw [HF.out]; exact (St.done (by omega) hS).forget⟩
theorem does_6c (w0 : World) (s : PS) (kind op a b : Int) (hk : 0 ≤ kind ∧ kind < 256) (ho : 0 ≤ op ∧ op < 256) (hK : kind % 16 = 6) (hO : op % 4 = 2) (hg : Good s) (hw : s.weight ≤ 200000) (w : World) (h : Prog w0 pr s w) :
    Calls Tryz.prog 14 #[.pointer (some ⟨w0.heap.size, 0, none⟩), .agg #[.int .u8 kind, .int .i64 a, .int .i64 b, .int .u8 op]] w fun e w' => e = .returned (.tuple #[]) ∧ Done w0 pr s (doesF s kind op a b) w' := by
  have HF : Hid (doesF s kind op a b = takeF (putF (wantF s 127) 33 2 0)) := Lib.hid (by unfold doesF; rw [hK]; simp [hO])
  have hS := St.begin hg (step_box h (.cells #[.int .u8 kind, .int .i64 a, .int .i64 b, .int .u8 op] 59))
  clear h hg
  have hO2 : op % 2 = 0 := by omega
  have hK2 : kind % 2 = 0 := by omega
  go_enter Tryz.func14, Tryz.ntmps14
  go_wp2_with (first
    | (go_at_call 17; (first | refine (put_st (by first | assumption | decide +kernel) hw (by omega) hS).mono ?_ | refine (put_st (by first | assumption | decide +kernel) hw (by omega) (hS.alloc _)).mono ?_); rintro e wn ⟨rfl, hN⟩; clear hS; have hS := hN; clear hN; obtain ⟨z0, z1, z2, z3⟩ := hS.cells)
    | (go_at_call 27; (first | refine (push_st hw (by omega) hS).mono ?_ | refine (push_st hw (by omega) (hS.alloc _)).mono ?_); rintro e wn ⟨rfl, hN⟩; clear hS; have hS := hN; clear hN; obtain ⟨z0, z1, z2, z3⟩ := hS.cells)
    | (go_at_call 28; (first | refine (want_st (by omega) (by omega) hw (by omega) hS).mono ?_ | refine (want_st (by omega) (by omega) hw (by omega) (hS.alloc _)).mono ?_); rintro e wn ⟨rfl, hN⟩; clear hS; have hS := hN; clear hN; obtain ⟨z0, z1, z2, z3⟩ := hS.cells)
    | (go_at_call 29; (first | refine (take_st hw (by omega) hS).mono ?_ | refine (take_st hw (by omega) (hS.alloc _)).mono ?_); rintro e wn ⟨rfl, hN⟩; clear hS; have hS := hN; clear hN; obtain ⟨z0, z1, z2, z3⟩ := hS.cells))
  go_end0
  exact ⟨rfl, by rw [HF.out]; exact (St.done (by omega) hS).forget⟩
theorem does_7c (w0 : World) (s : PS) (kind op a b : Int) (hk : 0 ≤ kind ∧ kind < 256) (ho : 0 ≤ op ∧ op < 256) (hK : kind % 16 = 7) (hO : op % 4 = 2) (hg : Good s) (hw : s.weight ≤ 200000) (w : World) (h : Prog w0 pr s w) :
    Calls Tryz.prog 14 #[.pointer (some ⟨w0.heap.size, 0, none⟩), .agg #[.int .u8 kind, .int .i64 a, .int .i64 b, .int .u8 op]] w fun e w' => e = .returned (.tuple #[]) ∧ Done w0 pr s (doesF s kind op a b) w' := by
  have HF : Hid (doesF s kind op a b = putF (wantF s 127) 34 2 0) := Lib.hid (by unfold doesF; rw [hK]; simp [hO])
  have hS := St.begin hg (step_box h (.cells #[.int .u8 kind, .int .i64 a, .int .i64 b, .int .u8 op] 59))
  clear h hg
  have hO2 : op % 2 = 0 := by omega
  have hK2 : kind % 2 = 1 := by omega
  go_enter Tryz.func14, Tryz.ntmps14
  go_wp2_with (first
    | (go_at_call 17; (first | refine (put_st (by first | assumption | decide +kernel) hw (by omega) hS).mono ?_ | refine (put_st (by first | assumption | decide +kernel) hw (by omega) (hS.alloc _)).mono ?_); rintro e wn ⟨rfl, hN⟩; clear hS; have hS := hN; clear hN; obtain ⟨z0, z1, z2, z3⟩ := hS.cells)
    | (go_at_call 27; (first | refine (push_st hw (by omega) hS).mono ?_ | refine (push_st hw (by omega) (hS.alloc _)).mono ?_); rintro e wn ⟨rfl, hN⟩; clear hS; have hS := hN; clear hN; obtain ⟨z0, z1, z2, z3⟩ := hS.cells)
    | (go_at_call 28; (first | refine (want_st (by omega) (by omega) hw (by omega) hS).mono ?_ | refine (want_st (by omega) (by omega) hw (by omega) (hS.alloc _)).mono ?_); rintro e wn ⟨rfl, hN⟩; clear hS; have hS := hN; clear hN; obtain ⟨z0, z1, z2, z3⟩ := hS.cells)
    | (go_at_call 29; (first | refine (take_st hw (by omega) hS).mono ?_ | refine (take_st hw (by omega) (hS.alloc _)).mono ?_); rintro e wn ⟨rfl, hN⟩; clear hS; have hS := hN; clear hN; obtain ⟨z0, z1, z2, z3⟩ := hS.cells))
  go_end0
  exact ⟨rfl, by rw [HF.out]; exact (St.done (by omega) hS).forget⟩
theorem does_6d (w0 : World) (s : PS) (kind op a b : Int) (hk : 0 ≤ kind ∧ kind < 256) (ho : 0 ≤ op ∧ op < 256) (hK : kind % 16 = 6) (hO : op % 4 = 3) (hg : Good s) (hw : s.weight ≤ 200000) (w : World) (h : Prog w0 pr s w) :
    Calls Tryz.prog 14 #[.pointer (some ⟨w0.heap.size, 0, none⟩), .agg #[.int .u8 kind, .int .i64 a, .int .i64 b, .int .u8 op]] w fun e w' => e = .returned (.tuple #[]) ∧ Done w0 pr s (doesF s kind op a b) w' := by
  have HF : Hid (doesF s kind op a b = takeF (putF (wantF s 126) 33 3 0)) := Lib.hid (by unfold doesF; rw [hK]; simp [hO])
  have hS := St.begin hg (step_box h (.cells #[.int .u8 kind, .int .i64 a, .int .i64 b, .int .u8 op] 59))
  clear h hg
  have hO2 : op % 2 = 1 := by omega
  have hK2 : kind % 2 = 0 := by omega
  go_enter Tryz.func14, Tryz.ntmps14
  go_wp2_with (first
    | (go_at_call 17; (first | refine (put_st (by first | assumption | decide +kernel) hw (by omega) hS).mono ?_ | refine (put_st (by first | assumption | decide +kernel) hw (by omega) (hS.alloc _)).mono ?_); rintro e wn ⟨rfl, hN⟩; clear hS; have hS := hN; clear hN; obtain ⟨z0, z1, z2, z3⟩ := hS.cells)
    | (go_at_call 27; (first | refine (push_st hw (by omega) hS).mono ?_ | refine (push_st hw (by omega) (hS.alloc _)).mono ?_); rintro e wn ⟨rfl, hN⟩; clear hS; have hS := hN; clear hN; obtain ⟨z0, z1, z2, z3⟩ := hS.cells)
    | (go_at_call 28; (first | refine (want_st (by omega) (by omega) hw (by omega) hS).mono ?_ | refine (want_st (by omega) (by omega) hw (by omega) (hS.alloc _)).mono ?_); rintro e wn ⟨rfl, hN⟩; clear hS; have hS := hN; clear hN; obtain ⟨z0, z1, z2, z3⟩ := hS.cells)
    | (go_at_call 29; (first | refine (take_st hw (by omega) hS).mono ?_ | refine (take_st hw (by omega) (hS.alloc _)).mono ?_); rintro e wn ⟨rfl, hN⟩; clear hS; have hS := hN; clear hN; obtain ⟨z0, z1, z2, z3⟩ := hS.cells))
  go_end0
  exact ⟨rfl, by rw [HF.out]; exact (St.done (by omega) hS).forget⟩
theorem does_7d (w0 : World) (s : PS) (kind op a b : Int) (hk : 0 ≤ kind ∧ kind < 256) (ho : 0 ≤ op ∧ op < 256) (hK : kind % 16 = 7) (hO : op % 4 = 3) (hg : Good s) (hw : s.weight ≤ 200000) (w : World) (h : Prog w0 pr s w) :
    Calls Tryz.prog 14 #[.pointer (some ⟨w0.heap.size, 0, none⟩), .agg #[.int .u8 kind, .int .i64 a, .int .i64 b, .int .u8 op]] w fun e w' => e = .returned (.tuple #[]) ∧ Done w0 pr s (doesF s kind op a b) w' := by
  have HF : Hid (doesF s kind op a b = putF (wantF s 126) 34 3 0) := Lib.hid (by unfold doesF; rw [hK]; simp [hO])
  have hS := St.begin hg (step_box h (.cells #[.int .u8 kind, .int .i64 a, .int .i64 b, .int .u8 op] 59))
  clear h hg
  have hO2 : op % 2 = 1 := by omega
  have hK2 : kind % 2 = 1 := by omega
  go_enter Tryz.func14, Tryz.ntmps14
  go_wp2_with (first
    | (go_at_call 17; (first | refine (put_st (by first | assumption | decide +kernel) hw (by omega) hS).mono ?_ | refine (put_st (by first | assumption | decide +kernel) hw (by omega) (hS.alloc _)).mono ?_); rintro e wn ⟨rfl, hN⟩; clear hS; have hS := hN; clear hN; obtain ⟨z0, z1, z2, z3⟩ := hS.cells)
    | (go_at_call 27; (first | refine (push_st hw (by omega) hS).mono ?_ | refine (push_st hw (by omega) (hS.alloc _)).mono ?_); rintro e wn ⟨rfl, hN⟩; clear hS; have hS := hN; clear hN; obtain ⟨z0, z1, z2, z3⟩ := hS.cells)
    | (go_at_call 28; (first | refine (want_st (by omega) (by omega) hw (by omega) hS).mono ?_ | refine (want_st (by omega) (by omega) hw (by omega) (hS.alloc _)).mono ?_); rintro e wn ⟨rfl, hN⟩; clear hS; have hS := hN; clear hN; obtain ⟨z0, z1, z2, z3⟩ := hS.cells)
    | (go_at_call 29; (first | refine (take_st hw (by omega) hS).mono ?_ | refine (take_st hw (by omega) (hS.alloc _)).mono ?_); rintro e wn ⟨rfl, hN⟩; clear hS; have hS := hN; clear hN; obtain ⟨z0, z1, z2, z3⟩ := hS.cells))
  go_end0
  exact ⟨rfl, by rw [HF.out]; exact (St.done (by omega) hS).forget⟩
theorem does_8a (w0 : World) (s : PS) (kind op a b : Int) (hk : 0 ≤ kind ∧ kind < 256) (ho : 0 ≤ op ∧ op < 256) (hK : kind % 16 = 8) (hO : op % 2 = 0) (hg : Good s) (hw : s.weight ≤ 200000) (w : World) (h : Prog w0 pr s w) :
    Calls Tryz.prog 14 #[.pointer (some ⟨w0.heap.size, 0, none⟩), .agg #[.int .u8 kind, .int .i64 a, .int .i64 b, .int .u8 op]] w fun e w' => e = .returned (.tuple #[]) ∧ Done w0 pr s (doesF s kind op a b) w' := by
  have HF : Hid (doesF s kind op a b = takeF (putF (wantF (pushF (putF s 35 0 0) 127) 126) 36 1 0)) := Lib.hid (by unfold doesF; rw [hK]; simp [hO])
  have hS := St.begin hg (step_box h (.cells #[.int .u8 kind, .int .i64 a, .int .i64 b, .int .u8 op] 59))
  clear h hg
  go_enter Tryz.func14, Tryz.ntmps14
  go_wp2_with (first
    | (go_at_call 17; (first | refine (put_st (by first | assumption | decide +kernel) hw (by omega) hS).mono ?_ | refine (put_st (by first | assumption | decide +kernel) hw (by omega) (hS.alloc _)).mono ?_); rintro e wn ⟨rfl, hN⟩; clear hS; have hS := hN; clear hN; obtain ⟨z0, z1, z2, z3⟩ := hS.cells)
    | (go_at_call 27; (first | refine (push_st hw (by omega) hS).mono ?_ | refine (push_st hw (by omega) (hS.alloc _)).mono ?_); rintro e wn ⟨rfl, hN⟩; clear hS; have hS := hN; clear hN; obtain ⟨z0, z1, z2, z3⟩ := hS.cells)
    | (go_at_call 28; (first | refine (want_st (by omega) (by omega) hw (by omega) hS).mono ?_ | refine (want_st (by omega) (by omega) hw (by omega) (hS.alloc _)).mono ?_); rintro e wn ⟨rfl, hN⟩; clear hS; have hS := hN; clear hN; obtain ⟨z0, z1, z2, z3⟩ := hS.cells)
    | (go_at_call 29; (first | refine (take_st hw (by omega) hS).mono ?_ | refine (take_st hw (by omega) (hS.alloc _)).mono ?_); rintro e wn ⟨rfl, hN⟩; clear hS; have hS := hN; clear hN; obtain ⟨z0, z1, z2, z3⟩ := hS.cells))
  go_end0
  exact ⟨rfl, by rw [HF.out]; exact (St.done (by omega) hS).forget⟩
theorem does_8b (w0 : World) (s : PS) (kind op a b : Int) (hk : 0 ≤ kind ∧ kind < 256) (ho : 0 ≤ op ∧ op < 256) (hK : kind % 16 = 8) (hO : op % 2 = 1) (hg : Good s) (hw : s.weight ≤ 200000) (w : World) (h : Prog w0 pr s w) :
    Calls Tryz.prog 14 #[.pointer (some ⟨w0.heap.size, 0, none⟩), .agg #[.int .u8 kind, .int .i64 a, .int .i64 b, .int .u8 op]] w fun e w' => e = .returned (.tuple #[]) ∧ Done w0 pr s (doesF s kind op a b) w' := by
  have HF : Hid (doesF s kind op a b = takeF (putF (wantF (pushF (putF s 35 1 0) 126) 126) 36 1 0)) := Lib.hid (by unfold doesF; rw [hK]; simp [hO])
  have hS := St.begin hg (step_box h (.cells #[.int .u8 kind, .int .i64 a, .int .i64 b, .int .u8 op] 59))
  clear h hg
  go_enter Tryz.func14, Tryz.ntmps14
  go_wp2_with (first
    | (go_at_call 17; (first | refine (put_st (by first | assumption | decide +kernel) hw (by omega) hS).mono ?_ | refine (put_st (by first | assumption | decide +kernel) hw (by omega) (hS.alloc _)).mono ?_); rintro e wn ⟨rfl, hN⟩; clear hS; have hS := hN; clear hN; obtain ⟨z0, z1, z2, z3⟩ := hS.cells)
    | (go_at_call 27; (first | refine (push_st hw (by omega) hS).mono ?_ | refine (push_st hw (by omega) (hS.alloc _)).mono ?_); rintro e wn ⟨rfl, hN⟩; clear hS; have hS := hN; clear hN; obtain ⟨z0, z1, z2, z3⟩ := hS.cells)
    | (go_at_call 28; (first | refine (want_st (by omega) (by omega) hw (by omega) hS).mono ?_ | refine (want_st (by omega) (by omega) hw (by omega) (hS.alloc _)).mono ?_); rintro e wn ⟨rfl, hN⟩; clear hS; have hS := hN; clear hN; obtain ⟨z0, z1, z2, z3⟩ := hS.cells)
    | (go_at_call 29; (first | refine (take_st hw (by omega) hS).mono ?_ | refine (take_st hw (by omega) (hS.alloc _)).mono ?_); rintro e wn ⟨rfl, hN⟩; clear hS; have hS := hN; clear hN; obtain ⟨z0, z1, z2, z3⟩ := hS.cells))
  go_end0
  exact ⟨rfl, by rw [HF.out]; exact (St.done (by omega) hS).forget⟩
theorem does_15a (w0 : World) (s : PS) (kind op a b : Int) (hk : 0 ≤ kind ∧ kind < 256) (ho : 0 ≤ op ∧ op < 256) (hK : kind % 16 = 15) (hO : op % 3 = 0) (hg : Good s) (hw : s.weight ≤ 200000) (w : World) (h : Prog w0 pr s w) :
    Calls Tryz.prog 14 #[.pointer (some ⟨w0.heap.size, 0, none⟩), .agg #[.int .u8 kind, .int .i64 a, .int .i64 b, .int .u8 op]] w fun e w' => e = .returned (.tuple #[]) ∧ Done w0 pr s (doesF s kind op a b) w' := by
  have HF : Hid (doesF s kind op a b = pushF (putF s 63 0 0) 127) := Lib.hid (by unfold doesF; rw [hK]; simp [hO])
  have hS := St.begin hg (step_box h (.cells #[.int .u8 kind, .int .i64 a, .int .i64 b, .int .u8 op] 59))
  clear h hg
  go_enter Tryz.func14, Tryz.ntmps14
  go_wp2_with (first
    | (go_at_call 17; (first | refine (put_st (by first | assumption | decide +kernel) hw (by omega) hS).mono ?_ | refine (put_st (by first | assumption | decide +kernel) hw (by omega) (hS.alloc _)).mono ?_); rintro e wn ⟨rfl, hN⟩; clear hS; have hS := hN; clear hN; obtain ⟨z0, z1, z2, z3⟩ := hS.cells)
    | (go_at_call 27; (first | refine (push_st hw (by omega) hS).mono ?_ | refine (push_st hw (by omega) (hS.alloc _)).mono ?_); rintro e wn ⟨rfl, hN⟩; clear hS; have hS := hN; clear hN; obtain ⟨z0, z1, z2, z3⟩ := hS.cells)
    | (go_at_call 28; (first | refine (want_st (by omega) (by omega) hw (by omega) hS).mono ?_ | refine (want_st (by omega) (by omega) hw (by omega) (hS.alloc _)).mono ?_); rintro e wn ⟨rfl, hN⟩; clear hS; have hS := hN; clear hN; obtain ⟨z0, z1, z2, z3⟩ := hS.cells)
    | (go_at_call 29; (first | refine (take_st hw (by omega) hS).mono ?_ | refine (take_st hw (by omega) (hS.alloc _)).mono ?_); rintro e wn ⟨rfl, hN⟩; clear hS; have hS := hN; clear hN; obtain ⟨z0, z1, z2, z3⟩ := hS.cells))
  go_end0
  exact ⟨rfl, by rw [HF.out]; exact (St.done (by omega) hS).forget⟩
theorem does_15b (w0 : World) (s : PS) (kind op a b : Int) (hk : 0 ≤ kind ∧ kind < 256) (ho : 0 ≤ op ∧ op < 256) (hK : kind % 16 = 15) (hO : op % 3 = 1) (hg : Good s) (hw : s.weight ≤ 200000) (w : World) (h : Prog w0 pr s w) :
    Calls Tryz.prog 14 #[.pointer (some ⟨w0.heap.size, 0, none⟩), .agg #[.int .u8 kind, .int .i64 a, .int .i64 b, .int .u8 op]] w fun e w' => e = .returned (.tuple #[]) ∧ Done w0 pr s (doesF s kind op a b) w' := by
  have HF : Hid (doesF s kind op a b = putF s 1 0 0) := Lib.hid (by unfold doesF; rw [hK]; simp [hO])
  have hS := St.begin hg (step_box h (.cells #[.int .u8 kind, .int .i64 a, .int .i64 b, .int .u8 op] 59))
  clear h hg
  go_enter Tryz.func14, Tryz.ntmps14
  go_wp2_with (first
    | (go_at_call 17; (first | refine (put_st (by first | assumption | decide +kernel) hw (by omega) hS).mono ?_ | refine (put_st (by first | assumption | decide +kernel) hw (by omega) (hS.alloc _)).mono ?_); rintro e wn ⟨rfl, hN⟩; clear hS; have hS := hN; clear hN; obtain ⟨z0, z1, z2, z3⟩ := hS.cells)
    | (go_at_call 27; (first | refine (push_st hw (by omega) hS).mono ?_ | refine (push_st hw (by omega) (hS.alloc _)).mono ?_); rintro e wn ⟨rfl, hN⟩; clear hS; have hS := hN; clear hN; obtain ⟨z0, z1, z2, z3⟩ := hS.cells)
    | (go_at_call 28; (first | refine (want_st (by omega) (by omega) hw (by omega) hS).mono ?_ | refine (want_st (by omega) (by omega) hw (by omega) (hS.alloc _)).mono ?_); rintro e wn ⟨rfl, hN⟩; clear hS; have hS := hN; clear hN; obtain ⟨z0, z1, z2, z3⟩ := hS.cells)
    | (go_at_call 29; (first | refine (take_st hw (by omega) hS).mono ?_ | refine (take_st hw (by omega) (hS.alloc _)).mono ?_); rintro e wn ⟨rfl, hN⟩; clear hS; have hS := hN; clear hN; obtain ⟨z0, z1, z2, z3⟩ := hS.cells))
  go_end0
  exact ⟨rfl, by rw [HF.out]; exact (St.done (by omega) hS).forget⟩
theorem does_15c (w0 : World) (s : PS) (kind op a b : Int) (hk : 0 ≤ kind ∧ kind < 256) (ho : 0 ≤ op ∧ op < 256) (hK : kind % 16 = 15) (hO : op % 3 = 2) (hg : Good s) (hw : s.weight ≤ 200000) (w : World) (h : Prog w0 pr s w) :
    Calls Tryz.prog 14 #[.pointer (some ⟨w0.heap.size, 0, none⟩), .agg #[.int .u8 kind, .int .i64 a, .int .i64 b, .int .u8 op]] w fun e w' => e = .returned (.tuple #[]) ∧ Done w0 pr s (doesF s kind op a b) w' := by
  have HF : Hid (doesF s kind op a b = putF (pushF (putF s 63 0 0) 127) 64 0 0) := Lib.hid (by unfold doesF; rw [hK]; simp [hO])
  have hS := St.begin hg (step_box h (.cells #[.int .u8 kind, .int .i64 a, .int .i64 b, .int .u8 op] 59))
  clear h hg
  go_enter Tryz.func14, Tryz.ntmps14
  go_wp2_with (first
    | (go_at_call 17; (first | refine (put_st (by first | assumption | decide +kernel) hw (by omega) hS).mono ?_ | refine (put_st (by first | assumption | decide +kernel) hw (by omega) (hS.alloc _)).mono ?_); rintro e wn ⟨rfl, hN⟩; clear hS; have hS := hN; clear hN; obtain ⟨z0, z1, z2, z3⟩ := hS.cells)
    | (go_at_call 27; (first | refine (push_st hw (by omega) hS).mono ?_ | refine (push_st hw (by omega) (hS.alloc _)).mono ?_); rintro e wn ⟨rfl, hN⟩; clear hS; have hS := hN; clear hN; obtain ⟨z0, z1, z2, z3⟩ := hS.cells)
    | (go_at_call 28; (first | refine (want_st (by omega) (by omega) hw (by omega) hS).mono ?_ | refine (want_st (by omega) (by omega) hw (by omega) (hS.alloc _)).mono ?_); rintro e wn ⟨rfl, hN⟩; clear hS; have hS := hN; clear hN; obtain ⟨z0, z1, z2, z3⟩ := hS.cells)
    | (go_at_call 29; (first | refine (take_st hw (by omega) hS).mono ?_ | refine (take_st hw (by omega) (hS.alloc _)).mono ?_); rintro e wn ⟨rfl, hN⟩; clear hS; have hS := hN; clear hN; obtain ⟨z0, z1, z2, z3⟩ := hS.cells))
  go_end0
  exact ⟨rfl, by rw [HF.out]; exact (St.done (by omega) hS).forget⟩
end Go.Proofs.YtomffpibdinkaaaGreatDoor
namespace Go.Proofs.YtomffpibdinkaaaGreatDoor
set_option maxRecDepth 100000
set_option maxHeartbeats 16000000
open Go.RowKit
variable {pr : List (Nat × Obj)}
theorem and17 (n : Int) : bits .and .i64 n 131071 = n % 131072 := by
  have h1 : (BitVec.ofInt 64 131071).toNat = 2 ^ 17 - 1 := by decide
  have key : (BitVec.ofInt 64 n &&& BitVec.ofInt 64 131071).toNat = (n % ((2 ^ 64 : Nat) : Int)).toNat % 2 ^ 17 := by
    rw [BitVec.toNat_and, BitVec.toNat_ofInt, h1, Nat.and_two_pow_sub_one_eq_mod]
  show IntKind.i64.wrap ((BitVec.ofInt 64 n &&& BitVec.ofInt 64 131071).toNat : Nat) = n % 131072
  rw [key, IntKind.wrap_i64]
  omega
theorem low17 (b : Int) : 0 ≤ bits .and .i64 b 131071 ∧ bits .and .i64 b 131071 < 131072 := by rw [and17]; omega
theorem does_9a (w0 : World) (s : PS) (kind op a b : Int) (hk : 0 ≤ kind ∧ kind < 256) (ho : 0 ≤ op ∧ op < 256) (hK : kind % 16 = 9) (hO : op % 3 = 0) (hg : Good s) (hw : s.weight ≤ 200000) (w : World) (h : Prog w0 pr s w) :
    Calls Tryz.prog 14 #[.pointer (some ⟨w0.heap.size, 0, none⟩), .agg #[.int .u8 kind, .int .i64 a, .int .i64 b, .int .u8 op]] w fun e w' => e = .returned (.tuple #[]) ∧ Done w0 pr s (doesF s kind op a b) w' := by
  have HF : Hid (doesF s kind op a b = putF (wantF s 127) 40 0 (bits .and .i64 b 131071)) := Lib.hid (by unfold doesF; rw [hK]; simp [hO])
  have hS := St.begin hg (step_box h (.cells #[.int .u8 kind, .int .i64 a, .int .i64 b, .int .u8 op] 59))
  clear h hg
  have ok1 := ok_two 40 0 (bits .and .i64 b 131071) (by kernel_rfl) (by omega) (by omega) (by have := low17 b; omega)
  go_enter Tryz.func14, Tryz.ntmps14
  go_wp2_with (first
    | (go_at_call 17; (first | refine (put_st (by first | assumption | decide +kernel) hw (by omega) hS).mono ?_ | refine (put_st (by first | assumption | decide +kernel) hw (by omega) (hS.alloc _)).mono ?_); rintro e wn ⟨rfl, hN⟩; clear hS; have hS := hN; clear hN; obtain ⟨z0, z1, z2, z3⟩ := hS.cells)
    | (go_at_call 27; (first | refine (push_st hw (by omega) hS).mono ?_ | refine (push_st hw (by omega) (hS.alloc _)).mono ?_); rintro e wn ⟨rfl, hN⟩; clear hS; have hS := hN; clear hN; obtain ⟨z0, z1, z2, z3⟩ := hS.cells)
    | (go_at_call 28; (first | refine (want_st (by omega) (by omega) hw (by omega) hS).mono ?_ | refine (want_st (by omega) (by omega) hw (by omega) (hS.alloc _)).mono ?_); rintro e wn ⟨rfl, hN⟩; clear hS; have hS := hN; clear hN; obtain ⟨z0, z1, z2, z3⟩ := hS.cells)
    | (go_at_call 29; (first | refine (take_st hw (by omega) hS).mono ?_ | refine (take_st hw (by omega) (hS.alloc _)).mono ?_); rintro e wn ⟨rfl, hN⟩; clear hS; have hS := hN; clear hN; obtain ⟨z0, z1, z2, z3⟩ := hS.cells))
  go_end0
  exact ⟨rfl, by rw [HF.out]; exact (St.done (by omega) hS).forget⟩
theorem does_9b (w0 : World) (s : PS) (kind op a b : Int) (hk : 0 ≤ kind ∧ kind < 256) (ho : 0 ≤ op ∧ op < 256) (hK : kind % 16 = 9) (hO : op % 3 = 1) (hg : Good s) (hw : s.weight ≤ 200000) (w : World) (h : Prog w0 pr s w) :
    Calls Tryz.prog 14 #[.pointer (some ⟨w0.heap.size, 0, none⟩), .agg #[.int .u8 kind, .int .i64 a, .int .i64 b, .int .u8 op]] w fun e w' => e = .returned (.tuple #[]) ∧ Done w0 pr s (doesF s kind op a b) w' := by
  have HF : Hid (doesF s kind op a b = putF (wantF s 127) 40 1 (bits .and .i64 b 131071)) := Lib.hid (by unfold doesF; rw [hK]; simp [hO])
  have hS := St.begin hg (step_box h (.cells #[.int .u8 kind, .int .i64 a, .int .i64 b, .int .u8 op] 59))
  clear h hg
  have ok1 := ok_two 40 1 (bits .and .i64 b 131071) (by kernel_rfl) (by omega) (by omega) (by have := low17 b; omega)
  go_enter Tryz.func14, Tryz.ntmps14
  go_wp2_with (first
    | (go_at_call 17; (first | refine (put_st (by first | assumption | decide +kernel) hw (by omega) hS).mono ?_ | refine (put_st (by first | assumption | decide +kernel) hw (by omega) (hS.alloc _)).mono ?_); rintro e wn ⟨rfl, hN⟩; clear hS; have hS := hN; clear hN; obtain ⟨z0, z1, z2, z3⟩ := hS.cells)
    | (go_at_call 27; (first | refine (push_st hw (by omega) hS).mono ?_ | refine (push_st hw (by omega) (hS.alloc _)).mono ?_); rintro e wn ⟨rfl, hN⟩; clear hS; have hS := hN; clear hN; obtain ⟨z0, z1, z2, z3⟩ := hS.cells)
    | (go_at_call 28; (first | refine (want_st (by omega) (by omega) hw (by omega) hS).mono ?_ | refine (want_st (by omega) (by omega) hw (by omega) (hS.alloc _)).mono ?_); rintro e wn ⟨rfl, hN⟩; clear hS; have hS := hN; clear hN; obtain ⟨z0, z1, z2, z3⟩ := hS.cells)
    | (go_at_call 29; (first | refine (take_st hw (by omega) hS).mono ?_ | refine (take_st hw (by omega) (hS.alloc _)).mono ?_); rintro e wn ⟨rfl, hN⟩; clear hS; have hS := hN; clear hN; obtain ⟨z0, z1, z2, z3⟩ := hS.cells))
  go_end0
  exact ⟨rfl, by rw [HF.out]; exact (St.done (by omega) hS).forget⟩
theorem does_9c (w0 : World) (s : PS) (kind op a b : Int) (hk : 0 ≤ kind ∧ kind < 256) (ho : 0 ≤ op ∧ op < 256) (hK : kind % 16 = 9) (hO : op % 3 = 2) (hg : Good s) (hw : s.weight ≤ 200000) (w : World) (h : Prog w0 pr s w) :
    Calls Tryz.prog 14 #[.pointer (some ⟨w0.heap.size, 0, none⟩), .agg #[.int .u8 kind, .int .i64 a, .int .i64 b, .int .u8 op]] w fun e w' => e = .returned (.tuple #[]) ∧ Done w0 pr s (doesF s kind op a b) w' := by
  have HF : Hid (doesF s kind op a b = putF (wantF s 127) 40 2 (bits .and .i64 b 131071)) := Lib.hid (by unfold doesF; rw [hK]; simp [hO])
  have hS := St.begin hg (step_box h (.cells #[.int .u8 kind, .int .i64 a, .int .i64 b, .int .u8 op] 59))
  clear h hg
  have ok1 := ok_two 40 2 (bits .and .i64 b 131071) (by kernel_rfl) (by omega) (by omega) (by have := low17 b; omega)
  go_enter Tryz.func14, Tryz.ntmps14
  go_wp2_with (first
    | (go_at_call 17; (first | refine (put_st (by first | assumption | decide +kernel) hw (by omega) hS).mono ?_ | refine (put_st (by first | assumption | decide +kernel) hw (by omega) (hS.alloc _)).mono ?_); rintro e wn ⟨rfl, hN⟩; clear hS; have hS := hN; clear hN; obtain ⟨z0, z1, z2, z3⟩ := hS.cells)
    | (go_at_call 27; (first | refine (push_st hw (by omega) hS).mono ?_ | refine (push_st hw (by omega) (hS.alloc _)).mono ?_); rintro e wn ⟨rfl, hN⟩; clear hS; have hS := hN; clear hN; obtain ⟨z0, z1, z2, z3⟩ := hS.cells)
    | (go_at_call 28; (first | refine (want_st (by omega) (by omega) hw (by omega) hS).mono ?_ | refine (want_st (by omega) (by omega) hw (by omega) (hS.alloc _)).mono ?_); rintro e wn ⟨rfl, hN⟩; clear hS; have hS := hN; clear hN; obtain ⟨z0, z1, z2, z3⟩ := hS.cells)
    | (go_at_call 29; (first | refine (take_st hw (by omega) hS).mono ?_ | refine (take_st hw (by omega) (hS.alloc _)).mono ?_); rintro e wn ⟨rfl, hN⟩; clear hS; have hS := hN; clear hN; obtain ⟨z0, z1, z2, z3⟩ := hS.cells))
  go_end0
  exact ⟨rfl, by rw [HF.out]; exact (St.done (by omega) hS).forget⟩
theorem does_10a (w0 : World) (s : PS) (kind op a b : Int) (hk : 0 ≤ kind ∧ kind < 256) (ho : 0 ≤ op ∧ op < 256) (hK : kind % 16 = 10) (hO : op % 3 = 0) (hg : Good s) (hw : s.weight ≤ 200000) (w : World) (h : Prog w0 pr s w) :
    Calls Tryz.prog 14 #[.pointer (some ⟨w0.heap.size, 0, none⟩), .agg #[.int .u8 kind, .int .i64 a, .int .i64 b, .int .u8 op]] w fun e w' => e = .returned (.tuple #[]) ∧ Done w0 pr s (doesF s kind op a b) w' := by
  have HF : Hid (doesF s kind op a b = takeF (putF (putF (wantF s 127) 32 0 0) 60 0 (bits .and .i64 b 131071))) := Lib.hid (by unfold doesF; rw [hK]; simp [hO])
  have hS := St.begin hg (step_box h (.cells #[.int .u8 kind, .int .i64 a, .int .i64 b, .int .u8 op] 59))
  clear h hg
  have ok1 := ok_two 60 0 (bits .and .i64 b 131071) (by kernel_rfl) (by omega) (by omega) (by have := low17 b; omega)
  go_enter Tryz.func14, Tryz.ntmps14
  go_wp2_with (first
    | (go_at_call 17; (first | refine (put_st (by first | assumption | decide +kernel) hw (by omega) hS).mono ?_ | refine (put_st (by first | assumption | decide +kernel) hw (by omega) (hS.alloc _)).mono ?_); rintro e wn ⟨rfl, hN⟩; clear hS; have hS := hN; clear hN; obtain ⟨z0, z1, z2, z3⟩ := hS.cells)
    | (go_at_call 27; (first | refine (push_st hw (by omega) hS).mono ?_ | refine (push_st hw (by omega) (hS.alloc _)).mono ?_); rintro e wn ⟨rfl, hN⟩; clear hS; have hS := hN; clear hN; obtain ⟨z0, z1, z2, z3⟩ := hS.cells)
    | (go_at_call 28; (first | refine (want_st (by omega) (by omega) hw (by omega) hS).mono ?_ | refine (want_st (by omega) (by omega) hw (by omega) (hS.alloc _)).mono ?_); rintro e wn ⟨rfl, hN⟩; clear hS; have hS := hN; clear hN; obtain ⟨z0, z1, z2, z3⟩ := hS.cells)
    | (go_at_call 29; (first | refine (take_st hw (by omega) hS).mono ?_ | refine (take_st hw (by omega) (hS.alloc _)).mono ?_); rintro e wn ⟨rfl, hN⟩; clear hS; have hS := hN; clear hN; obtain ⟨z0, z1, z2, z3⟩ := hS.cells))
  go_end0
  exact ⟨rfl, by rw [HF.out]; exact (St.done (by omega) hS).forget⟩
theorem does_10b (w0 : World) (s : PS) (kind op a b : Int) (hk : 0 ≤ kind ∧ kind < 256) (ho : 0 ≤ op ∧ op < 256) (hK : kind % 16 = 10) (hO : op % 3 = 1) (hg : Good s) (hw : s.weight ≤ 200000) (w : World) (h : Prog w0 pr s w) :
    Calls Tryz.prog 14 #[.pointer (some ⟨w0.heap.size, 0, none⟩), .agg #[.int .u8 kind, .int .i64 a, .int .i64 b, .int .u8 op]] w fun e w' => e = .returned (.tuple #[]) ∧ Done w0 pr s (doesF s kind op a b) w' := by
  have HF : Hid (doesF s kind op a b = takeF (putF (putF (wantF s 127) 32 0 0) 61 0 (bits .and .i64 b 131071))) := Lib.hid (by unfold doesF; rw [hK]; simp [hO])
  have hS := St.begin hg (step_box h (.cells #[.int .u8 kind, .int .i64 a, .int .i64 b, .int .u8 op] 59))
  clear h hg
  have ok1 := ok_two 61 0 (bits .and .i64 b 131071) (by kernel_rfl) (by omega) (by omega) (by have := low17 b; omega)
  go_enter Tryz.func14, Tryz.ntmps14
  go_wp2_with (first
    | (go_at_call 17; (first | refine (put_st (by first | assumption | decide +kernel) hw (by omega) hS).mono ?_ | refine (put_st (by first | assumption | decide +kernel) hw (by omega) (hS.alloc _)).mono ?_); rintro e wn ⟨rfl, hN⟩; clear hS; have hS := hN; clear hN; obtain ⟨z0, z1, z2, z3⟩ := hS.cells)
    | (go_at_call 27; (first | refine (push_st hw (by omega) hS).mono ?_ | refine (push_st hw (by omega) (hS.alloc _)).mono ?_); rintro e wn ⟨rfl, hN⟩; clear hS; have hS := hN; clear hN; obtain ⟨z0, z1, z2, z3⟩ := hS.cells)
    | (go_at_call 28; (first | refine (want_st (by omega) (by omega) hw (by omega) hS).mono ?_ | refine (want_st (by omega) (by omega) hw (by omega) (hS.alloc _)).mono ?_); rintro e wn ⟨rfl, hN⟩; clear hS; have hS := hN; clear hN; obtain ⟨z0, z1, z2, z3⟩ := hS.cells)
    | (go_at_call 29; (first | refine (take_st hw (by omega) hS).mono ?_ | refine (take_st hw (by omega) (hS.alloc _)).mono ?_); rintro e wn ⟨rfl, hN⟩; clear hS; have hS := hN; clear hN; obtain ⟨z0, z1, z2, z3⟩ := hS.cells))
  go_end0
  exact ⟨rfl, by rw [HF.out]; exact (St.done (by omega) hS).forget⟩
theorem does_10c (w0 : World) (s : PS) (kind op a b : Int) (hk : 0 ≤ kind ∧ kind < 256) (ho : 0 ≤ op ∧ op < 256) (hK : kind % 16 = 10) (hO : op % 3 = 2) (hg : Good s) (hw : s.weight ≤ 200000) (w : World) (h : Prog w0 pr s w) :
    Calls Tryz.prog 14 #[.pointer (some ⟨w0.heap.size, 0, none⟩), .agg #[.int .u8 kind, .int .i64 a, .int .i64 b, .int .u8 op]] w fun e w' => e = .returned (.tuple #[]) ∧ Done w0 pr s (doesF s kind op a b) w' := by
  have HF : Hid (doesF s kind op a b = takeF (putF (putF (wantF s 127) 32 0 0) 62 0 (bits .and .i64 b 131071))) := Lib.hid (by unfold doesF; rw [hK]; simp [hO])
  have hS := St.begin hg (step_box h (.cells #[.int .u8 kind, .int .i64 a, .int .i64 b, .int .u8 op] 59))
  clear h hg
  have ok1 := ok_two 62 0 (bits .and .i64 b 131071) (by kernel_rfl) (by omega) (by omega) (by have := low17 b; omega)
  go_enter Tryz.func14, Tryz.ntmps14
  go_wp2_with (first
    | (go_at_call 17; (first | refine (put_st (by first | assumption | decide +kernel) hw (by omega) hS).mono ?_ | refine (put_st (by first | assumption | decide +kernel) hw (by omega) (hS.alloc _)).mono ?_); rintro e wn ⟨rfl, hN⟩; clear hS; have hS := hN; clear hN; obtain ⟨z0, z1, z2, z3⟩ := hS.cells)
    | (go_at_call 27; (first | refine (push_st hw (by omega) hS).mono ?_ | refine (push_st hw (by omega) (hS.alloc _)).mono ?_); rintro e wn ⟨rfl, hN⟩; clear hS; have hS := hN; clear hN; obtain ⟨z0, z1, z2, z3⟩ := hS.cells)
    | (go_at_call 28; (first | refine (want_st (by omega) (by omega) hw (by omega) hS).mono ?_ | refine (want_st (by omega) (by omega) hw (by omega) (hS.alloc _)).mono ?_); rintro e wn ⟨rfl, hN⟩; clear hS; have hS := hN; clear hN; obtain ⟨z0, z1, z2, z3⟩ := hS.cells)
    | (go_at_call 29; (first | refine (take_st hw (by omega) hS).mono ?_ | refine (take_st hw (by omega) (hS.alloc _)).mono ?_); rintro e wn ⟨rfl, hN⟩; clear hS; have hS := hN; clear hN; obtain ⟨z0, z1, z2, z3⟩ := hS.cells))
  go_end0
  exact ⟨rfl, by rw [HF.out]; exact (St.done (by omega) hS).forget⟩
end Go.Proofs.YtomffpibdinkaaaGreatDoor
namespace Go.Proofs.YtomffpibdinkaaaGreatDoor
set_option maxRecDepth 100000
set_option maxHeartbeats 16000000
open Go.RowKit
variable {pr : List (Nat × Obj)}
theorem does_12a (w0 : World) (s : PS) (kind op a b : Int) (hk : 0 ≤ kind ∧ kind < 256) (ho : 0 ≤ op ∧ op < 256) (hK : kind % 16 = 12) (hO : op % 2 = 0) (hg : Good s) (hw : s.weight ≤ 200000) (w : World) (h : Prog w0 pr s w) :
    Calls Tryz.prog 14 #[.pointer (some ⟨w0.heap.size, 0, none⟩), .agg #[.int .u8 kind, .int .i64 a, .int .i64 b, .int .u8 op]] w fun e w' => e = .returned (.tuple #[]) ∧ Done w0 pr s (doesF s kind op a b) w' := by
  have HF : Hid (doesF s kind op a b = opensF (takeF (wantF s 127)) 4 64) := Lib.hid (by unfold doesF; rw [hK]; rfl)
  have hS := St.begin hg (step_box h (.cells #[.int .u8 kind, .int .i64 a, .int .i64 b, .int .u8 op] 59))
  clear h hg
  go_enter Tryz.func14, Tryz.ntmps14
  go_wp2_with (first
    | (go_at_call 17; (first | refine (put_st (by first | assumption | decide +kernel) hw (by omega) hS).mono ?_ | refine (put_st (by first | assumption | decide +kernel) hw (by omega) (hS.alloc _)).mono ?_); rintro e wn ⟨rfl, hN⟩; clear hS; have hS := hN; clear hN; obtain ⟨z0, z1, z2, z3⟩ := hS.cells)
    | (go_at_call 30; refine (opens_st (by omega) (by omega) hw (by omega) hS).mono ?_; rintro e wn ⟨rfl, hD⟩)
    | (go_at_call 27; (first | refine (push_st hw (by omega) hS).mono ?_ | refine (push_st hw (by omega) (hS.alloc _)).mono ?_); rintro e wn ⟨rfl, hN⟩; clear hS; have hS := hN; clear hN; obtain ⟨z0, z1, z2, z3⟩ := hS.cells)
    | (go_at_call 28; (first | refine (want_st (by omega) (by omega) hw (by omega) hS).mono ?_ | refine (want_st (by omega) (by omega) hw (by omega) (hS.alloc _)).mono ?_); rintro e wn ⟨rfl, hN⟩; clear hS; have hS := hN; clear hN; obtain ⟨z0, z1, z2, z3⟩ := hS.cells)
    | (go_at_call 29; (first | refine (take_st hw (by omega) hS).mono ?_ | refine (take_st hw (by omega) (hS.alloc _)).mono ?_); rintro e wn ⟨rfl, hN⟩; clear hS; have hS := hN; clear hN; obtain ⟨z0, z1, z2, z3⟩ := hS.cells))
  go_end0
  exact ⟨rfl, by rw [HF.out]; exact hD.forget⟩
theorem does_12b (w0 : World) (s : PS) (kind op a b : Int) (hk : 0 ≤ kind ∧ kind < 256) (ho : 0 ≤ op ∧ op < 256) (hK : kind % 16 = 12) (hO : op % 2 = 1) (hg : Good s) (hw : s.weight ≤ 200000) (w : World) (h : Prog w0 pr s w) :
    Calls Tryz.prog 14 #[.pointer (some ⟨w0.heap.size, 0, none⟩), .agg #[.int .u8 kind, .int .i64 a, .int .i64 b, .int .u8 op]] w fun e w' => e = .returned (.tuple #[]) ∧ Done w0 pr s (doesF s kind op a b) w' := by
  have HF : Hid (doesF s kind op a b = opensF (takeF (wantF s 127)) 4 64) := Lib.hid (by unfold doesF; rw [hK]; rfl)
  have hS := St.begin hg (step_box h (.cells #[.int .u8 kind, .int .i64 a, .int .i64 b, .int .u8 op] 59))
  clear h hg
  go_enter Tryz.func14, Tryz.ntmps14
  go_wp2_with (first
    | (go_at_call 17; (first | refine (put_st (by first | assumption | decide +kernel) hw (by omega) hS).mono ?_ | refine (put_st (by first | assumption | decide +kernel) hw (by omega) (hS.alloc _)).mono ?_); rintro e wn ⟨rfl, hN⟩; clear hS; have hS := hN; clear hN; obtain ⟨z0, z1, z2, z3⟩ := hS.cells)
    | (go_at_call 30; refine (opens_st (by omega) (by omega) hw (by omega) hS).mono ?_; rintro e wn ⟨rfl, hD⟩)
    | (go_at_call 27; (first | refine (push_st hw (by omega) hS).mono ?_ | refine (push_st hw (by omega) (hS.alloc _)).mono ?_); rintro e wn ⟨rfl, hN⟩; clear hS; have hS := hN; clear hN; obtain ⟨z0, z1, z2, z3⟩ := hS.cells)
    | (go_at_call 28; (first | refine (want_st (by omega) (by omega) hw (by omega) hS).mono ?_ | refine (want_st (by omega) (by omega) hw (by omega) (hS.alloc _)).mono ?_); rintro e wn ⟨rfl, hN⟩; clear hS; have hS := hN; clear hN; obtain ⟨z0, z1, z2, z3⟩ := hS.cells)
    | (go_at_call 29; (first | refine (take_st hw (by omega) hS).mono ?_ | refine (take_st hw (by omega) (hS.alloc _)).mono ?_); rintro e wn ⟨rfl, hN⟩; clear hS; have hS := hN; clear hN; obtain ⟨z0, z1, z2, z3⟩ := hS.cells))
  go_end0
  exact ⟨rfl, by rw [HF.out]; exact hD.forget⟩
theorem does_14a (w0 : World) (s : PS) (kind op a b : Int) (hk : 0 ≤ kind ∧ kind < 256) (ho : 0 ≤ op ∧ op < 256) (hK : kind % 16 = 14) (hO : op % 2 = 0) (hg : Good s) (hw : s.weight ≤ 200000) (w : World) (h : Prog w0 pr s w) :
    Calls Tryz.prog 14 #[.pointer (some ⟨w0.heap.size, 0, none⟩), .agg #[.int .u8 kind, .int .i64 a, .int .i64 b, .int .u8 op]] w fun e w' => e = .returned (.tuple #[]) ∧ Done w0 pr s (doesF s kind op a b) w' := by
  have hF : doesF s kind op a b = jumpsF s op.toNat := by unfold doesF; rw [hK]; rfl
  obtain ⟨n, rfl⟩ : ∃ n : Nat, op = n := ⟨op.toNat, by omega⟩
  rw [Int.toNat_natCast] at hF
  have hS := step_box h (.cells #[.int .u8 kind, .int .i64 a, .int .i64 b, .int .u8 n] 59)
  clear h
  have HF := Lib.hid hF
  clear hF
  go_enter Tryz.func14, Tryz.ntmps14
  go_wp2_with (go_at_call 31; refine (jumps_st n (by omega) hg hw hS).mono ?_; rintro e wn ⟨rfl, hD⟩)
  go_end0
  exact ⟨rfl, by rw [HF.out]; exact hD.forget⟩
theorem does_14b (w0 : World) (s : PS) (kind op a b : Int) (hk : 0 ≤ kind ∧ kind < 256) (ho : 0 ≤ op ∧ op < 256) (hK : kind % 16 = 14) (hO : op % 2 = 1) (hg : Good s) (hw : s.weight ≤ 200000) (w : World) (h : Prog w0 pr s w) :
    Calls Tryz.prog 14 #[.pointer (some ⟨w0.heap.size, 0, none⟩), .agg #[.int .u8 kind, .int .i64 a, .int .i64 b, .int .u8 op]] w fun e w' => e = .returned (.tuple #[]) ∧ Done w0 pr s (doesF s kind op a b) w' := by
  have hF : doesF s kind op a b = jumpsF s op.toNat := by unfold doesF; rw [hK]; rfl
  obtain ⟨n, rfl⟩ : ∃ n : Nat, op = n := ⟨op.toNat, by omega⟩
  rw [Int.toNat_natCast] at hF
  have hS := step_box h (.cells #[.int .u8 kind, .int .i64 a, .int .i64 b, .int .u8 n] 59)
  clear h
  have HF := Lib.hid hF
  clear hF
  go_enter Tryz.func14, Tryz.ntmps14
  go_wp2_with (go_at_call 31; refine (jumps_st n (by omega) hg hw hS).mono ?_; rintro e wn ⟨rfl, hD⟩)
  go_end0
  exact ⟨rfl, by rw [HF.out]; exact hD.forget⟩
variable {pr : List (Nat × Obj)}
theorem St.drew {w0 w : World} {s f : PS} {d k : Nat} (h : St w0 pr s f d k w) : St w0 pr s f d k w.drew := by
  obtain ⟨h1, h2, h3, h4, cv, sv, ov, h5⟩ := h
  exact ⟨h1, h2, h3, h4, cv, sv, ov, h5.drew⟩
theorem St.drewN {w0 w : World} {s f : PS} {d k : Nat} (h : St w0 pr s f d k w) (q : Nat) : St w0 pr s f d k (w.drewN q) := by
  obtain ⟨h1, h2, h3, h4, cv, sv, ov, h5⟩ := h
  exact ⟨h1, h2, h3, h4, cv, sv, ov, h5.drewN q⟩
theorem does_11a (w0 : World) (s : PS) (kind op a b : Int) (hk : 0 ≤ kind ∧ kind < 256) (ho : 0 ≤ op ∧ op < 256) (hK : kind % 16 = 11) (hO : op % 2 = 0) (hO3 : op / 2 % 3 = 0) (hg : Good s) (hw : s.weight ≤ 200000) (w : World) (h : Prog w0 pr s w) :
    Calls Tryz.prog 14 #[.pointer (some ⟨w0.heap.size, 0, none⟩), .agg #[.int .u8 kind, .int .i64 a, .int .i64 b, .int .u8 op]] w fun e w' => e = .returned (.tuple #[]) ∧ Done w0 pr s (doesF s kind op a b) w' := by
  have HF : Hid (doesF s kind op a b = opensF s 2 64) := Lib.hid (by unfold doesF; rw [hK]; simp [hO, hO3])
  have hS := St.begin hg (step_box h (.cells #[.int .u8 kind, .int .i64 a, .int .i64 b, .int .u8 op] 59))
  clear h hg
  have hE : (IntKind.u8.wrap (op.tdiv 2)).tmod 3 = 0 := by
    rw [show IntKind.u8.wrap (op.tdiv 2) = op / 2 by rw [Int.tdiv_eq_ediv_of_nonneg ho.1, IntKind.wrap_u8]; omega, Int.tmod_eq_emod_of_nonneg (by omega)]; exact hO3
  have hM : IntKind.i64.wrap (2 + (IntKind.i64.wrap op).tmod 2) = 2 := by
    rw [show IntKind.i64.wrap op = op by rw [IntKind.wrap_i64]; omega, Int.tmod_eq_emod_of_nonneg ho.1, hO]; decide
  go_enter Tryz.func14, Tryz.ntmps14
  go_wp2
  go_region_with (go_at_call 30; refine (opens_st (by omega) (by omega) hw (by omega) ((hS.alloc _).drew)).mono ?_; rintro e wn ⟨rfl, hD⟩)
  all_goals (go_wp2; go_end0; exact ⟨rfl, by rw [HF.out]; exact hD.forget⟩)
theorem does_11b (w0 : World) (s : PS) (kind op a b : Int) (hk : 0 ≤ kind ∧ kind < 256) (ho : 0 ≤ op ∧ op < 256) (hK : kind % 16 = 11) (hO : op % 2 = 1) (hO3 : op / 2 % 3 = 0) (hg : Good s) (hw : s.weight ≤ 200000) (w : World) (h : Prog w0 pr s w) :
    Calls Tryz.prog 14 #[.pointer (some ⟨w0.heap.size, 0, none⟩), .agg #[.int .u8 kind, .int .i64 a, .int .i64 b, .int .u8 op]] w fun e w' => e = .returned (.tuple #[]) ∧ Done w0 pr s (doesF s kind op a b) w' := by
  have HF : Hid (doesF s kind op a b = opensF s 3 64) := Lib.hid (by unfold doesF; rw [hK]; simp [hO, hO3])
  have hS := St.begin hg (step_box h (.cells #[.int .u8 kind, .int .i64 a, .int .i64 b, .int .u8 op] 59))
  clear h hg
  have hE : (IntKind.u8.wrap (op.tdiv 2)).tmod 3 = 0 := by
    rw [show IntKind.u8.wrap (op.tdiv 2) = op / 2 by rw [Int.tdiv_eq_ediv_of_nonneg ho.1, IntKind.wrap_u8]; omega, Int.tmod_eq_emod_of_nonneg (by omega)]; exact hO3
  have hM : IntKind.i64.wrap (2 + (IntKind.i64.wrap op).tmod 2) = 3 := by
    rw [show IntKind.i64.wrap op = op by rw [IntKind.wrap_i64]; omega, Int.tmod_eq_emod_of_nonneg ho.1, hO]; decide
  go_enter Tryz.func14, Tryz.ntmps14
  go_wp2
  go_region_with (go_at_call 30; refine (opens_st (by omega) (by omega) hw (by omega) ((hS.alloc _).drew)).mono ?_; rintro e wn ⟨rfl, hD⟩)
  all_goals (go_wp2; go_end0; exact ⟨rfl, by rw [HF.out]; exact hD.forget⟩)
end Go.Proofs.YtomffpibdinkaaaGreatDoor
namespace Go.Proofs.YtomffpibdinkaaaGreatDoor
set_option maxRecDepth 100000
set_option maxHeartbeats 16000000
open Go.RowKit
variable {pr : List (Nat × Obj)}
theorem does_11c (w0 : World) (s : PS) (kind op a b : Int) (hk : 0 ≤ kind ∧ kind < 256) (ho : 0 ≤ op ∧ op < 256) (hK : kind % 16 = 11) (hO : op % 2 = 0) (hO3 : op / 2 % 3 = 1) (hg : Good s) (hw : s.weight ≤ 200000) (w : World) (h : Prog w0 pr s w) :
    Calls Tryz.prog 14 #[.pointer (some ⟨w0.heap.size, 0, none⟩), .agg #[.int .u8 kind, .int .i64 a, .int .i64 b, .int .u8 op]] w fun e w' => e = .returned (.tuple #[]) ∧ Done w0 pr s (doesF s kind op a b) w' := by
  have HF : Hid (doesF s kind op a b = opensF s 2 127) := Lib.hid (by unfold doesF; rw [hK]; simp [hO, hO3])
  have hS := St.begin hg (step_box h (.cells #[.int .u8 kind, .int .i64 a, .int .i64 b, .int .u8 op] 59))
  clear h hg
  have hE : (IntKind.u8.wrap (op.tdiv 2)).tmod 3 = 1 := by
    rw [show IntKind.u8.wrap (op.tdiv 2) = op / 2 by rw [Int.tdiv_eq_ediv_of_nonneg ho.1, IntKind.wrap_u8]; omega, Int.tmod_eq_emod_of_nonneg (by omega)]; exact hO3
  have hM : IntKind.i64.wrap (2 + (IntKind.i64.wrap op).tmod 2) = 2 := by
    rw [show IntKind.i64.wrap op = op by rw [IntKind.wrap_i64]; omega, Int.tmod_eq_emod_of_nonneg ho.1, hO]; decide
  go_enter Tryz.func14, Tryz.ntmps14
  go_wp2
  go_region_with (go_at_call 30; refine (opens_st (by omega) (by omega) hw (by omega) ((hS.alloc _).drew)).mono ?_; rintro e wn ⟨rfl, hD⟩)
  all_goals (go_wp2; go_end0; exact ⟨rfl, by rw [HF.out]; exact hD.forget⟩)
theorem does_11d (w0 : World) (s : PS) (kind op a b : Int) (hk : 0 ≤ kind ∧ kind < 256) (ho : 0 ≤ op ∧ op < 256) (hK : kind % 16 = 11) (hO : op % 2 = 1) (hO3 : op / 2 % 3 = 1) (hg : Good s) (hw : s.weight ≤ 200000) (w : World) (h : Prog w0 pr s w) :
    Calls Tryz.prog 14 #[.pointer (some ⟨w0.heap.size, 0, none⟩), .agg #[.int .u8 kind, .int .i64 a, .int .i64 b, .int .u8 op]] w fun e w' => e = .returned (.tuple #[]) ∧ Done w0 pr s (doesF s kind op a b) w' := by
  have HF : Hid (doesF s kind op a b = opensF s 3 127) := Lib.hid (by unfold doesF; rw [hK]; simp [hO, hO3])
  have hS := St.begin hg (step_box h (.cells #[.int .u8 kind, .int .i64 a, .int .i64 b, .int .u8 op] 59))
  clear h hg
  have hE : (IntKind.u8.wrap (op.tdiv 2)).tmod 3 = 1 := by
    rw [show IntKind.u8.wrap (op.tdiv 2) = op / 2 by rw [Int.tdiv_eq_ediv_of_nonneg ho.1, IntKind.wrap_u8]; omega, Int.tmod_eq_emod_of_nonneg (by omega)]; exact hO3
  have hM : IntKind.i64.wrap (2 + (IntKind.i64.wrap op).tmod 2) = 3 := by
    rw [show IntKind.i64.wrap op = op by rw [IntKind.wrap_i64]; omega, Int.tmod_eq_emod_of_nonneg ho.1, hO]; decide
  go_enter Tryz.func14, Tryz.ntmps14
  go_wp2
  go_region_with (go_at_call 30; refine (opens_st (by omega) (by omega) hw (by omega) ((hS.alloc _).drew)).mono ?_; rintro e wn ⟨rfl, hD⟩)
  all_goals (go_wp2; go_end0; exact ⟨rfl, by rw [HF.out]; exact hD.forget⟩)
variable {pr : List (Nat × Obj)}
theorem does_11e (w0 : World) (s : PS) (kind op a b : Int) (hk : 0 ≤ kind ∧ kind < 256) (ho : 0 ≤ op ∧ op < 256) (hK : kind % 16 = 11) (hO : op % 2 = 0) (hO3 : op / 2 % 3 = 2) (hg : Good s) (hw : s.weight ≤ 200000) (w : World) (h : Prog w0 pr s w) :
    Calls Tryz.prog 14 #[.pointer (some ⟨w0.heap.size, 0, none⟩), .agg #[.int .u8 kind, .int .i64 a, .int .i64 b, .int .u8 op]] w fun e w' => e = .returned (.tuple #[]) ∧ Done w0 pr s (doesF s kind op a b) w' := by
  have HF : Hid (doesF s kind op a b = opensF s 2 126) := Lib.hid (by unfold doesF; rw [hK]; simp [hO, hO3])
  have hS := St.begin hg (step_box h (.cells #[.int .u8 kind, .int .i64 a, .int .i64 b, .int .u8 op] 59))
  clear h hg
  have hE : (IntKind.u8.wrap (op.tdiv 2)).tmod 3 = 2 := by
    rw [show IntKind.u8.wrap (op.tdiv 2) = op / 2 by rw [Int.tdiv_eq_ediv_of_nonneg ho.1, IntKind.wrap_u8]; omega, Int.tmod_eq_emod_of_nonneg (by omega)]; exact hO3
  have hM : IntKind.i64.wrap (2 + (IntKind.i64.wrap op).tmod 2) = 2 := by
    rw [show IntKind.i64.wrap op = op by rw [IntKind.wrap_i64]; omega, Int.tmod_eq_emod_of_nonneg ho.1, hO]; decide
  go_enter Tryz.func14, Tryz.ntmps14
  go_wp2
  go_region_with (go_at_call 30; refine (opens_st (by omega) (by omega) hw (by omega) ((hS.alloc _).drew)).mono ?_; rintro e wn ⟨rfl, hD⟩)
  all_goals (go_wp2; go_end0; exact ⟨rfl, by rw [HF.out]; exact hD.forget⟩)
theorem does_11f (w0 : World) (s : PS) (kind op a b : Int) (hk : 0 ≤ kind ∧ kind < 256) (ho : 0 ≤ op ∧ op < 256) (hK : kind % 16 = 11) (hO : op % 2 = 1) (hO3 : op / 2 % 3 = 2) (hg : Good s) (hw : s.weight ≤ 200000) (w : World) (h : Prog w0 pr s w) :
    Calls Tryz.prog 14 #[.pointer (some ⟨w0.heap.size, 0, none⟩), .agg #[.int .u8 kind, .int .i64 a, .int .i64 b, .int .u8 op]] w fun e w' => e = .returned (.tuple #[]) ∧ Done w0 pr s (doesF s kind op a b) w' := by
  have HF : Hid (doesF s kind op a b = opensF s 3 126) := Lib.hid (by unfold doesF; rw [hK]; simp [hO, hO3])
  have hS := St.begin hg (step_box h (.cells #[.int .u8 kind, .int .i64 a, .int .i64 b, .int .u8 op] 59))
  clear h hg
  have hE : (IntKind.u8.wrap (op.tdiv 2)).tmod 3 = 2 := by
    rw [show IntKind.u8.wrap (op.tdiv 2) = op / 2 by rw [Int.tdiv_eq_ediv_of_nonneg ho.1, IntKind.wrap_u8]; omega, Int.tmod_eq_emod_of_nonneg (by omega)]; exact hO3
  have hM : IntKind.i64.wrap (2 + (IntKind.i64.wrap op).tmod 2) = 3 := by
    rw [show IntKind.i64.wrap op = op by rw [IntKind.wrap_i64]; omega, Int.tmod_eq_emod_of_nonneg ho.1, hO]; decide
  go_enter Tryz.func14, Tryz.ntmps14
  go_wp2
  go_region_with (go_at_call 30; refine (opens_st (by omega) (by omega) hw (by omega) ((hS.alloc _).drew)).mono ?_; rintro e wn ⟨rfl, hD⟩)
  all_goals (go_wp2; go_end0; exact ⟨rfl, by rw [HF.out]; exact hD.forget⟩)
end Go.Proofs.YtomffpibdinkaaaGreatDoor
namespace Go.Proofs.YtomffpibdinkaaaGreatDoor
set_option maxRecDepth 100000
set_option maxHeartbeats 16000000
open Go.RowKit
variable {pr : List (Nat × Obj)}
theorem Prog.drew {w0 w : World} {s : PS} (h : Prog w0 pr s w) : Prog w0 pr s w.drew := by
  obtain ⟨cv, sv, ov, h⟩ := h; exact ⟨cv, sv, ov, h.drew⟩
theorem open_set (l : List PO) (o : PO) : (openCells (l ++ [o])).set (l.length * 3) (.int .i64 5) = openCells (l ++ [⟨5, o.result, o.height⟩]) := by
  rw [openCells_snoc, openCells_snoc, List.set_append_right _ _ (by rw [openCells_len]; exact Nat.le_refl _), openCells_len, Nat.sub_self]
  rfl
theorem ProgAt.setOpen {w0 w : World} {s : PS} {cv sv : Value} {g cap : Nat} {l : List PO} {o : PO} (h : ProgAt w0 pr s cv sv (.slice (some ⟨g, 0, none⟩) (l.length + 1) cap) w) (hs : s.opens = l ++ [o]) :
    ProgAt w0 pr { s with opens := l ++ [⟨5, o.result, o.height⟩] } cv sv (.slice (some ⟨g, 0, none⟩) (l.length + 1) cap) (w.setCell ⟨g, l.length * 3, none⟩ (.int .i64 5)) := by
  have hsz := h.size
  have hl : s.opens.length = l.length + 1 := by rw [hs]; simp
  have hS := h.opens
  rw [hl] at hS
  have hge := own_ge hS g rfl
  have hgr : w.grownBy (w.setCell ⟨g, l.length * 3, none⟩ (.int .i64 5)) (some g) := ⟨rfl, rfl, rfl, by simp [World.setCell], fun k hk hne => Below.heap_setCell w _ _ k (fun e => hne (by rw [e]))⟩
  have hkeep : ∀ {u : Value} {n : Nat} {e : TypeId} {sz : Nat} {xs : List Value}, w.ownsRow (w0.heap.size + 1) e sz u n xs → apart (.slice (some ⟨g, 0, none⟩) (l.length + 1) cap) u → (w.setCell ⟨g, l.length * 3, none⟩ (.int .i64 5)).ownsRow (w0.heap.size + 1) e sz u n xs := fun {u n e sz xs} ho ha => ho.kept hgr (by
    cases hu : u.ownBlock with
    | none => exact .inl rfl
    | some k => exact .inr fun e => ha g rfl (by rw [hu, e]))
  have hstk : (w.setCell ⟨g, l.length * 3, none⟩ (.int .i64 5)).ownsRow (w0.heap.size + 1) 68 3 (.slice (some ⟨g, 0, none⟩) (l.length + 1) cap) (l ++ [(⟨5, o.result, o.height⟩ : PO)]).length (openCells (l ++ [⟨5, o.result, o.height⟩])) := by
    have := (hS.stored (l.length * 3) (.int .i64 5)).1
    rw [hs, open_set] at this
    simpa using this
  exact ⟨h.below.setCell (by show w0.heap.size ≤ g; omega) _, by simp [World.setCell]; omega, by rw [Below.heap_setCell w _ _ _ (by show w0.heap.size ≠ g; omega)]; exact h.at3, hkeep h.code h.co.symm, hkeep h.stack h.so.symm, hstk, h.cs, h.co, h.so, fun p hp => by
    obtain ⟨k1, k2, k3, k4, k5⟩ := h.keep p hp
    exact ⟨by rw [Below.heap_setCell w _ _ _ (fun e => k5 (by rw [e]; rfl))]; exact k1, k2, k3, k4, k5⟩⟩
theorem does_13n (w0 : World) (s : PS) (kind op a b : Int) (hk : 0 ≤ kind ∧ kind < 256) (ho : 0 ≤ op ∧ op < 256) (hK : kind % 16 = 13) (h0 : s.opens = []) (hg : Good s) (w : World) (h : Prog w0 pr s w) :
    Calls Tryz.prog 14 #[.pointer (some ⟨w0.heap.size, 0, none⟩), .agg #[.int .u8 kind, .int .i64 a, .int .i64 b, .int .u8 op]] w fun e w' => e = .returned (.tuple #[]) ∧ Done w0 pr s (doesF s kind op a b) w' := by
  have hF : doesF s kind op a b = s := by unfold doesF; rw [hK, h0]; rfl
  rw [hF]
  have hS := step_box h (.cells #[.int .u8 kind, .int .i64 a, .int .i64 b, .int .u8 op] 59)
  obtain ⟨cv, sv, ov, h⟩ := h
  obtain ⟨c0, c1, c2, f0, f1, f2⟩ := prog_cells h
  have hsz := h.size
  have hO := h.opens
  rw [h0] at hO
  obtain ⟨op', oc, rfl⟩ := own_any hO
  have k2 := fun o => (World.cell?_alloc_lt w o (⟨w0.heap.size, 2, none⟩ : Addr) (by show w0.heap.size < _; omega)).trans c2
  have HD : Hid (Done w0 pr s s (w.alloc (.cells #[.int .u8 kind, .int .i64 a, .int .i64 b, .int .u8 op] 59))) := Lib.hid ⟨hg, by omega, hS.forget⟩
  simp only [List.length_nil] at k2
  clear h hO hS hg h0
  go_enter Tryz.func14, Tryz.ntmps14
  go_wp2
  go_end0
  exact ⟨rfl, HD.out⟩
theorem does_13s (w0 : World) (s : PS) (l : List PO) (o : PO) (hs : s.opens = l ++ [o]) (kind op a b : Int) (hk : 0 ≤ kind ∧ kind < 256) (ho : 0 ≤ op ∧ op < 256) (hK : kind % 16 = 13) (hne : ¬ (o.op = 4 ∧ op % 2 = 0)) (hg : Good s) (hw : s.weight ≤ 200000) (w : World) (h : Prog w0 pr s w) :
    Calls Tryz.prog 14 #[.pointer (some ⟨w0.heap.size, 0, none⟩), .agg #[.int .u8 kind, .int .i64 a, .int .i64 b, .int .u8 op]] w fun e w' => e = .returned (.tuple #[]) ∧ Done w0 pr s (doesF s kind op a b) w' := by
  have hF : doesF s kind op a b = shutF s := by
    unfold doesF; rw [hK, hs]; simp only [List.getLast?_append, List.getLast?_singleton, Option.some_or]; rw [if_neg hne]; simp
  rw [hF]
  obtain ⟨oo, r, m⟩ := o
  have hB := step_box h (.cells #[.int .u8 kind, .int .i64 a, .int .i64 b, .int .u8 op] 59)
  have hC := step_box hB (.cells #[.int .i64 oo, .int .u8 r, .int .i64 m] 68)
  have hC' := Prog.drew hC
  have cs' := shut_st hg (by rw [hs]; simp) hw hC'
  clear hB hC hC'
  obtain ⟨cv, sv, ov, h⟩ := h
  obtain ⟨c0, c1, c2, f0, f1, f2⟩ := prog_cells h
  have hsz := h.size
  have hO := h.opens
  have hlen : s.opens.length = l.length + 1 := by rw [hs]; simp
  rw [hlen, hs] at hO
  obtain ⟨g, oc, rfl, hb, hg2, hcap, hcell, _⟩ := own_block hO
  have x0 : w.cell? ⟨g, l.length * 3, none⟩ = some (.int .i64 oo) := hcell _ _ (openCells_last l ⟨oo, r, m⟩ 0 (by omega))
  have x1 : w.cell? ⟨g, l.length * 3 + 1, none⟩ = some (.int .u8 r) := hcell _ _ (by rw [openCells_last l _ 1 (by omega)]; rfl)
  have x2 : w.cell? ⟨g, l.length * 3 + 2, none⟩ = some (.int .i64 m) := hcell _ _ (by rw [openCells_last l _ 2 (by omega)]; rfl)
  have hw' : s.code.length + 4 * s.stack.length + 8 * s.opens.length ≤ 200000 := hw
  have hn1 : l.length ≤ 900000 := by omega
  have k2 := fun o => (World.cell?_alloc_lt w o (⟨w0.heap.size, 2, none⟩ : Addr) (by show w0.heap.size < _; omega)).trans c2
  have k3 := fun o o' => (World.cell?_alloc_lt (w.alloc o) o' (⟨w0.heap.size, 2, none⟩ : Addr) (by show w0.heap.size < _; simp; omega)).trans (k2 o)
  have y0 := fun o => (World.cell?_alloc_lt w o (⟨g, l.length * 3, none⟩ : Addr) (by show g < _; omega)).trans x0
  have t0 := fun o o' => (World.cell?_alloc_lt (w.alloc o) o' (⟨g, l.length * 3, none⟩ : Addr) (by show g < _; simp; omega)).trans (y0 o)
  have y1 := fun o => (World.cell?_alloc_lt w o (⟨g, l.length * 3 + 1, none⟩ : Addr) (by show g < _; omega)).trans x1
  have t1 := fun o o' => (World.cell?_alloc_lt (w.alloc o) o' (⟨g, l.length * 3 + 1, none⟩ : Addr) (by show g < _; simp; omega)).trans (y1 o)
  have y2 := fun o => (World.cell?_alloc_lt w o (⟨g, l.length * 3 + 2, none⟩ : Addr) (by show g < _; omega)).trans x2
  have t2 := fun o o' => (World.cell?_alloc_lt (w.alloc o) o' (⟨g, l.length * 3 + 2, none⟩ : Addr) (by show g < _; simp; omega)).trans (y2 o)
  generalize l.length = n at *
  simp only at hne
  have HN := Lib.hid hne
  clear h hO hcell hlen hs hne
  by_cases h4 : oo = 4
  · have hO2 : op % 2 = 1 := by have := HN.out; omega
    subst h4
    go_enter Tryz.func14, Tryz.ntmps14
    go_wp2
    go_region
    go_wp2_with (go_at_call 15; refine cs'.mono ?_; rintro e w1 ⟨rfl, h1, h2, h3, h5⟩)
    go_end0
    exact ⟨rfl, h1, by omega, h5.forget.forget⟩
  · have n4 : (oo == 4) = false := beq_eq_false_iff_ne.2 h4
    clear h4
    go_enter Tryz.func14, Tryz.ntmps14
    go_wp2
    go_region
    go_wp2_with (go_at_call 15; refine cs'.mono ?_; rintro e w1 ⟨rfl, h1, h2, h3, h5⟩)
    go_end0
    exact ⟨rfl, h1, by omega, h5.forget.forget⟩
theorem does_13e (w0 : World) (s : PS) (l : List PO) (r : Int) (m : Nat) (hs : s.opens = l ++ [⟨4, r, m⟩]) (kind op a b : Int) (hk : 0 ≤ kind ∧ kind < 256) (ho : 0 ≤ op ∧ op < 256) (hK : kind % 16 = 13) (hO2 : op % 2 = 0) (hg : Good s) (hw : s.weight ≤ 200000) (w : World) (h : Prog w0 pr s w) :
    Calls Tryz.prog 14 #[.pointer (some ⟨w0.heap.size, 0, none⟩), .agg #[.int .u8 kind, .int .i64 a, .int .i64 b, .int .u8 op]] w fun e w' => e = .returned (.tuple #[]) ∧ Done w0 pr s (doesF s kind op a b) w' := by
  have hF0 : doesF s kind op a b = elseF s ⟨4, r, m⟩ := by
    unfold doesF; rw [hK, hs]; simp [hO2]
  rw [hF0]
  have hB := step_box h (.cells #[.int .u8 kind, .int .i64 a, .int .i64 b, .int .u8 op] 59)
  have hC := step_box hB (.cells #[.int .i64 4, .int .u8 r, .int .i64 m] 68)
  have hC' := Prog.drew hC
  have hw' : s.code.length + 4 * s.stack.length + 8 * s.opens.length ≤ 200000 := hw
  have hr := (hg.opens ⟨4, r, m⟩ (by rw [hs]; simp)).2
  have hm : m ≤ s.stack.length := hg.under ⟨4, r, m⟩ (by rw [hs]; simp)
  have hth : topHeight s = m := by unfold topHeight; rw [hs]; simp
  have cl := level_of w0 s 4 r m hr hth hm (by omega) (by omega) _ hC'
  have cp := fun (c : List PI) (hcn : c.length ≤ 1 + 3 * (s.stack.length - m)) W hP => put_of (pr := ((w.alloc (.cells #[.int .u8 kind, .int .i64 a, .int .i64 b, .int .u8 op] 59)).heap.size, .cells #[.int .i64 4, .int .u8 r, .int .i64 m] 68) :: (w.heap.size, .cells #[.int .u8 kind, .int .i64 a, .int .i64 b, .int .u8 op] 59) :: pr) w0 { s with code := s.code ++ c, stack := s.stack.take m } 5 0 0 (by simp only [List.length_append]; omega) W hP
  have hF := fun (c : List PI) (hc : c.all okPI = true) => hg.elsed l ⟨4, r, m⟩ hs rfl c hc
  clear hB hC hC'
  obtain ⟨cv, sv, ov, h⟩ := h
  obtain ⟨c0, c1, c2, f0, f1, f2⟩ := prog_cells h
  have hsz := h.size
  have hO := h.opens
  have hlen : s.opens.length = l.length + 1 := by rw [hs]; simp
  rw [hlen, hs] at hO
  obtain ⟨g, oc, rfl, hb, hg2, hcap, hcell, _⟩ := own_block hO
  have x0 : w.cell? ⟨g, l.length * 3, none⟩ = some (.int .i64 4) := hcell _ _ (openCells_last l ⟨4, r, m⟩ 0 (by omega))
  have x1 : w.cell? ⟨g, l.length * 3 + 1, none⟩ = some (.int .u8 r) := hcell _ _ (by rw [openCells_last l _ 1 (by omega)]; rfl)
  have x2 : w.cell? ⟨g, l.length * 3 + 2, none⟩ = some (.int .i64 m) := hcell _ _ (by rw [openCells_last l _ 2 (by omega)]; rfl)
  have hn1 : l.length ≤ 900000 := by omega
  obtain ⟨n, hn⟩ : ∃ n, l.length = n := ⟨_, rfl⟩
  rw [hn] at c2 x0 x1 x2 hn1 hcap
  have k2 := fun o => (World.cell?_alloc_lt w o (⟨w0.heap.size, 2, none⟩ : Addr) (by show w0.heap.size < _; omega)).trans c2
  have k3 := fun o o' => (World.cell?_alloc_lt (w.alloc o) o' (⟨w0.heap.size, 2, none⟩ : Addr) (by show w0.heap.size < _; simp; omega)).trans (k2 o)
  have y0 := fun o => (World.cell?_alloc_lt w o (⟨g, n * 3, none⟩ : Addr) (by show g < _; omega)).trans x0
  have t0 := fun o o' => (World.cell?_alloc_lt (w.alloc o) o' (⟨g, n * 3, none⟩ : Addr) (by show g < _; simp; omega)).trans (y0 o)
  have y1 := fun o => (World.cell?_alloc_lt w o (⟨g, n * 3 + 1, none⟩ : Addr) (by show g < _; omega)).trans x1
  have t1 := fun o o' => (World.cell?_alloc_lt (w.alloc o) o' (⟨g, n * 3 + 1, none⟩ : Addr) (by show g < _; simp; omega)).trans (y1 o)
  have y2 := fun o => (World.cell?_alloc_lt w o (⟨g, n * 3 + 2, none⟩ : Addr) (by show g < _; omega)).trans x2
  have t2 := fun o o' => (World.cell?_alloc_lt (w.alloc o) o' (⟨g, n * 3 + 2, none⟩ : Addr) (by show g < _; simp; omega)).trans (y2 o)
  have HN := Lib.hid hn
  have HS := Lib.hid hs
  have HW := Lib.hid hw'
  clear h hO hcell hlen hs hn hw' hth
  go_enter Tryz.func14, Tryz.ntmps14
  go_wp2
  go_region
  go_wp2_with (first
    | (go_at_call 16; refine cl.mono ?_; rintro e w1 ⟨rfl, c, hall, hcn, hlf, hp⟩; have HLF := Lib.hid hlf; clear hlf)
    | (go_at_call 17; refine (cp c hcn _ hp).mono ?_; rintro e w2 ⟨rfl, cv2, sv2, ov2, hA⟩; refine Hid.out ?_))
  obtain ⟨d0, d1, d2, e0, e1, e2⟩ := prog_cells hA
  have hO := hA.opens
  simp only [HS.out, List.length_append, List.length_singleton] at hO
  obtain ⟨g', oc', rfl, hb', hg', hcap', hcell', hfr'⟩ := own_block hO
  have hfin := (hA.setOpen HS.out).drew
  have z0 : w2.cell? ⟨g', l.length * 3, none⟩ = some (.int .i64 4) := hcell' _ _ (openCells_last l ⟨4, r, m⟩ 0 (by omega))
  have z1 := hfr' (l.length * 3)
  rw [HN.out] at d2 hcap' z0 z1 hfin
  have HF := Lib.hid hfin
  clear hA hO hcell' hfr' hfin hp cl cp
  refine Lib.hid ?_
  go_wp2
  go_region
  go_wp2
  go_end0
  have hE : elseF s ⟨4, r, m⟩ = { s with code := s.code ++ c ++ [⟨5, 0, 0⟩], stack := s.stack.take m, opens := l ++ [⟨5, r, m⟩] } := by
    unfold elseF; rw [HS.out, HLF.out, List.dropLast_concat]
  rw [hE]
  refine ⟨rfl, hF c hall, ?_, (Prog.forget (Prog.forget ⟨_, _, _, HF.out⟩))⟩
  have := HW.out
  have hl2 : s.opens.length = l.length + 1 := by rw [HS.out]; simp
  unfold PS.weight
  simp only [List.length_append, List.length_singleton, List.length_take]
  omega
end Go.Proofs.YtomffpibdinkaaaGreatDoor
namespace Go.Proofs.YtomffpibdinkaaaGreatDoor
set_option maxRecDepth 100000
set_option maxHeartbeats 16000000
open Go.RowKit
variable {pr : List (Nat × Obj)}
theorem does_13 (w0 : World) (s : PS) (kind op a b : Int) (hk : 0 ≤ kind ∧ kind < 256) (ho : 0 ≤ op ∧ op < 256) (hK : kind % 16 = 13) (hg : Good s) (hw : s.weight ≤ 200000) (w : World) (h : Prog w0 pr s w) :
    Calls Tryz.prog 14 #[.pointer (some ⟨w0.heap.size, 0, none⟩), .agg #[.int .u8 kind, .int .i64 a, .int .i64 b, .int .u8 op]] w fun e w' => e = .returned (.tuple #[]) ∧ Done w0 pr s (doesF s kind op a b) w' := by
  rcases List.eq_nil_or_concat s.opens with e | ⟨l, o, e⟩
  · exact does_13n w0 s kind op a b hk ho hK e hg w h
  · rw [List.concat_eq_append] at e
    by_cases hc : o.op = 4 ∧ op % 2 = 0
    · obtain ⟨oo, r, m⟩ := o
      obtain ⟨h4, h2⟩ := hc
      simp only at h4
      subst h4
      exact does_13e w0 s l r m e kind op a b hk ho hK h2 hg hw w h
    · exact does_13s w0 s l o e kind op a b hk ho hK hc hg hw w h
theorem does_st (w0 : World) (s : PS) (kind op a b : Int) (hk : 0 ≤ kind ∧ kind < 256) (ho : 0 ≤ op ∧ op < 256) (ha : inI64 a) (hg : Good s) (hw : s.weight ≤ 200000) (w : World) (h : Prog w0 pr s w) :
    Calls Tryz.prog 14 #[.pointer (some ⟨w0.heap.size, 0, none⟩), .agg #[.int .u8 kind, .int .i64 a, .int .i64 b, .int .u8 op]] w fun e w' => e = .returned (.tuple #[]) ∧ Done w0 pr s (doesF s kind op a b) w' := by
  have h16 : kind % 16 = 0 ∨ kind % 16 = 1 ∨ kind % 16 = 2 ∨ kind % 16 = 3 ∨ kind % 16 = 4 ∨ kind % 16 = 5 ∨ kind % 16 = 6 ∨ kind % 16 = 7 ∨ kind % 16 = 8 ∨ kind % 16 = 9 ∨ kind % 16 = 10 ∨ kind % 16 = 11 ∨ kind % 16 = 12 ∨ kind % 16 = 13 ∨ kind % 16 = 14 ∨ kind % 16 = 15 := by omega
  rcases h16 with hK | hK | hK | hK | hK | hK | hK | hK | hK | hK | hK | hK | hK | hK | hK | hK
  · have hm : op % 2 = 0 ∨ op % 2 = 1 := by omega
    rcases hm with hO | hO
    · exact does_0a w0 s kind op a b hk ho ha hK hO hg hw w h
    · exact does_0b w0 s kind op a b hk ho hK hO hg hw w h
  · have hm : op % 2 = 0 ∨ op % 2 = 1 := by omega
    rcases hm with hO | hO
    · exact does_1a w0 s kind op a b hk ho ha hK hO hg hw w h
    · exact does_1b w0 s kind op a b hk ho hK hO hg hw w h
  · have hm : op % 2 = 0 ∨ op % 2 = 1 := by omega
    rcases hm with hO | hO
    · exact does_2a w0 s kind op a b hk ho hK hO hg hw w h
    · exact does_2b w0 s kind op a b hk ho hK hO hg hw w h
  · have hm : op % 2 = 0 ∨ op % 2 = 1 := by omega
    rcases hm with hO | hO
    · exact does_3a w0 s kind op a b hk ho hK hO hg hw w h
    · exact does_3b w0 s kind op a b hk ho hK hO hg hw w h
  · have hm : op % 2 = 0 ∨ op % 2 = 1 := by omega
    rcases hm with hO | hO
    · exact does_4a w0 s kind op a b hk ho hK hO hg hw w h
    · exact does_4b w0 s kind op a b hk ho hK hO hg hw w h
  · have hm : op % 4 = 0 ∨ op % 4 = 1 ∨ op % 4 = 2 ∨ op % 4 = 3 := by omega
    rcases hm with hO | hO | hO | hO
    · exact does_5a w0 s kind op a b hk ho hK hO hg hw w h
    · exact does_5b w0 s kind op a b hk ho hK hO hg hw w h
    · exact does_5c w0 s kind op a b hk ho hK hO hg hw w h
    · exact does_5d w0 s kind op a b hk ho hK hO hg hw w h
  · have hm : op % 4 = 0 ∨ op % 4 = 1 ∨ op % 4 = 2 ∨ op % 4 = 3 := by omega
    rcases hm with hO | hO | hO | hO
    · exact does_6a w0 s kind op a b hk ho hK hO hg hw w h
    · exact does_6b w0 s kind op a b hk ho hK hO hg hw w h
    · exact does_6c w0 s kind op a b hk ho hK hO hg hw w h
    · exact does_6d w0 s kind op a b hk ho hK hO hg hw w h
  · have hm : op % 4 = 0 ∨ op % 4 = 1 ∨ op % 4 = 2 ∨ op % 4 = 3 := by omega
    rcases hm with hO | hO | hO | hO
    · exact does_7a w0 s kind op a b hk ho hK hO hg hw w h
    · exact does_7b w0 s kind op a b hk ho hK hO hg hw w h
    · exact does_7c w0 s kind op a b hk ho hK hO hg hw w h
    · exact does_7d w0 s kind op a b hk ho hK hO hg hw w h
  · have hm : op % 2 = 0 ∨ op % 2 = 1 := by omega
    rcases hm with hO | hO
    · exact does_8a w0 s kind op a b hk ho hK hO hg hw w h
    · exact does_8b w0 s kind op a b hk ho hK hO hg hw w h
  · have hm : op % 3 = 0 ∨ op % 3 = 1 ∨ op % 3 = 2 := by omega
    rcases hm with hO | hO | hO
    · exact does_9a w0 s kind op a b hk ho hK hO hg hw w h
    · exact does_9b w0 s kind op a b hk ho hK hO hg hw w h
    · exact does_9c w0 s kind op a b hk ho hK hO hg hw w h
  · have hm : op % 3 = 0 ∨ op % 3 = 1 ∨ op % 3 = 2 := by omega
    rcases hm with hO | hO | hO
    · exact does_10a w0 s kind op a b hk ho hK hO hg hw w h
    · exact does_10b w0 s kind op a b hk ho hK hO hg hw w h
    · exact does_10c w0 s kind op a b hk ho hK hO hg hw w h
  · have h6 : (op % 2 = 0 ∧ op / 2 % 3 = 0) ∨ (op % 2 = 1 ∧ op / 2 % 3 = 0) ∨ (op % 2 = 0 ∧ op / 2 % 3 = 1) ∨ (op % 2 = 1 ∧ op / 2 % 3 = 1) ∨ (op % 2 = 0 ∧ op / 2 % 3 = 2) ∨ (op % 2 = 1 ∧ op / 2 % 3 = 2) := by omega
    rcases h6 with ⟨hO, hO3⟩ | ⟨hO, hO3⟩ | ⟨hO, hO3⟩ | ⟨hO, hO3⟩ | ⟨hO, hO3⟩ | ⟨hO, hO3⟩
    · exact does_11a w0 s kind op a b hk ho hK hO hO3 hg hw w h
    · exact does_11b w0 s kind op a b hk ho hK hO hO3 hg hw w h
    · exact does_11c w0 s kind op a b hk ho hK hO hO3 hg hw w h
    · exact does_11d w0 s kind op a b hk ho hK hO hO3 hg hw w h
    · exact does_11e w0 s kind op a b hk ho hK hO hO3 hg hw w h
    · exact does_11f w0 s kind op a b hk ho hK hO hO3 hg hw w h
  · have hm : op % 2 = 0 ∨ op % 2 = 1 := by omega
    rcases hm with hO | hO
    · exact does_12a w0 s kind op a b hk ho hK hO hg hw w h
    · exact does_12b w0 s kind op a b hk ho hK hO hg hw w h
  · exact does_13 w0 s kind op a b hk ho hK hg hw w h
  · have hm : op % 2 = 0 ∨ op % 2 = 1 := by omega
    rcases hm with hO | hO
    · exact does_14a w0 s kind op a b hk ho hK hO hg hw w h
    · exact does_14b w0 s kind op a b hk ho hK hO hg hw w h
  · have hm : op % 3 = 0 ∨ op % 3 = 1 ∨ op % 3 = 2 := by omega
    rcases hm with hO | hO | hO
    · exact does_15a w0 s kind op a b hk ho hK hO hg hw w h
    · exact does_15b w0 s kind op a b hk ho hK hO hg hw w h
    · exact does_15c w0 s kind op a b hk ho hK hO hg hw w h
end Go.Proofs.YtomffpibdinkaaaGreatDoor
