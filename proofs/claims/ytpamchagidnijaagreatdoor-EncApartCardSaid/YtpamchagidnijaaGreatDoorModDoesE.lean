/-
  The program that the statements of chapter 4 put together: a step's other cases: a block is opened; walked. Contracts that the proofs call; no statement is proved here.
-/
import Derived.Test.YtpamchagidnijaaGreatDoorModDoesB
namespace Go.Proofs.YtpamchagidnijaaGreatDoor
open Go.RowKit
variable {pr : List (Nat × Obj)}

theorem St.drew {w0 w : World} {s f : PS} {d k : Nat} (h : St w0 pr s f d k w) : St w0 pr s f d k w.drew := by
  obtain ⟨h1, h2, h3, h4, cv, sv, ov, h5⟩ := h
  exact ⟨h1, h2, h3, h4, cv, sv, ov, h5.drew⟩
theorem St.drewN {w0 w : World} {s f : PS} {d k : Nat} (h : St w0 pr s f d k w) (q : Nat) : St w0 pr s f d k (w.drewN q) := by
  obtain ⟨h1, h2, h3, h4, cv, sv, ov, h5⟩ := h
  exact ⟨h1, h2, h3, h4, cv, sv, ov, h5.drewN q⟩

set_option maxRecDepth 100000 in
set_option maxHeartbeats 8000000 in
theorem does_11a (w0 : World) (s : PS) (kind op a b : Int) (hk : 0 ≤ kind ∧ kind < 256) (ho : 0 ≤ op ∧ op < 256) (hK : kind % 16 = 11) (hO : op % 2 = 0) (hO3 : op / 2 % 3 = 0) (hg : Good s) (hw : s.weight ≤ 200000) (w : World) (h : Prog w0 pr s w) :
    Calls Tryz.prog 28 #[.pointer (some ⟨w0.heap.size, 0, none⟩), .agg #[.int .u8 kind, .int .i64 a, .int .i64 b, .int .u8 op]] w fun e w' => e = .returned (.tuple #[]) ∧ Done w0 pr s (doesF s kind op a b) w' := by
  have HF : Hid (doesF s kind op a b = opensF s 2 64) := Lib.hid (by unfold doesF; rw [hK]; simp [hO, hO3])
  have hS := St.begin hg (step_box h (.cells #[.int .u8 kind, .int .i64 a, .int .i64 b, .int .u8 op] 80))
  clear h hg
  have hE : (IntKind.u8.wrap (op.tdiv 2)).tmod 3 = 0 := by
    rw [show IntKind.u8.wrap (op.tdiv 2) = op / 2 by rw [Int.tdiv_eq_ediv_of_nonneg ho.1, IntKind.wrap_u8]; omega, Int.tmod_eq_emod_of_nonneg (by omega)]; exact hO3
  have hM : IntKind.i64.wrap (2 + (IntKind.i64.wrap op).tmod 2) = 2 := by
    rw [show IntKind.i64.wrap op = op by rw [IntKind.wrap_i64]; omega, Int.tmod_eq_emod_of_nonneg ho.1, hO]; decide
  go_enter Tryz.func28, Tryz.ntmps28
  go_wp2
  go_region_with (go_at_call 99; refine (opens_st (by omega) (by omega) hw (by omega) ((hS.alloc _).drew)).mono ?_; rintro e wn ⟨rfl, hD⟩)
  all_goals (go_wp2; go_end0; exact ⟨rfl, by rw [HF.out]; exact hD.forget⟩)

set_option maxRecDepth 100000 in
set_option maxHeartbeats 8000000 in
theorem does_11b (w0 : World) (s : PS) (kind op a b : Int) (hk : 0 ≤ kind ∧ kind < 256) (ho : 0 ≤ op ∧ op < 256) (hK : kind % 16 = 11) (hO : op % 2 = 1) (hO3 : op / 2 % 3 = 0) (hg : Good s) (hw : s.weight ≤ 200000) (w : World) (h : Prog w0 pr s w) :
    Calls Tryz.prog 28 #[.pointer (some ⟨w0.heap.size, 0, none⟩), .agg #[.int .u8 kind, .int .i64 a, .int .i64 b, .int .u8 op]] w fun e w' => e = .returned (.tuple #[]) ∧ Done w0 pr s (doesF s kind op a b) w' := by
  have HF : Hid (doesF s kind op a b = opensF s 3 64) := Lib.hid (by unfold doesF; rw [hK]; simp [hO, hO3])
  have hS := St.begin hg (step_box h (.cells #[.int .u8 kind, .int .i64 a, .int .i64 b, .int .u8 op] 80))
  clear h hg
  have hE : (IntKind.u8.wrap (op.tdiv 2)).tmod 3 = 0 := by
    rw [show IntKind.u8.wrap (op.tdiv 2) = op / 2 by rw [Int.tdiv_eq_ediv_of_nonneg ho.1, IntKind.wrap_u8]; omega, Int.tmod_eq_emod_of_nonneg (by omega)]; exact hO3
  have hM : IntKind.i64.wrap (2 + (IntKind.i64.wrap op).tmod 2) = 3 := by
    rw [show IntKind.i64.wrap op = op by rw [IntKind.wrap_i64]; omega, Int.tmod_eq_emod_of_nonneg ho.1, hO]; decide
  go_enter Tryz.func28, Tryz.ntmps28
  go_wp2
  go_region_with (go_at_call 99; refine (opens_st (by omega) (by omega) hw (by omega) ((hS.alloc _).drew)).mono ?_; rintro e wn ⟨rfl, hD⟩)
  all_goals (go_wp2; go_end0; exact ⟨rfl, by rw [HF.out]; exact hD.forget⟩)

end Go.Proofs.YtpamchagidnijaaGreatDoor

namespace Go.Proofs.YtpamchagidnijaaGreatDoor
open Go.RowKit
variable {pr : List (Nat × Obj)}

set_option maxRecDepth 100000 in
set_option maxHeartbeats 8000000 in
theorem does_11c (w0 : World) (s : PS) (kind op a b : Int) (hk : 0 ≤ kind ∧ kind < 256) (ho : 0 ≤ op ∧ op < 256) (hK : kind % 16 = 11) (hO : op % 2 = 0) (hO3 : op / 2 % 3 = 1) (hg : Good s) (hw : s.weight ≤ 200000) (w : World) (h : Prog w0 pr s w) :
    Calls Tryz.prog 28 #[.pointer (some ⟨w0.heap.size, 0, none⟩), .agg #[.int .u8 kind, .int .i64 a, .int .i64 b, .int .u8 op]] w fun e w' => e = .returned (.tuple #[]) ∧ Done w0 pr s (doesF s kind op a b) w' := by
  have HF : Hid (doesF s kind op a b = opensF s 2 127) := Lib.hid (by unfold doesF; rw [hK]; simp [hO, hO3])
  have hS := St.begin hg (step_box h (.cells #[.int .u8 kind, .int .i64 a, .int .i64 b, .int .u8 op] 80))
  clear h hg
  have hE : (IntKind.u8.wrap (op.tdiv 2)).tmod 3 = 1 := by
    rw [show IntKind.u8.wrap (op.tdiv 2) = op / 2 by rw [Int.tdiv_eq_ediv_of_nonneg ho.1, IntKind.wrap_u8]; omega, Int.tmod_eq_emod_of_nonneg (by omega)]; exact hO3
  have hM : IntKind.i64.wrap (2 + (IntKind.i64.wrap op).tmod 2) = 2 := by
    rw [show IntKind.i64.wrap op = op by rw [IntKind.wrap_i64]; omega, Int.tmod_eq_emod_of_nonneg ho.1, hO]; decide
  go_enter Tryz.func28, Tryz.ntmps28
  go_wp2
  go_region_with (go_at_call 99; refine (opens_st (by omega) (by omega) hw (by omega) ((hS.alloc _).drew)).mono ?_; rintro e wn ⟨rfl, hD⟩)
  all_goals (go_wp2; go_end0; exact ⟨rfl, by rw [HF.out]; exact hD.forget⟩)

set_option maxRecDepth 100000 in
set_option maxHeartbeats 8000000 in
theorem does_11d (w0 : World) (s : PS) (kind op a b : Int) (hk : 0 ≤ kind ∧ kind < 256) (ho : 0 ≤ op ∧ op < 256) (hK : kind % 16 = 11) (hO : op % 2 = 1) (hO3 : op / 2 % 3 = 1) (hg : Good s) (hw : s.weight ≤ 200000) (w : World) (h : Prog w0 pr s w) :
    Calls Tryz.prog 28 #[.pointer (some ⟨w0.heap.size, 0, none⟩), .agg #[.int .u8 kind, .int .i64 a, .int .i64 b, .int .u8 op]] w fun e w' => e = .returned (.tuple #[]) ∧ Done w0 pr s (doesF s kind op a b) w' := by
  have HF : Hid (doesF s kind op a b = opensF s 3 127) := Lib.hid (by unfold doesF; rw [hK]; simp [hO, hO3])
  have hS := St.begin hg (step_box h (.cells #[.int .u8 kind, .int .i64 a, .int .i64 b, .int .u8 op] 80))
  clear h hg
  have hE : (IntKind.u8.wrap (op.tdiv 2)).tmod 3 = 1 := by
    rw [show IntKind.u8.wrap (op.tdiv 2) = op / 2 by rw [Int.tdiv_eq_ediv_of_nonneg ho.1, IntKind.wrap_u8]; omega, Int.tmod_eq_emod_of_nonneg (by omega)]; exact hO3
  have hM : IntKind.i64.wrap (2 + (IntKind.i64.wrap op).tmod 2) = 3 := by
    rw [show IntKind.i64.wrap op = op by rw [IntKind.wrap_i64]; omega, Int.tmod_eq_emod_of_nonneg ho.1, hO]; decide
  go_enter Tryz.func28, Tryz.ntmps28
  go_wp2
  go_region_with (go_at_call 99; refine (opens_st (by omega) (by omega) hw (by omega) ((hS.alloc _).drew)).mono ?_; rintro e wn ⟨rfl, hD⟩)
  all_goals (go_wp2; go_end0; exact ⟨rfl, by rw [HF.out]; exact hD.forget⟩)

end Go.Proofs.YtpamchagidnijaaGreatDoor
