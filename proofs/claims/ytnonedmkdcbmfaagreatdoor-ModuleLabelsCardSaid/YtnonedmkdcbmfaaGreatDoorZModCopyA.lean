/-
  Package module's Copy: the function values that copy one thing, those without lists in it: walked. Contracts that the proofs call; no statement is proved here.
-/
import Derived.Test.YtnonedmkdcbmfaaGreatDoorZModRight
import Derived.Test.YtnonedmkdcbmfaaGreatDoorZModEqual
import Derived.Deep.RegionHeld3
namespace Go.Proofs.YtnonedmkdcbmfaaGreatDoor
open Go.RowKit

theorem frozen_below {W W' : World} {b o : Nat} {v : Value} (h : W.cell? ⟨b, o, none⟩ = some v) (hf : W.frozen? ⟨b, o, none⟩ = false) (hb : Below W.heap.size W W') : W'.frozen? ⟨b, o, none⟩ = false := (hb.frozen (p := ⟨b, o, none⟩) (in_heap h)).trans hf
theorem keep_2 {W W' : World} {B : Nat} {u0 u1 : Value} (hb : Below W.heap.size W W') (h : W.cell? ⟨B, 0, none⟩ = some u0 ∧ W.cell? ⟨B, 1, none⟩ = some u1) :
    W'.cell? ⟨B, 0, none⟩ = some u0 ∧ W'.cell? ⟨B, 1, none⟩ = some u1 := by
  obtain ⟨h0, h1⟩ := h
  exact ⟨cell_below h0 hb, cell_below h1 hb⟩
theorem keep_3 {W W' : World} {B : Nat} {u0 u1 u2 : Value} (hb : Below W.heap.size W W') (h : W.cell? ⟨B, 0, none⟩ = some u0 ∧ W.cell? ⟨B, 1, none⟩ = some u1 ∧ W.cell? ⟨B, 2, none⟩ = some u2) :
    W'.cell? ⟨B, 0, none⟩ = some u0 ∧ W'.cell? ⟨B, 1, none⟩ = some u1 ∧ W'.cell? ⟨B, 2, none⟩ = some u2 := by
  obtain ⟨h0, h1, h2⟩ := h
  exact ⟨cell_below h0 hb, cell_below h1 hb, cell_below h2 hb⟩
theorem keep_4 {W W' : World} {B : Nat} {u0 u1 u2 u3 : Value} (hb : Below W.heap.size W W') (h : W.cell? ⟨B, 0, none⟩ = some u0 ∧ W.cell? ⟨B, 1, none⟩ = some u1 ∧ W.cell? ⟨B, 2, none⟩ = some u2 ∧ W.cell? ⟨B, 3, none⟩ = some u3) :
    W'.cell? ⟨B, 0, none⟩ = some u0 ∧ W'.cell? ⟨B, 1, none⟩ = some u1 ∧ W'.cell? ⟨B, 2, none⟩ = some u2 ∧ W'.cell? ⟨B, 3, none⟩ = some u3 := by
  obtain ⟨h0, h1, h2, h3⟩ := h
  exact ⟨cell_below h0 hb, cell_below h1 hb, cell_below h2 hb, cell_below h3 hb⟩
theorem keep_7 {W W' : World} {B : Nat} {u0 u1 u2 u3 u4 u5 u6 : Value} (hb : Below W.heap.size W W') (h : W.cell? ⟨B, 0, none⟩ = some u0 ∧ W.cell? ⟨B, 1, none⟩ = some u1 ∧ W.cell? ⟨B, 2, none⟩ = some u2 ∧ W.cell? ⟨B, 3, none⟩ = some u3 ∧ W.cell? ⟨B, 4, none⟩ = some u4 ∧ W.cell? ⟨B, 5, none⟩ = some u5 ∧ W.cell? ⟨B, 6, none⟩ = some u6) :
    W'.cell? ⟨B, 0, none⟩ = some u0 ∧ W'.cell? ⟨B, 1, none⟩ = some u1 ∧ W'.cell? ⟨B, 2, none⟩ = some u2 ∧ W'.cell? ⟨B, 3, none⟩ = some u3 ∧ W'.cell? ⟨B, 4, none⟩ = some u4 ∧ W'.cell? ⟨B, 5, none⟩ = some u5 ∧ W'.cell? ⟨B, 6, none⟩ = some u6 := by
  obtain ⟨h0, h1, h2, h3, h4, h5, h6⟩ := h
  exact ⟨cell_below h0 hb, cell_below h1 hb, cell_below h2 hb, cell_below h3 hb, cell_below h4 hb, cell_below h5 hb, cell_below h6 hb⟩
/-- The result's own cells, behind the first call. -/
theorem two_new {w w1 : World} {cs ds : Array Value} {t u : TypeId} (hb : Below ((w.alloc (.cells cs t)).alloc (.cells ds u)).drew.heap.size ((w.alloc (.cells cs t)).alloc (.cells ds u)).drew w1) : (∀ j, w1.cell? ⟨w.heap.size + 1, j, none⟩ = ds[j]?) ∧ ∀ j, w1.frozen? ⟨w.heap.size + 1, j, none⟩ = false := by
  have hl : w.heap.size + 1 < ((w.alloc (.cells cs t)).alloc (.cells ds u)).drew.heap.size := by show _ < ((w.alloc (.cells cs t)).alloc (.cells ds u)).heap.size; simp
  have hh : w1.heap[w.heap.size + 1]? = some (.cells ds u) := by
    rw [hb.block _ hl]
    show ((w.alloc (.cells cs t)).alloc (.cells ds u)).heap[w.heap.size + 1]? = _
    rw [show w.heap.size + 1 = (w.alloc (.cells cs t)).heap.size by simp]; exact heap_alloc_new _ _
  exact ⟨fun j => by simp [World.cell?, hh], fun j => by simp [World.frozen?, hh]⟩

set_option maxHeartbeats 400000 in
theorem copy_Int (x : Int) (w : World) : Calls Tryz.prog 119 #[.int .i64 x] w fun e w' => e = .returned (.int .i64 x) ∧ Below w.heap.size w w' := by
  go_enter Tryz.func119, Tryz.ntmps119
  go_wp2
  go_ret
  exact ⟨rfl, Below.refl _ _⟩
theorem enters_copy_Int : ∀ args w, (callFunc 119 args).run Tryz.prog w = .ok (.enter 119 args) w := enters_of Tryz.func119 (by kernel_rfl) rfl

set_option maxHeartbeats 400000 in
theorem copy_MemV (x : MemV) (w : World) : Calls Tryz.prog 80 #[x.val] w fun e w' => e = .returned x.val ∧ Below w.heap.size w w' := by
  obtain ⟨a, b⟩ := x
  simp only [MemV.val]
  go_enter Tryz.func80, Tryz.ntmps80
  go_wp2
  refine bodyPost_ret (v := .agg #[.int .i64 a, .int .i64 b]) ?_ rfl ?_
  · rw [results_one_cell rfl]; go_simp
  · exact ⟨rfl, ((Below.refl _ w).alloc (Nat.le_refl _) _).alloc (by simp) _⟩
theorem enters_copy_MemV : ∀ args w, (callFunc 80 args).run Tryz.prog w = .ok (.enter 80 args) w := enters_of Tryz.func80 (by kernel_rfl) rfl

set_option maxHeartbeats 400000 in
theorem copy_GlobV (x : GlobV) (w : World) : Calls Tryz.prog 82 #[x.val] w fun e w' => e = .returned x.val ∧ Below w.heap.size w w' := by
  obtain ⟨a, b, c⟩ := x
  simp only [GlobV.val]
  go_enter Tryz.func82, Tryz.ntmps82
  go_wp2
  refine bodyPost_ret (v := .agg #[.int .i64 a, .bool b, .int .i64 c]) ?_ rfl ?_
  · rw [results_one_cell rfl]; go_simp
  · exact ⟨rfl, ((Below.refl _ w).alloc (Nat.le_refl _) _).alloc (by simp) _⟩
theorem enters_copy_GlobV : ∀ args w, (callFunc 82 args).run Tryz.prog w = .ok (.enter 82 args) w := enters_of Tryz.func82 (by kernel_rfl) rfl

set_option maxRecDepth 100000 in
set_option maxHeartbeats 2000000 in
theorem copy_TyV (x : TyV) (h1 : x.params.size ≤ 281474976710656) (h2 : x.results.size ≤ 281474976710656) (w : World) : Calls Tryz.prog 73 #[x.val] w fun e w' => e = .returned x.val ∧ Below w.heap.size w w' := by
  obtain ⟨a, b⟩ := x
  simp only [TyV.val] at *
  have ca := fun W => lib_clone a W h1
  have cb := fun W => lib_clone b W h2
  clear h1 h2
  have hBx : ∀ o o', Below w.heap.size w ((w.alloc o).alloc o').drew := fun o o' => (((Below.refl _ w).alloc (Nat.le_refl _) o).alloc (by simp) o').drew
  go_enter Tryz.func73, Tryz.ntmps73
  go_wp2
  go_region_held3 (fun W => W.cell? ⟨w.heap.size, 0, none⟩ = some (.string a) ∧ W.cell? ⟨w.heap.size, 1, none⟩ = some (.string b))
    (first | exact keep_2 hbb (by assumption) | exact keep_2 hba (by assumption) | go_keep)
    (first
      | (go_at_call 74; (with_reducible refine (ca _).mono ?_); rintro e wa ⟨rfl, hba⟩; have ⟨m0, m1⟩ := two_new hba; have ra0 : wa.cell? ⟨w.heap.size + 1, 0, none⟩ = some (.string ⟨#[]⟩) := m0 0; have fa0 := m1 0; have ra1 : wa.cell? ⟨w.heap.size + 1, 1, none⟩ = some (.string ⟨#[]⟩) := m0 1; have fa1 := m1 1; clear m0 m1)
      | (go_at_call 74; (with_reducible refine (cb _).mono ?_); rintro e wb ⟨rfl, hbb⟩; have rb0 := cell_below ra0 hbb; have fb0 := frozen_below ra0 fa0 hbb; have rb1 := cell_below ra1 hbb; have fb1 := frozen_below ra1 fa1 hbb))
  all_goals
    have ka := bnext (hBx _ _) (hBx _ _).size hba
    have kb := bnext (ka) (ka).size hbb
    go_wp2
    refine bodyPost_ret (v := .agg #[.string a, .string b]) ?_ rfl ?_
    · rw [results_one_cell rfl]; go_simp
    · exact ⟨rfl, ((kb.setCell (by show w.heap.size ≤ w.heap.size + 1; omega) _).setCell (by show w.heap.size ≤ w.heap.size + 1; omega) _)⟩
theorem enters_copy_TyV : ∀ args w, (callFunc 73 args).run Tryz.prog w = .ok (.enter 73 args) w := enters_of Tryz.func73 (by kernel_rfl) rfl

set_option maxRecDepth 100000 in
set_option maxHeartbeats 2000000 in
theorem copy_ExpV (x : ExpV) (h1 : x.name.size ≤ 281474976710656) (w : World) : Calls Tryz.prog 84 #[x.val] w fun e w' => e = .returned x.val ∧ Below w.heap.size w w' := by
  obtain ⟨a, b, c⟩ := x
  simp only [ExpV.val] at *
  have ca := fun W => lib_clone a W h1
  clear h1
  have hBx : ∀ o o', Below w.heap.size w ((w.alloc o).alloc o').drew := fun o o' => (((Below.refl _ w).alloc (Nat.le_refl _) o).alloc (by simp) o').drew
  go_enter Tryz.func84, Tryz.ntmps84
  go_wp2
  go_region_held3 (fun W => W.cell? ⟨w.heap.size, 0, none⟩ = some (.string a) ∧ W.cell? ⟨w.heap.size, 1, none⟩ = some (.int .i64 b) ∧ W.cell? ⟨w.heap.size, 2, none⟩ = some (.int .i64 c))
    (first | exact keep_3 hba (by assumption) | go_keep)
    (first
      | (go_at_call 74; (with_reducible refine (ca _).mono ?_); rintro e wa ⟨rfl, hba⟩; have ⟨m0, m1⟩ := two_new hba; have ra0 : wa.cell? ⟨w.heap.size + 1, 0, none⟩ = some (.string ⟨#[]⟩) := m0 0; have fa0 := m1 0; have ra1 : wa.cell? ⟨w.heap.size + 1, 1, none⟩ = some (.int .i64 0) := m0 1; have fa1 := m1 1; have ra2 : wa.cell? ⟨w.heap.size + 1, 2, none⟩ = some (.int .i64 0) := m0 2; have fa2 := m1 2; clear m0 m1))
  all_goals
    have ka := bnext (hBx _ _) (hBx _ _).size hba
    go_wp2
    refine bodyPost_ret (v := .agg #[.string a, .int .i64 b, .int .i64 c]) ?_ rfl ?_
    · rw [results_one_cell rfl]; go_simp
    · exact ⟨rfl, (((ka.setCell (by show w.heap.size ≤ w.heap.size + 1; omega) _).setCell (by show w.heap.size ≤ w.heap.size + 1; omega) _).setCell (by show w.heap.size ≤ w.heap.size + 1; omega) _)⟩
theorem enters_copy_ExpV : ∀ args w, (callFunc 84 args).run Tryz.prog w = .ok (.enter 84 args) w := enters_of Tryz.func84 (by kernel_rfl) rfl

set_option maxRecDepth 100000 in
set_option maxHeartbeats 2000000 in
theorem copy_DatV (x : DatV) (h1 : x.bytes.size ≤ 281474976710656) (w : World) : Calls Tryz.prog 86 #[x.val] w fun e w' => e = .returned x.val ∧ Below w.heap.size w w' := by
  obtain ⟨a, b⟩ := x
  simp only [DatV.val] at *
  have cb := fun W => lib_clone b W h1
  clear h1
  have hBx : ∀ o o', Below w.heap.size w ((w.alloc o).alloc o').drew := fun o o' => (((Below.refl _ w).alloc (Nat.le_refl _) o).alloc (by simp) o').drew
  go_enter Tryz.func86, Tryz.ntmps86
  go_wp2
  go_region_held3 (fun W => W.cell? ⟨w.heap.size, 0, none⟩ = some (.int .i64 a) ∧ W.cell? ⟨w.heap.size, 1, none⟩ = some (.string b))
    (first | exact keep_2 hbb (by assumption) | go_keep)
    (first
      | (go_at_call 74; (with_reducible refine (cb _).mono ?_); rintro e wb ⟨rfl, hbb⟩; have ⟨m0, m1⟩ := two_new hbb; have rb0 : wb.cell? ⟨w.heap.size + 1, 0, none⟩ = some (.int .i64 0) := m0 0; have fb0 := m1 0; have rb1 : wb.cell? ⟨w.heap.size + 1, 1, none⟩ = some (.string ⟨#[]⟩) := m0 1; have fb1 := m1 1; clear m0 m1))
  all_goals
    have kb := bnext (hBx _ _) (hBx _ _).size hbb
    go_wp2
    refine bodyPost_ret (v := .agg #[.int .i64 a, .string b]) ?_ rfl ?_
    · rw [results_one_cell rfl]; go_simp
    · exact ⟨rfl, ((kb.setCell (by show w.heap.size ≤ w.heap.size + 1; omega) _).setCell (by show w.heap.size ≤ w.heap.size + 1; omega) _)⟩
theorem enters_copy_DatV : ∀ args w, (callFunc 86 args).run Tryz.prog w = .ok (.enter 86 args) w := enters_of Tryz.func86 (by kernel_rfl) rfl
end Go.Proofs.YtnonedmkdcbmfaaGreatDoor
