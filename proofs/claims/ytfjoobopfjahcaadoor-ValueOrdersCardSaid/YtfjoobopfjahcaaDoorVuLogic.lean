/-
  And, Or of package value, walked. Contracts that the proofs call; no statement is proved here.
-/
import Derived.Deep.RegionWith
import Derived.BigRegion
import Derived.Test.YtfjoobopfjahcaaDoorVuTy
namespace Go.Proofs.YtfjoobopfjahcaaDoor
open Go.RowKit

/-- Cells that stand, and a block that is not frozen, stay so when only new memory is made. -/
theorem stay_on {W w1 : World} (hb : Below W.heap.size W w1) {b o : Nat} {v : Value} (h : W.cell? ⟨b, o, none⟩ = some v) : w1.cell? ⟨b, o, none⟩ = some v :=
  (hb.cell (p := ⟨b, o, none⟩) (World.block_lt_of_cell? W _ h)).trans h
theorem free_on {W w1 : World} (hb : Below W.heap.size W w1) {b o : Nat} {v : Value} (hl : W.cell? ⟨b, o, none⟩ = some v) (h : W.frozen? ⟨b, o, none⟩ = false) : w1.frozen? ⟨b, o, none⟩ = false :=
  (hb.frozen (p := ⟨b, o, none⟩) (World.block_lt_of_cell? W _ hl)).trans h
theorem Tru.at3 {w : World} (hT : Tru w) {t : Int} (h : t = 0 ∨ t = 1 ∨ t = 2) : w.cell? ⟨0, t.toNat * 3, none⟩ = some (.bool (tvU t)) ∧ w.cell? ⟨0, t.toNat * 3 + 1, none⟩ = some (.int .i64 (tvN t)) ∧ w.cell? ⟨0, t.toNat * 3 + 2, none⟩ = some (.string ⟨#[]⟩) := by
  rcases h with rfl | rfl | rfl
  · exact ⟨hT.c0, hT.c1, hT.c2⟩
  · exact ⟨hT.c3, hT.c4, hT.c5⟩
  · exact ⟨hT.c6, hT.c7, hT.c8⟩

set_option maxRecDepth 100000 in
set_option maxHeartbeats 8000000 in
theorem val_and (u : Bool) (n : Int) (z : ByteArray) (u' : Bool) (n' : Int) (z' : ByteArray) (w : World) (hT : Tru w) : Calls Tryd.prog 23 #[.agg #[.bool u, .int .i64 n, .string z], .agg #[.bool u', .int .i64 n', .string z']] w fun e w' =>
      e = .returned (.agg #[.bool (tvU (min (truV u n) (truV u' n'))), .int .i64 (tvN (min (truV u n) (truV u' n'))), .string ⟨#[]⟩]) ∧ Below w.heap.size w w' := by
  obtain ⟨W, hW⟩ : ∃ W, W = ((w.alloc (.cells #[.bool u, .int .i64 n, .string z] 25)).alloc (.cells #[.bool u', .int .i64 n', .string z'] 25)).alloc (.cells #[.bool false, .int .i64 0, .string ⟨#[]⟩] 25) := ⟨_, rfl⟩
  have hT1 : Tru W := by rw [hW]; exact ((hT.alloc _).alloc _).alloc _
  have hB : Below w.heap.size w W := by rw [hW]; exact (((Below.refl w.heap.size w).alloc (Nat.le_refl _) _).alloc (by simp) _).alloc (by simp; omega) _
  have f0 : W.cell? ⟨w.heap.size, 0, none⟩ = some (.bool u) := by rw [hW]; go_simp
  have f1 : W.cell? ⟨w.heap.size, 1, none⟩ = some (.int .i64 n) := by rw [hW]; go_simp
  have f2 : W.cell? ⟨w.heap.size, 2, none⟩ = some (.string z) := by rw [hW]; go_simp
  have f3 : W.cell? ⟨w.heap.size + 1, 0, none⟩ = some (.bool u') := by rw [hW]; go_simp
  have f4 : W.cell? ⟨w.heap.size + 1, 1, none⟩ = some (.int .i64 n') := by rw [hW]; go_simp
  have f5 : W.cell? ⟨w.heap.size + 1, 2, none⟩ = some (.string z') := by rw [hW]; go_simp
  have f6 : W.cell? ⟨w.heap.size + 1 + 1, 0, none⟩ = some (.bool false) := by rw [hW]; go_simp
  have f7 : W.cell? ⟨w.heap.size + 1 + 1, 1, none⟩ = some (.int .i64 0) := by rw [hW]; go_simp
  have f8 : W.cell? ⟨w.heap.size + 1 + 1, 2, none⟩ = some (.string ⟨#[]⟩) := by rw [hW]; go_simp
  have g6 : W.frozen? ⟨w.heap.size + 1 + 1, 0, none⟩ = false := by rw [hW]; go_simp
  have g7 : W.frozen? ⟨w.heap.size + 1 + 1, 1, none⟩ = false := by rw [hW]; go_simp
  have g8 : W.frozen? ⟨w.heap.size + 1 + 1, 2, none⟩ = false := by rw [hW]; go_simp
  have c1 := fun w => val_truth u n z w
  have c2 := fun w => val_truth u' n' z' w
  have k := Lib.hid (truV_three u n)
  have k' := Lib.hid (truV_three u' n')
  generalize truV u n = t at *
  generalize truV u' n' = t' at *
  have b1 : 0 ≤ t := by have := k.out; omega
  have b2 : t < 3 := by have := k.out; omega
  have b3 : 0 ≤ t' := by have := k'.out; omega
  have b4 : t' < 3 := by have := k'.out; omega
  by_cases hlt : t' < t
  all_goals
    first | (obtain ⟨m, hm⟩ : ∃ m, m = min t t' := ⟨_, rfl⟩)
    rw [← hm]
    first
      | (have hm' : m = t' := by omega)
      | (have hm' : m = t := by omega)
    clear hm
    subst hm'
    go_enter Tryd.func23, Tryd.ntmps23
    go_wp2
    rw [← hW]
    clear hW hT
    go_region_with (go_at_call 41; (first | (with_reducible refine (c1 _).mono ?_) | (with_reducible refine (c2 _).mono ?_)); rintro e w1 ⟨rfl, hb1⟩; first
      | (have hB1 : Below w.heap.size w w1 := bt hB.drew hb1; have hT2 := (hT1.below (Below.refl _ _).drew (Nat.le_refl _)).below hb1 (Nat.le_refl _)
         have q0 := stay_on hb1 f0; have q1 := stay_on hb1 f1; have q2 := stay_on hb1 f2; have q3 := stay_on hb1 f3; have q4 := stay_on hb1 f4; have q5 := stay_on hb1 f5; have q6 := stay_on hb1 f6; have q7 := stay_on hb1 f7; have q8 := stay_on hb1 f8; have r6 := free_on hb1 f6 g6; have r7 := free_on hb1 f7 g7; have r8 := free_on hb1 f8 g8)
      | (have hB2 : Below w.heap.size w w1 := bt hB1 hb1
         first | obtain ⟨y0, y1, y2⟩ := (hT2.below hb1 (Nat.le_refl _)).at3 k.out; obtain ⟨z0, z1, z2⟩ := (hT2.below hb1 (Nat.le_refl _)).at3 k'.out
         have p0 := stay_on hb1 q0; have p1 := stay_on hb1 q1; have p2 := stay_on hb1 q2; have p3 := stay_on hb1 q3; have p4 := stay_on hb1 q4; have p5 := stay_on hb1 q5; have p6 := stay_on hb1 q6; have p7 := stay_on hb1 q7; have p8 := stay_on hb1 q8; have s6 := free_on hb1 q6 r6; have s7 := free_on hb1 q7 r7; have s8 := free_on hb1 q8 r8))
    all_goals
      go_wp2
      refine bodyPost_ret (v := .agg #[.bool _, .int .i64 _, .string ⟨#[]⟩]) ?_ rfl ⟨rfl, ?_⟩
      · rw [results_cell rfl]; go_simp
      · repeat (refine Below.setCell ?_ (by first | (simp; done) | (simp; omega)) _)
        exact hB2

set_option maxRecDepth 100000 in
set_option maxHeartbeats 8000000 in
theorem val_or (u : Bool) (n : Int) (z : ByteArray) (u' : Bool) (n' : Int) (z' : ByteArray) (w : World) (hT : Tru w) : Calls Tryd.prog 24 #[.agg #[.bool u, .int .i64 n, .string z], .agg #[.bool u', .int .i64 n', .string z']] w fun e w' =>
      e = .returned (.agg #[.bool (tvU (max (truV u n) (truV u' n'))), .int .i64 (tvN (max (truV u n) (truV u' n'))), .string ⟨#[]⟩]) ∧ Below w.heap.size w w' := by
  obtain ⟨W, hW⟩ : ∃ W, W = ((w.alloc (.cells #[.bool u, .int .i64 n, .string z] 25)).alloc (.cells #[.bool u', .int .i64 n', .string z'] 25)).alloc (.cells #[.bool false, .int .i64 0, .string ⟨#[]⟩] 25) := ⟨_, rfl⟩
  have hT1 : Tru W := by rw [hW]; exact ((hT.alloc _).alloc _).alloc _
  have hB : Below w.heap.size w W := by rw [hW]; exact (((Below.refl w.heap.size w).alloc (Nat.le_refl _) _).alloc (by simp) _).alloc (by simp; omega) _
  have f0 : W.cell? ⟨w.heap.size, 0, none⟩ = some (.bool u) := by rw [hW]; go_simp
  have f1 : W.cell? ⟨w.heap.size, 1, none⟩ = some (.int .i64 n) := by rw [hW]; go_simp
  have f2 : W.cell? ⟨w.heap.size, 2, none⟩ = some (.string z) := by rw [hW]; go_simp
  have f3 : W.cell? ⟨w.heap.size + 1, 0, none⟩ = some (.bool u') := by rw [hW]; go_simp
  have f4 : W.cell? ⟨w.heap.size + 1, 1, none⟩ = some (.int .i64 n') := by rw [hW]; go_simp
  have f5 : W.cell? ⟨w.heap.size + 1, 2, none⟩ = some (.string z') := by rw [hW]; go_simp
  have f6 : W.cell? ⟨w.heap.size + 1 + 1, 0, none⟩ = some (.bool false) := by rw [hW]; go_simp
  have f7 : W.cell? ⟨w.heap.size + 1 + 1, 1, none⟩ = some (.int .i64 0) := by rw [hW]; go_simp
  have f8 : W.cell? ⟨w.heap.size + 1 + 1, 2, none⟩ = some (.string ⟨#[]⟩) := by rw [hW]; go_simp
  have g6 : W.frozen? ⟨w.heap.size + 1 + 1, 0, none⟩ = false := by rw [hW]; go_simp
  have g7 : W.frozen? ⟨w.heap.size + 1 + 1, 1, none⟩ = false := by rw [hW]; go_simp
  have g8 : W.frozen? ⟨w.heap.size + 1 + 1, 2, none⟩ = false := by rw [hW]; go_simp
  have c1 := fun w => val_truth u n z w
  have c2 := fun w => val_truth u' n' z' w
  have k := Lib.hid (truV_three u n)
  have k' := Lib.hid (truV_three u' n')
  generalize truV u n = t at *
  generalize truV u' n' = t' at *
  have b1 : 0 ≤ t := by have := k.out; omega
  have b2 : t < 3 := by have := k.out; omega
  have b3 : 0 ≤ t' := by have := k'.out; omega
  have b4 : t' < 3 := by have := k'.out; omega
  by_cases hlt : t < t'
  all_goals
    first | (obtain ⟨m, hm⟩ : ∃ m, m = max t t' := ⟨_, rfl⟩)
    rw [← hm]
    first
      | (have hm' : m = t' := by omega)
      | (have hm' : m = t := by omega)
    clear hm
    subst hm'
    go_enter Tryd.func24, Tryd.ntmps24
    go_wp2
    rw [← hW]
    clear hW hT
    go_region_with (go_at_call 41; (first | (with_reducible refine (c1 _).mono ?_) | (with_reducible refine (c2 _).mono ?_)); rintro e w1 ⟨rfl, hb1⟩; first
      | (have hB1 : Below w.heap.size w w1 := bt hB.drew hb1; have hT2 := (hT1.below (Below.refl _ _).drew (Nat.le_refl _)).below hb1 (Nat.le_refl _)
         have q0 := stay_on hb1 f0; have q1 := stay_on hb1 f1; have q2 := stay_on hb1 f2; have q3 := stay_on hb1 f3; have q4 := stay_on hb1 f4; have q5 := stay_on hb1 f5; have q6 := stay_on hb1 f6; have q7 := stay_on hb1 f7; have q8 := stay_on hb1 f8; have r6 := free_on hb1 f6 g6; have r7 := free_on hb1 f7 g7; have r8 := free_on hb1 f8 g8)
      | (have hB2 : Below w.heap.size w w1 := bt hB1 hb1
         first | obtain ⟨y0, y1, y2⟩ := (hT2.below hb1 (Nat.le_refl _)).at3 k.out; obtain ⟨z0, z1, z2⟩ := (hT2.below hb1 (Nat.le_refl _)).at3 k'.out
         have p0 := stay_on hb1 q0; have p1 := stay_on hb1 q1; have p2 := stay_on hb1 q2; have p3 := stay_on hb1 q3; have p4 := stay_on hb1 q4; have p5 := stay_on hb1 q5; have p6 := stay_on hb1 q6; have p7 := stay_on hb1 q7; have p8 := stay_on hb1 q8; have s6 := free_on hb1 q6 r6; have s7 := free_on hb1 q7 r7; have s8 := free_on hb1 q8 r8))
    all_goals
      go_wp2
      refine bodyPost_ret (v := .agg #[.bool _, .int .i64 _, .string ⟨#[]⟩]) ?_ rfl ⟨rfl, ?_⟩
      · rw [results_cell rfl]; go_simp
      · repeat (refine Below.setCell ?_ (by first | (simp; done) | (simp; omega)) _)
        exact hB2

end Go.Proofs.YtfjoobopfjahcaaDoor
