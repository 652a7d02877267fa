/-
  ValueLogic, where its first value is the third of the three: walked.
-/
import Derived.Test.YtfjoobopfjahcaaDoorVuLogicCon
namespace Go.Proofs.YtfjoobopfjahcaaDoor
set_option linter.unusedVariables false
open Go.RowKit

set_option maxRecDepth 100000 in
set_option maxHeartbeats 64000000 in
theorem logic_TF (a b : Int) (ha0 : 0 ≤ a) (ha1 : a ≤ 255) (hb0 : 0 ≤ b) (hb1 : b ≤ 255) (ka : a % 3 = 2) (kb : b % 3 = 0) (w : World) (hL : Laid w) :
    Calls Tryd.prog 6 #[.int .u8 a, .int .u8 b] w fun e w' => e = .returned (.bool true) ∧ Below w.heap.size w w' := by
  have hh := fun (_ : Unit) => head_value w hL
  go_enter Tryd.func6, Tryd.ntmps6
  go_wp2_with (go_at_call 10; (with_reducible refine (hh ()).mono ?_); rintro e w1 ⟨rfl, hb1⟩)
  have hTc := (((hL.below hb1).alloc (.cells #[.bool false, .int .i64 0, .string ⟨#[]⟩, .bool true, .int .i64 0, .string ⟨#[]⟩, .bool false, .int .i64 1, .string ⟨#[]⟩] 25)).alloc (.cells #[.bool false, .int .i64 1, .string ⟨#[]⟩] 25)).alloc (.cells #[.bool false, .int .i64 0, .string ⟨#[]⟩] 25) |>.drew |>.tru
  have hB := (bt hb1 (b3 (w := w1) (x := .cells #[.bool false, .int .i64 0, .string ⟨#[]⟩, .bool true, .int .i64 0, .string ⟨#[]⟩, .bool false, .int .i64 1, .string ⟨#[]⟩] 25) (y := .cells #[.bool false, .int .i64 1, .string ⟨#[]⟩] 25) (z := .cells #[.bool false, .int .i64 0, .string ⟨#[]⟩] 25))).drew
  have K : LgS w1.heap.size false 1 false 0 (((w1.alloc (.cells #[.bool false, .int .i64 0, .string ⟨#[]⟩, .bool true, .int .i64 0, .string ⟨#[]⟩, .bool false, .int .i64 1, .string ⟨#[]⟩] 25)).alloc (.cells #[.bool false, .int .i64 1, .string ⟨#[]⟩] 25)).alloc (.cells #[.bool false, .int .i64 0, .string ⟨#[]⟩] 25)) := by
    refine ⟨?_, ?_, ?_, ?_, ?_, ?_, ?_, ?_, ?_, ?_, ?_, ?_⟩ <;> go_simp
  replace K := K.on (Below.refl _ _).drew
  obtain ⟨W, hW⟩ : ∃ W, W = ((w1.alloc (.cells #[.bool false, .int .i64 0, .string ⟨#[]⟩, .bool true, .int .i64 0, .string ⟨#[]⟩, .bool false, .int .i64 1, .string ⟨#[]⟩] 25)).alloc (.cells #[.bool false, .int .i64 1, .string ⟨#[]⟩] 25)).alloc (.cells #[.bool false, .int .i64 0, .string ⟨#[]⟩] 25) := ⟨_, rfl⟩
  rw [← hW] at hTc hB K ⊢
  clear hW hh hb1
  dsimp only [List.append]
  go_region_held3 (fun X => X.cell? ⟨w1.heap.size, 0, none⟩ = some (.bool false) ∧ X.cell? ⟨w1.heap.size, 1, none⟩ = some (.int .i64 0) ∧ X.cell? ⟨w1.heap.size, 2, none⟩ = some (.string ⟨#[]⟩) ∧ X.cell? ⟨w1.heap.size, 6, none⟩ = some (.bool false) ∧ X.cell? ⟨w1.heap.size, 7, none⟩ = some (.int .i64 1) ∧ X.cell? ⟨w1.heap.size, 8, none⟩ = some (.string ⟨#[]⟩) ∧ X.cell? ⟨w1.heap.size + 1, 0, none⟩ = some (.bool false) ∧ X.cell? ⟨w1.heap.size + 1, 1, none⟩ = some (.int .i64 1) ∧ X.cell? ⟨w1.heap.size + 1, 2, none⟩ = some (.string ⟨#[]⟩) ∧ X.cell? ⟨w1.heap.size + 1 + 1, 0, none⟩ = some (.bool false) ∧ X.cell? ⟨w1.heap.size + 1 + 1, 1, none⟩ = some (.int .i64 0) ∧ X.cell? ⟨w1.heap.size + 1 + 1, 2, none⟩ = some (.string ⟨#[]⟩))
    (exact K)
    (first
      | (go_at_call 22; (first | (with_reducible refine (not_F _ hTc).mono ?_) | (with_reducible refine (not_T _ hTc).mono ?_)); rintro e w2 ⟨rfl, hb⟩; replace hTc := hTc.below hb (Nat.le_refl _); replace hB := bt hB hb; replace K := K.on hb; clear hb)
      | (go_at_call 23; (first | (with_reducible refine (and_FT _ hTc).mono ?_) | (with_reducible refine (and_TF _ hTc).mono ?_) | (with_reducible refine (and_TT _ hTc).mono ?_)); rintro e w2 ⟨rfl, hb⟩; replace hTc := hTc.below hb (Nat.le_refl _); replace hB := bt hB hb; replace K := K.on hb; clear hb)
      | (go_at_call 24; (first | (with_reducible refine (or_FT _ hTc).mono ?_) | (with_reducible refine (or_TF _ hTc).mono ?_) | (with_reducible refine (or_TT _ hTc).mono ?_)); rintro e w2 ⟨rfl, hb⟩; replace hTc := hTc.below hb (Nat.le_refl _); replace hB := bt hB hb; replace K := K.on hb; clear hb))
  go_wp2
  go_ret
  exact ⟨by first | rfl | exact ret_true (by decide), hB⟩

set_option maxRecDepth 100000 in
set_option maxHeartbeats 64000000 in
theorem logic_TN (a b : Int) (ha0 : 0 ≤ a) (ha1 : a ≤ 255) (hb0 : 0 ≤ b) (hb1 : b ≤ 255) (ka : a % 3 = 2) (kb : b % 3 = 1) (w : World) (hL : Laid w) :
    Calls Tryd.prog 6 #[.int .u8 a, .int .u8 b] w fun e w' => e = .returned (.bool true) ∧ Below w.heap.size w w' := by
  have hh := fun (_ : Unit) => head_value w hL
  go_enter Tryd.func6, Tryd.ntmps6
  go_wp2_with (go_at_call 10; (with_reducible refine (hh ()).mono ?_); rintro e w1 ⟨rfl, hb1⟩)
  have hTc := (((hL.below hb1).alloc (.cells #[.bool false, .int .i64 0, .string ⟨#[]⟩, .bool true, .int .i64 0, .string ⟨#[]⟩, .bool false, .int .i64 1, .string ⟨#[]⟩] 25)).alloc (.cells #[.bool false, .int .i64 1, .string ⟨#[]⟩] 25)).alloc (.cells #[.bool true, .int .i64 0, .string ⟨#[]⟩] 25) |>.drew |>.tru
  have hB := (bt hb1 (b3 (w := w1) (x := .cells #[.bool false, .int .i64 0, .string ⟨#[]⟩, .bool true, .int .i64 0, .string ⟨#[]⟩, .bool false, .int .i64 1, .string ⟨#[]⟩] 25) (y := .cells #[.bool false, .int .i64 1, .string ⟨#[]⟩] 25) (z := .cells #[.bool true, .int .i64 0, .string ⟨#[]⟩] 25))).drew
  have K : LgS w1.heap.size false 1 true 0 (((w1.alloc (.cells #[.bool false, .int .i64 0, .string ⟨#[]⟩, .bool true, .int .i64 0, .string ⟨#[]⟩, .bool false, .int .i64 1, .string ⟨#[]⟩] 25)).alloc (.cells #[.bool false, .int .i64 1, .string ⟨#[]⟩] 25)).alloc (.cells #[.bool true, .int .i64 0, .string ⟨#[]⟩] 25)) := by
    refine ⟨?_, ?_, ?_, ?_, ?_, ?_, ?_, ?_, ?_, ?_, ?_, ?_⟩ <;> go_simp
  replace K := K.on (Below.refl _ _).drew
  obtain ⟨W, hW⟩ : ∃ W, W = ((w1.alloc (.cells #[.bool false, .int .i64 0, .string ⟨#[]⟩, .bool true, .int .i64 0, .string ⟨#[]⟩, .bool false, .int .i64 1, .string ⟨#[]⟩] 25)).alloc (.cells #[.bool false, .int .i64 1, .string ⟨#[]⟩] 25)).alloc (.cells #[.bool true, .int .i64 0, .string ⟨#[]⟩] 25) := ⟨_, rfl⟩
  rw [← hW] at hTc hB K ⊢
  clear hW hh hb1
  dsimp only [List.append]
  go_region_held3 (fun X => X.cell? ⟨w1.heap.size, 0, none⟩ = some (.bool false) ∧ X.cell? ⟨w1.heap.size, 1, none⟩ = some (.int .i64 0) ∧ X.cell? ⟨w1.heap.size, 2, none⟩ = some (.string ⟨#[]⟩) ∧ X.cell? ⟨w1.heap.size, 6, none⟩ = some (.bool false) ∧ X.cell? ⟨w1.heap.size, 7, none⟩ = some (.int .i64 1) ∧ X.cell? ⟨w1.heap.size, 8, none⟩ = some (.string ⟨#[]⟩) ∧ X.cell? ⟨w1.heap.size + 1, 0, none⟩ = some (.bool false) ∧ X.cell? ⟨w1.heap.size + 1, 1, none⟩ = some (.int .i64 1) ∧ X.cell? ⟨w1.heap.size + 1, 2, none⟩ = some (.string ⟨#[]⟩) ∧ X.cell? ⟨w1.heap.size + 1 + 1, 0, none⟩ = some (.bool true) ∧ X.cell? ⟨w1.heap.size + 1 + 1, 1, none⟩ = some (.int .i64 0) ∧ X.cell? ⟨w1.heap.size + 1 + 1, 2, none⟩ = some (.string ⟨#[]⟩))
    (exact K)
    (first
      | (go_at_call 22; (first | (with_reducible refine (not_F _ hTc).mono ?_) | (with_reducible refine (not_N _ hTc).mono ?_) | (with_reducible refine (not_T _ hTc).mono ?_)); rintro e w2 ⟨rfl, hb⟩; replace hTc := hTc.below hb (Nat.le_refl _); replace hB := bt hB hb; replace K := K.on hb; clear hb)
      | (go_at_call 23; (first | (with_reducible refine (and_NT _ hTc).mono ?_) | (with_reducible refine (and_TF _ hTc).mono ?_) | (with_reducible refine (and_TN _ hTc).mono ?_) | (with_reducible refine (and_TT _ hTc).mono ?_)); rintro e w2 ⟨rfl, hb⟩; replace hTc := hTc.below hb (Nat.le_refl _); replace hB := bt hB hb; replace K := K.on hb; clear hb)
      | (go_at_call 24; (first | (with_reducible refine (or_FN _ hTc).mono ?_) | (with_reducible refine (or_TF _ hTc).mono ?_) | (with_reducible refine (or_TT _ hTc).mono ?_)); rintro e w2 ⟨rfl, hb⟩; replace hTc := hTc.below hb (Nat.le_refl _); replace hB := bt hB hb; replace K := K.on hb; clear hb))
  go_wp2
  go_ret
  exact ⟨by first | rfl | exact ret_true (by decide), hB⟩

set_option maxRecDepth 100000 in
set_option maxHeartbeats 64000000 in
theorem logic_TT (a b : Int) (ha0 : 0 ≤ a) (ha1 : a ≤ 255) (hb0 : 0 ≤ b) (hb1 : b ≤ 255) (ka : a % 3 = 2) (kb : b % 3 = 2) (w : World) (hL : Laid w) :
    Calls Tryd.prog 6 #[.int .u8 a, .int .u8 b] w fun e w' => e = .returned (.bool true) ∧ Below w.heap.size w w' := by
  have hh := fun (_ : Unit) => head_value w hL
  go_enter Tryd.func6, Tryd.ntmps6
  go_wp2_with (go_at_call 10; (with_reducible refine (hh ()).mono ?_); rintro e w1 ⟨rfl, hb1⟩)
  have hTc := (((hL.below hb1).alloc (.cells #[.bool false, .int .i64 0, .string ⟨#[]⟩, .bool true, .int .i64 0, .string ⟨#[]⟩, .bool false, .int .i64 1, .string ⟨#[]⟩] 25)).alloc (.cells #[.bool false, .int .i64 1, .string ⟨#[]⟩] 25)).alloc (.cells #[.bool false, .int .i64 1, .string ⟨#[]⟩] 25) |>.drew |>.tru
  have hB := (bt hb1 (b3 (w := w1) (x := .cells #[.bool false, .int .i64 0, .string ⟨#[]⟩, .bool true, .int .i64 0, .string ⟨#[]⟩, .bool false, .int .i64 1, .string ⟨#[]⟩] 25) (y := .cells #[.bool false, .int .i64 1, .string ⟨#[]⟩] 25) (z := .cells #[.bool false, .int .i64 1, .string ⟨#[]⟩] 25))).drew
  have K : LgS w1.heap.size false 1 false 1 (((w1.alloc (.cells #[.bool false, .int .i64 0, .string ⟨#[]⟩, .bool true, .int .i64 0, .string ⟨#[]⟩, .bool false, .int .i64 1, .string ⟨#[]⟩] 25)).alloc (.cells #[.bool false, .int .i64 1, .string ⟨#[]⟩] 25)).alloc (.cells #[.bool false, .int .i64 1, .string ⟨#[]⟩] 25)) := by
    refine ⟨?_, ?_, ?_, ?_, ?_, ?_, ?_, ?_, ?_, ?_, ?_, ?_⟩ <;> go_simp
  replace K := K.on (Below.refl _ _).drew
  obtain ⟨W, hW⟩ : ∃ W, W = ((w1.alloc (.cells #[.bool false, .int .i64 0, .string ⟨#[]⟩, .bool true, .int .i64 0, .string ⟨#[]⟩, .bool false, .int .i64 1, .string ⟨#[]⟩] 25)).alloc (.cells #[.bool false, .int .i64 1, .string ⟨#[]⟩] 25)).alloc (.cells #[.bool false, .int .i64 1, .string ⟨#[]⟩] 25) := ⟨_, rfl⟩
  rw [← hW] at hTc hB K ⊢
  clear hW hh hb1
  dsimp only [List.append]
  go_region_held3 (fun X => X.cell? ⟨w1.heap.size, 0, none⟩ = some (.bool false) ∧ X.cell? ⟨w1.heap.size, 1, none⟩ = some (.int .i64 0) ∧ X.cell? ⟨w1.heap.size, 2, none⟩ = some (.string ⟨#[]⟩) ∧ X.cell? ⟨w1.heap.size, 6, none⟩ = some (.bool false) ∧ X.cell? ⟨w1.heap.size, 7, none⟩ = some (.int .i64 1) ∧ X.cell? ⟨w1.heap.size, 8, none⟩ = some (.string ⟨#[]⟩) ∧ X.cell? ⟨w1.heap.size + 1, 0, none⟩ = some (.bool false) ∧ X.cell? ⟨w1.heap.size + 1, 1, none⟩ = some (.int .i64 1) ∧ X.cell? ⟨w1.heap.size + 1, 2, none⟩ = some (.string ⟨#[]⟩) ∧ X.cell? ⟨w1.heap.size + 1 + 1, 0, none⟩ = some (.bool false) ∧ X.cell? ⟨w1.heap.size + 1 + 1, 1, none⟩ = some (.int .i64 1) ∧ X.cell? ⟨w1.heap.size + 1 + 1, 2, none⟩ = some (.string ⟨#[]⟩))
    (exact K)
    (first
      | (go_at_call 22; (first | (with_reducible refine (not_F _ hTc).mono ?_) | (with_reducible refine (not_T _ hTc).mono ?_)); rintro e w2 ⟨rfl, hb⟩; replace hTc := hTc.below hb (Nat.le_refl _); replace hB := bt hB hb; replace K := K.on hb; clear hb)
      | (go_at_call 23; (first | (with_reducible refine (and_TF _ hTc).mono ?_) | (with_reducible refine (and_TT _ hTc).mono ?_)); rintro e w2 ⟨rfl, hb⟩; replace hTc := hTc.below hb (Nat.le_refl _); replace hB := bt hB hb; replace K := K.on hb; clear hb)
      | (go_at_call 24; (first | (with_reducible refine (or_FF _ hTc).mono ?_) | (with_reducible refine (or_TF _ hTc).mono ?_) | (with_reducible refine (or_TT _ hTc).mono ?_)); rintro e w2 ⟨rfl, hb⟩; replace hTc := hTc.below hb (Nat.le_refl _); replace hB := bt hB hb; replace K := K.on hb; clear hb))
  go_wp2
  go_ret
  exact ⟨by first | rfl | exact ret_true (by decide), hB⟩

end Go.Proofs.YtfjoobopfjahcaaDoor
