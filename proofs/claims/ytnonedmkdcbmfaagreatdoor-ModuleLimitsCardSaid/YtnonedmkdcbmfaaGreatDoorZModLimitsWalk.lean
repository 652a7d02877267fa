/-
  The statement on what has no room in a module, walked. Only its frame proves it.
-/
import Derived.Test.YtnonedmkdcbmfaaGreatDoorZModLimitsA
namespace Go.Proofs.YtnonedmkdcbmfaaGreatDoor
open Go.RowKit
set_option linter.unusedVariables false
set_option maxRecDepth 100000 in
set_option maxHeartbeats 8000000 in
theorem limits_0w (p : Option Addr) (c : Nat) (l : List StepV) (hc : l.length ≤ c) (which n : Int) (hw : 0 ≤ which ∧ which < 256) (hK : which % 6 = 0) (hn : inI64 n) (h0 : 0 ≤ n) (h1 : n < 4294967296) (h2 : n ≠ -1) (w : World) (hLaid : Laid w) (hS : StepsAt w p l) :
    Calls Tryz.prog 9 #[.slice p l.length c, .int .u8 which, .int .i64 n] w fun e w' => e = .returned (.bool true) ∧ Below w.heap.size w w' := by
  have cH := head_mod w hLaid
  have hl := hS.most
  unfold mostThings at hl
  have cM := fun W (hW : Below w.heap.size w W) => made_of p c (l.take 20) W ((hS.below hW (Nat.le_refl _)).take 20)
  simp only [List.length_take, min_nat, madeV_val] at cM
  clear hS
  generalize l.length = ln at *
  have HV : Hid (((decide (n = -1) || word4 n) && ((decide ((2 : Int) = -1) || word4 2) && (small4 5 && word4 0))) = true) := Lib.hid (by unfold word4 small4; simp; try omega)
  have hI : ∀ x : Int, -9223372036854775808 ≤ x ∧ x ≤ 9223372036854775807 → inI64 x := fun x h => h
  unfold inI64 at hn
  have hq : (n == -1) = false := beq_eq_false_iff_ne.2 (by omega)
  go_enter Tryz.func9, Tryz.ntmps9
  go_wp2_with (first
    | (go_at_call 10; refine cH.mono ?_; rintro e w1 ⟨rfl, hB1⟩)
    | (go_at_call 21; (with_reducible refine (cM _ hB1).mono ?_); rintro e w2 ⟨H, pc, cc, code, rfl, hM, hne, hb2⟩; have hB2 := belt hB1 (Nat.le_refl _) hb2; have hlo : w.heap.size ≤ H := (by have := hM.from0; have := hB1.size; omega); have hr := fun o => hM.reads o; have hz := hM.size; have ⟨z2, z3, z4, y2, y3, y4⟩ : (¬ w2.heap.size = H + 2) ∧ (¬ w2.heap.size = H + 3) ∧ (¬ w2.heap.size = H + 4) ∧ (¬ H + 2 = w2.heap.size) ∧ (¬ H + 3 = w2.heap.size) ∧ (¬ H + 4 = w2.heap.size) := (by omega); clear hz)
    | (go_at_call 11; refine (made_rights (v := true) (hLaid.below (bel1 hB2 (Nat.le_refl _) _)) (hM.below ((Below.refl _ _).alloc (Nat.le_refl _) _)) ?_ ?_ ?_ ?_ ?_ ?_).mono ?_; (exact hI _ (by omega)); (exact hI _ (by omega)); (exact hI _ (by omega)); (exact hI _ (by omega)); (exact hI _ (by omega)); (exact HV.out); rintro e w3 ⟨rfl, hb3⟩))
  go_ret
  exact ⟨rfl, belt (bel1 hB2 (Nat.le_refl _) _) (Nat.le_refl _) hb3⟩

set_option maxRecDepth 100000 in
set_option maxHeartbeats 8000000 in
theorem limits_0m (p : Option Addr) (c : Nat) (l : List StepV) (hc : l.length ≤ c) (which n : Int) (hw : 0 ≤ which ∧ which < 256) (hK : which % 6 = 0) (hn : inI64 n) (h0 : n = -1) (w : World) (hLaid : Laid w) (hS : StepsAt w p l) :
    Calls Tryz.prog 9 #[.slice p l.length c, .int .u8 which, .int .i64 n] w fun e w' => e = .returned (.bool true) ∧ Below w.heap.size w w' := by
  have cH := head_mod w hLaid
  have hl := hS.most
  unfold mostThings at hl
  have cM := fun W (hW : Below w.heap.size w W) => made_of p c (l.take 20) W ((hS.below hW (Nat.le_refl _)).take 20)
  simp only [List.length_take, min_nat, madeV_val] at cM
  clear hS
  generalize l.length = ln at *
  subst h0
  have HV : Hid (((decide ((-1) = -1) || word4 (-1)) && ((decide ((2 : Int) = -1) || word4 2) && (small4 5 && word4 0))) = true) := Lib.hid (by unfold word4 small4; simp; try omega)
  have hI : ∀ x : Int, -9223372036854775808 ≤ x ∧ x ≤ 9223372036854775807 → inI64 x := fun x h => h
  unfold inI64 at hn
  go_enter Tryz.func9, Tryz.ntmps9
  go_wp2_with (first
    | (go_at_call 10; refine cH.mono ?_; rintro e w1 ⟨rfl, hB1⟩)
    | (go_at_call 21; (with_reducible refine (cM _ hB1).mono ?_); rintro e w2 ⟨H, pc, cc, code, rfl, hM, hne, hb2⟩; have hB2 := belt hB1 (Nat.le_refl _) hb2; have hlo : w.heap.size ≤ H := (by have := hM.from0; have := hB1.size; omega); have hr := fun o => hM.reads o; have hz := hM.size; have ⟨z2, z3, z4, y2, y3, y4⟩ : (¬ w2.heap.size = H + 2) ∧ (¬ w2.heap.size = H + 3) ∧ (¬ w2.heap.size = H + 4) ∧ (¬ H + 2 = w2.heap.size) ∧ (¬ H + 3 = w2.heap.size) ∧ (¬ H + 4 = w2.heap.size) := (by omega); clear hz)
    | (go_at_call 11; refine (made_rights (v := true) (hLaid.below (bel1 hB2 (Nat.le_refl _) _)) (hM.below ((Below.refl _ _).alloc (Nat.le_refl _) _)) ?_ ?_ ?_ ?_ ?_ ?_).mono ?_; (exact hI _ (by omega)); (exact hI _ (by omega)); (exact hI _ (by omega)); (exact hI _ (by omega)); (exact hI _ (by omega)); (exact HV.out); rintro e w3 ⟨rfl, hb3⟩))
  go_ret
  exact ⟨rfl, belt (bel1 hB2 (Nat.le_refl _) _) (Nat.le_refl _) hb3⟩

set_option maxRecDepth 100000 in
set_option maxHeartbeats 8000000 in
theorem limits_0ll (p : Option Addr) (c : Nat) (l : List StepV) (hc : l.length ≤ c) (which n : Int) (hw : 0 ≤ which ∧ which < 256) (hK : which % 6 = 0) (hn : inI64 n) (h0 : ¬ 0 ≤ n) (h1 : n ≠ -1) (w : World) (hLaid : Laid w) (hS : StepsAt w p l) :
    Calls Tryz.prog 9 #[.slice p l.length c, .int .u8 which, .int .i64 n] w fun e w' => e = .returned (.bool true) ∧ Below w.heap.size w w' := by
  have cH := head_mod w hLaid
  have hl := hS.most
  unfold mostThings at hl
  have cM := fun W (hW : Below w.heap.size w W) => made_of p c (l.take 20) W ((hS.below hW (Nat.le_refl _)).take 20)
  simp only [List.length_take, min_nat, madeV_val] at cM
  clear hS
  generalize l.length = ln at *
  have HV : Hid (((decide (n = -1) || word4 n) && ((decide ((2 : Int) = -1) || word4 2) && (small4 5 && word4 0))) = false) := Lib.hid (by unfold word4 small4; simp; try omega)
  have hI : ∀ x : Int, -9223372036854775808 ≤ x ∧ x ≤ 9223372036854775807 → inI64 x := fun x h => h
  unfold inI64 at hn
  have hq : (n == -1) = false := beq_eq_false_iff_ne.2 (by omega)
  have hd0 : decide (0 ≤ n) = false := decide_eq_false h0
  go_enter Tryz.func9, Tryz.ntmps9
  go_wp2_with (first
    | (go_at_call 10; refine cH.mono ?_; rintro e w1 ⟨rfl, hB1⟩)
    | (go_at_call 21; (with_reducible refine (cM _ hB1).mono ?_); rintro e w2 ⟨H, pc, cc, code, rfl, hM, hne, hb2⟩; have hB2 := belt hB1 (Nat.le_refl _) hb2; have hlo : w.heap.size ≤ H := (by have := hM.from0; have := hB1.size; omega); have hr := fun o => hM.reads o; have hz := hM.size; have ⟨z2, z3, z4, y2, y3, y4⟩ : (¬ w2.heap.size = H + 2) ∧ (¬ w2.heap.size = H + 3) ∧ (¬ w2.heap.size = H + 4) ∧ (¬ H + 2 = w2.heap.size) ∧ (¬ H + 3 = w2.heap.size) ∧ (¬ H + 4 = w2.heap.size) := (by omega); clear hz)
    | (go_at_call 11; refine (made_rights (v := false) (hLaid.below (bel1 hB2 (Nat.le_refl _) _)) (hM.below ((Below.refl _ _).alloc (Nat.le_refl _) _)) ?_ ?_ ?_ ?_ ?_ ?_).mono ?_; (exact hI _ (by omega)); (exact hI _ (by omega)); (exact hI _ (by omega)); (exact hI _ (by omega)); (exact hI _ (by omega)); (exact HV.out); rintro e w3 ⟨rfl, hb3⟩))
  go_ret
  exact ⟨rfl, belt (bel1 hB2 (Nat.le_refl _) _) (Nat.le_refl _) hb3⟩

set_option maxRecDepth 100000 in
set_option maxHeartbeats 8000000 in
theorem limits_0g (p : Option Addr) (c : Nat) (l : List StepV) (hc : l.length ≤ c) (which n : Int) (hw : 0 ≤ which ∧ which < 256) (hK : which % 6 = 0) (hn : inI64 n) (h0 : 0 ≤ n) (h1 : ¬ n < 4294967296) (h2 : n ≠ -1) (w : World) (hLaid : Laid w) (hS : StepsAt w p l) :
    Calls Tryz.prog 9 #[.slice p l.length c, .int .u8 which, .int .i64 n] w fun e w' => e = .returned (.bool true) ∧ Below w.heap.size w w' := by
  have cH := head_mod w hLaid
  have hl := hS.most
  unfold mostThings at hl
  have cM := fun W (hW : Below w.heap.size w W) => made_of p c (l.take 20) W ((hS.below hW (Nat.le_refl _)).take 20)
  simp only [List.length_take, min_nat, madeV_val] at cM
  clear hS
  generalize l.length = ln at *
  have HV : Hid (((decide (n = -1) || word4 n) && ((decide ((2 : Int) = -1) || word4 2) && (small4 5 && word4 0))) = false) := Lib.hid (by unfold word4 small4; simp; try omega)
  have hI : ∀ x : Int, -9223372036854775808 ≤ x ∧ x ≤ 9223372036854775807 → inI64 x := fun x h => h
  unfold inI64 at hn
  have hq : (n == -1) = false := beq_eq_false_iff_ne.2 (by omega)
  have hd1 : decide (n < 4294967296) = false := decide_eq_false h1
  go_enter Tryz.func9, Tryz.ntmps9
  go_wp2_with (first
    | (go_at_call 10; refine cH.mono ?_; rintro e w1 ⟨rfl, hB1⟩)
    | (go_at_call 21; (with_reducible refine (cM _ hB1).mono ?_); rintro e w2 ⟨H, pc, cc, code, rfl, hM, hne, hb2⟩; have hB2 := belt hB1 (Nat.le_refl _) hb2; have hlo : w.heap.size ≤ H := (by have := hM.from0; have := hB1.size; omega); have hr := fun o => hM.reads o; have hz := hM.size; have ⟨z2, z3, z4, y2, y3, y4⟩ : (¬ w2.heap.size = H + 2) ∧ (¬ w2.heap.size = H + 3) ∧ (¬ w2.heap.size = H + 4) ∧ (¬ H + 2 = w2.heap.size) ∧ (¬ H + 3 = w2.heap.size) ∧ (¬ H + 4 = w2.heap.size) := (by omega); clear hz)
    | (go_at_call 11; refine (made_rights (v := false) (hLaid.below (bel1 hB2 (Nat.le_refl _) _)) (hM.below ((Below.refl _ _).alloc (Nat.le_refl _) _)) ?_ ?_ ?_ ?_ ?_ ?_).mono ?_; (exact hI _ (by omega)); (exact hI _ (by omega)); (exact hI _ (by omega)); (exact hI _ (by omega)); (exact hI _ (by omega)); (exact HV.out); rintro e w3 ⟨rfl, hb3⟩))
  go_ret
  exact ⟨rfl, belt (bel1 hB2 (Nat.le_refl _) _) (Nat.le_refl _) hb3⟩

set_option maxRecDepth 100000 in
set_option maxHeartbeats 8000000 in
theorem limits_1w (p : Option Addr) (c : Nat) (l : List StepV) (hc : l.length ≤ c) (which n : Int) (hw : 0 ≤ which ∧ which < 256) (hK : which % 6 = 1) (hn : inI64 n) (h0 : 0 ≤ n) (h1 : n < 4294967296) (h2 : n ≠ -1) (w : World) (hLaid : Laid w) (hS : StepsAt w p l) :
    Calls Tryz.prog 9 #[.slice p l.length c, .int .u8 which, .int .i64 n] w fun e w' => e = .returned (.bool true) ∧ Below w.heap.size w w' := by
  have cH := head_mod w hLaid
  have hl := hS.most
  unfold mostThings at hl
  have cM := fun W (hW : Below w.heap.size w W) => made_of p c (l.take 20) W ((hS.below hW (Nat.le_refl _)).take 20)
  simp only [List.length_take, min_nat, madeV_val] at cM
  clear hS
  generalize l.length = ln at *
  have HV : Hid (((decide ((-1 : Int) = -1) || word4 (-1)) && ((decide ((2 : Int) = -1) || word4 2) && (small4 5 && word4 n))) = true) := Lib.hid (by unfold word4 small4; simp; try omega)
  have hI : ∀ x : Int, -9223372036854775808 ≤ x ∧ x ≤ 9223372036854775807 → inI64 x := fun x h => h
  unfold inI64 at hn
  go_enter Tryz.func9, Tryz.ntmps9
  go_wp2_with (first
    | (go_at_call 10; refine cH.mono ?_; rintro e w1 ⟨rfl, hB1⟩)
    | (go_at_call 21; (with_reducible refine (cM _ hB1).mono ?_); rintro e w2 ⟨H, pc, cc, code, rfl, hM, hne, hb2⟩; have hB2 := belt hB1 (Nat.le_refl _) hb2; have hlo : w.heap.size ≤ H := (by have := hM.from0; have := hB1.size; omega); have hr := fun o => hM.reads o; have hz := hM.size; have ⟨z2, z3, z4, y2, y3, y4⟩ : (¬ w2.heap.size = H + 2) ∧ (¬ w2.heap.size = H + 3) ∧ (¬ w2.heap.size = H + 4) ∧ (¬ H + 2 = w2.heap.size) ∧ (¬ H + 3 = w2.heap.size) ∧ (¬ H + 4 = w2.heap.size) := (by omega); clear hz)
    | (go_at_call 11; refine (made_rights (v := true) (hLaid.below ((bel1 hB2 (Nat.le_refl _) _).setCell (show w.heap.size ≤ H + 4 by omega) _)) ((hM.below ((Below.refl _ _).alloc (Nat.le_refl _) _)).setIx n) ?_ ?_ ?_ ?_ ?_ ?_).mono ?_; (exact hI _ (by omega)); (exact hI _ (by omega)); (exact hI _ (by omega)); (exact hI _ (by omega)); (exact hI _ (by omega)); (exact HV.out); rintro e w3 ⟨rfl, hb3⟩))
  go_ret
  exact ⟨rfl, belt ((bel1 hB2 (Nat.le_refl _) _).setCell (show w.heap.size ≤ H + 4 by omega) _) (Nat.le_refl _) hb3⟩

set_option maxRecDepth 100000 in
set_option maxHeartbeats 8000000 in
theorem limits_1l (p : Option Addr) (c : Nat) (l : List StepV) (hc : l.length ≤ c) (which n : Int) (hw : 0 ≤ which ∧ which < 256) (hK : which % 6 = 1) (hn : inI64 n) (h0 : ¬ 0 ≤ n) (w : World) (hLaid : Laid w) (hS : StepsAt w p l) :
    Calls Tryz.prog 9 #[.slice p l.length c, .int .u8 which, .int .i64 n] w fun e w' => e = .returned (.bool true) ∧ Below w.heap.size w w' := by
  have cH := head_mod w hLaid
  have hl := hS.most
  unfold mostThings at hl
  have cM := fun W (hW : Below w.heap.size w W) => made_of p c (l.take 20) W ((hS.below hW (Nat.le_refl _)).take 20)
  simp only [List.length_take, min_nat, madeV_val] at cM
  clear hS
  generalize l.length = ln at *
  have HV : Hid (((decide ((-1 : Int) = -1) || word4 (-1)) && ((decide ((2 : Int) = -1) || word4 2) && (small4 5 && word4 n))) = false) := Lib.hid (by unfold word4 small4; simp; try omega)
  have hI : ∀ x : Int, -9223372036854775808 ≤ x ∧ x ≤ 9223372036854775807 → inI64 x := fun x h => h
  unfold inI64 at hn
  have hd0 : decide (0 ≤ n) = false := decide_eq_false h0
  go_enter Tryz.func9, Tryz.ntmps9
  go_wp2_with (first
    | (go_at_call 10; refine cH.mono ?_; rintro e w1 ⟨rfl, hB1⟩)
    | (go_at_call 21; (with_reducible refine (cM _ hB1).mono ?_); rintro e w2 ⟨H, pc, cc, code, rfl, hM, hne, hb2⟩; have hB2 := belt hB1 (Nat.le_refl _) hb2; have hlo : w.heap.size ≤ H := (by have := hM.from0; have := hB1.size; omega); have hr := fun o => hM.reads o; have hz := hM.size; have ⟨z2, z3, z4, y2, y3, y4⟩ : (¬ w2.heap.size = H + 2) ∧ (¬ w2.heap.size = H + 3) ∧ (¬ w2.heap.size = H + 4) ∧ (¬ H + 2 = w2.heap.size) ∧ (¬ H + 3 = w2.heap.size) ∧ (¬ H + 4 = w2.heap.size) := (by omega); clear hz)
    | (go_at_call 11; refine (made_rights (v := false) (hLaid.below ((bel1 hB2 (Nat.le_refl _) _).setCell (show w.heap.size ≤ H + 4 by omega) _)) ((hM.below ((Below.refl _ _).alloc (Nat.le_refl _) _)).setIx n) ?_ ?_ ?_ ?_ ?_ ?_).mono ?_; (exact hI _ (by omega)); (exact hI _ (by omega)); (exact hI _ (by omega)); (exact hI _ (by omega)); (exact hI _ (by omega)); (exact HV.out); rintro e w3 ⟨rfl, hb3⟩))
  go_ret
  exact ⟨rfl, belt ((bel1 hB2 (Nat.le_refl _) _).setCell (show w.heap.size ≤ H + 4 by omega) _) (Nat.le_refl _) hb3⟩

set_option maxRecDepth 100000 in
set_option maxHeartbeats 8000000 in
theorem limits_1g (p : Option Addr) (c : Nat) (l : List StepV) (hc : l.length ≤ c) (which n : Int) (hw : 0 ≤ which ∧ which < 256) (hK : which % 6 = 1) (hn : inI64 n) (h0 : 0 ≤ n) (h1 : ¬ n < 4294967296) (h2 : n ≠ -1) (w : World) (hLaid : Laid w) (hS : StepsAt w p l) :
    Calls Tryz.prog 9 #[.slice p l.length c, .int .u8 which, .int .i64 n] w fun e w' => e = .returned (.bool true) ∧ Below w.heap.size w w' := by
  have cH := head_mod w hLaid
  have hl := hS.most
  unfold mostThings at hl
  have cM := fun W (hW : Below w.heap.size w W) => made_of p c (l.take 20) W ((hS.below hW (Nat.le_refl _)).take 20)
  simp only [List.length_take, min_nat, madeV_val] at cM
  clear hS
  generalize l.length = ln at *
  have HV : Hid (((decide ((-1 : Int) = -1) || word4 (-1)) && ((decide ((2 : Int) = -1) || word4 2) && (small4 5 && word4 n))) = false) := Lib.hid (by unfold word4 small4; simp; try omega)
  have hI : ∀ x : Int, -9223372036854775808 ≤ x ∧ x ≤ 9223372036854775807 → inI64 x := fun x h => h
  unfold inI64 at hn
  have hd1 : decide (n < 4294967296) = false := decide_eq_false h1
  go_enter Tryz.func9, Tryz.ntmps9
  go_wp2_with (first
    | (go_at_call 10; refine cH.mono ?_; rintro e w1 ⟨rfl, hB1⟩)
    | (go_at_call 21; (with_reducible refine (cM _ hB1).mono ?_); rintro e w2 ⟨H, pc, cc, code, rfl, hM, hne, hb2⟩; have hB2 := belt hB1 (Nat.le_refl _) hb2; have hlo : w.heap.size ≤ H := (by have := hM.from0; have := hB1.size; omega); have hr := fun o => hM.reads o; have hz := hM.size; have ⟨z2, z3, z4, y2, y3, y4⟩ : (¬ w2.heap.size = H + 2) ∧ (¬ w2.heap.size = H + 3) ∧ (¬ w2.heap.size = H + 4) ∧ (¬ H + 2 = w2.heap.size) ∧ (¬ H + 3 = w2.heap.size) ∧ (¬ H + 4 = w2.heap.size) := (by omega); clear hz)
    | (go_at_call 11; refine (made_rights (v := false) (hLaid.below ((bel1 hB2 (Nat.le_refl _) _).setCell (show w.heap.size ≤ H + 4 by omega) _)) ((hM.below ((Below.refl _ _).alloc (Nat.le_refl _) _)).setIx n) ?_ ?_ ?_ ?_ ?_ ?_).mono ?_; (exact hI _ (by omega)); (exact hI _ (by omega)); (exact hI _ (by omega)); (exact hI _ (by omega)); (exact hI _ (by omega)); (exact HV.out); rintro e w3 ⟨rfl, hb3⟩))
  go_ret
  exact ⟨rfl, belt ((bel1 hB2 (Nat.le_refl _) _).setCell (show w.heap.size ≤ H + 4 by omega) _) (Nat.le_refl _) hb3⟩

set_option maxRecDepth 100000 in
set_option maxHeartbeats 8000000 in
theorem limits_2s (p : Option Addr) (c : Nat) (l : List StepV) (hc : l.length ≤ c) (which n : Int) (hw : 0 ≤ which ∧ which < 256) (hK : which % 6 = 2) (hn : inI64 n) (h0 : 0 ≤ n) (h1 : n < 4294967296) (h2 : -2147483648 ≤ n) (h3 : n < 2147483648) (w : World) (hLaid : Laid w) (hS : StepsAt w p l) :
    Calls Tryz.prog 9 #[.slice p l.length c, .int .u8 which, .int .i64 n] w fun e w' => e = .returned (.bool true) ∧ Below w.heap.size w w' := by
  have cH := head_mod w hLaid
  have hl := hS.most
  unfold mostThings at hl
  have cM := fun W (hW : Below w.heap.size w W) => made_of p c (l.take 20) W ((hS.below hW (Nat.le_refl _)).take 20)
  simp only [List.length_take, min_nat, madeV_val] at cM
  clear hS
  generalize l.length = ln at *
  have HV : Hid (((decide ((-1 : Int) = -1) || word4 (-1)) && ((decide ((2 : Int) = -1) || word4 2) && (small4 n && word4 0))) = true) := Lib.hid (by unfold word4 small4; simp; try omega)
  have hI : ∀ x : Int, -9223372036854775808 ≤ x ∧ x ≤ 9223372036854775807 → inI64 x := fun x h => h
  unfold inI64 at hn
  go_enter Tryz.func9, Tryz.ntmps9
  go_wp2_with (first
    | (go_at_call 10; refine cH.mono ?_; rintro e w1 ⟨rfl, hB1⟩)
    | (go_at_call 21; (with_reducible refine (cM _ hB1).mono ?_); rintro e w2 ⟨H, pc, cc, code, rfl, hM, hne, hb2⟩; have hB2 := belt hB1 (Nat.le_refl _) hb2; have hlo : w.heap.size ≤ H := (by have := hM.from0; have := hB1.size; omega); have hr := fun o => hM.reads o; have hz := hM.size; have ⟨z2, z3, z4, y2, y3, y4⟩ : (¬ w2.heap.size = H + 2) ∧ (¬ w2.heap.size = H + 3) ∧ (¬ w2.heap.size = H + 4) ∧ (¬ H + 2 = w2.heap.size) ∧ (¬ H + 3 = w2.heap.size) ∧ (¬ H + 4 = w2.heap.size) := (by omega); clear hz)
    | (go_at_call 11; refine (made_rights (v := true) (hLaid.below ((bel1 hB2 (Nat.le_refl _) _).setCell (show w.heap.size ≤ H + 3 by omega) _)) ((hM.below ((Below.refl _ _).alloc (Nat.le_refl _) _)).setI0 n) ?_ ?_ ?_ ?_ ?_ ?_).mono ?_; (exact hI _ (by omega)); (exact hI _ (by omega)); (exact hI _ (by omega)); (exact hI _ (by omega)); (exact hI _ (by omega)); (exact HV.out); rintro e w3 ⟨rfl, hb3⟩))
  go_ret
  exact ⟨rfl, belt ((bel1 hB2 (Nat.le_refl _) _).setCell (show w.heap.size ≤ H + 3 by omega) _) (Nat.le_refl _) hb3⟩

set_option maxRecDepth 100000 in
set_option maxHeartbeats 8000000 in
theorem limits_2t (p : Option Addr) (c : Nat) (l : List StepV) (hc : l.length ≤ c) (which n : Int) (hw : 0 ≤ which ∧ which < 256) (hK : which % 6 = 2) (hn : inI64 n) (h0 : ¬ 0 ≤ n) (h1 : -2147483648 ≤ n) (h2 : n < 2147483648) (w : World) (hLaid : Laid w) (hS : StepsAt w p l) :
    Calls Tryz.prog 9 #[.slice p l.length c, .int .u8 which, .int .i64 n] w fun e w' => e = .returned (.bool true) ∧ Below w.heap.size w w' := by
  have cH := head_mod w hLaid
  have hl := hS.most
  unfold mostThings at hl
  have cM := fun W (hW : Below w.heap.size w W) => made_of p c (l.take 20) W ((hS.below hW (Nat.le_refl _)).take 20)
  simp only [List.length_take, min_nat, madeV_val] at cM
  clear hS
  generalize l.length = ln at *
  have HV : Hid (((decide ((-1 : Int) = -1) || word4 (-1)) && ((decide ((2 : Int) = -1) || word4 2) && (small4 n && word4 0))) = true) := Lib.hid (by unfold word4 small4; simp; try omega)
  have hI : ∀ x : Int, -9223372036854775808 ≤ x ∧ x ≤ 9223372036854775807 → inI64 x := fun x h => h
  unfold inI64 at hn
  have hd0 : decide (0 ≤ n) = false := decide_eq_false h0
  go_enter Tryz.func9, Tryz.ntmps9
  go_wp2_with (first
    | (go_at_call 10; refine cH.mono ?_; rintro e w1 ⟨rfl, hB1⟩)
    | (go_at_call 21; (with_reducible refine (cM _ hB1).mono ?_); rintro e w2 ⟨H, pc, cc, code, rfl, hM, hne, hb2⟩; have hB2 := belt hB1 (Nat.le_refl _) hb2; have hlo : w.heap.size ≤ H := (by have := hM.from0; have := hB1.size; omega); have hr := fun o => hM.reads o; have hz := hM.size; have ⟨z2, z3, z4, y2, y3, y4⟩ : (¬ w2.heap.size = H + 2) ∧ (¬ w2.heap.size = H + 3) ∧ (¬ w2.heap.size = H + 4) ∧ (¬ H + 2 = w2.heap.size) ∧ (¬ H + 3 = w2.heap.size) ∧ (¬ H + 4 = w2.heap.size) := (by omega); clear hz)
    | (go_at_call 11; refine (made_rights (v := true) (hLaid.below ((bel1 hB2 (Nat.le_refl _) _).setCell (show w.heap.size ≤ H + 3 by omega) _)) ((hM.below ((Below.refl _ _).alloc (Nat.le_refl _) _)).setI0 n) ?_ ?_ ?_ ?_ ?_ ?_).mono ?_; (exact hI _ (by omega)); (exact hI _ (by omega)); (exact hI _ (by omega)); (exact hI _ (by omega)); (exact hI _ (by omega)); (exact HV.out); rintro e w3 ⟨rfl, hb3⟩))
  go_ret
  exact ⟨rfl, belt ((bel1 hB2 (Nat.le_refl _) _).setCell (show w.heap.size ≤ H + 3 by omega) _) (Nat.le_refl _) hb3⟩

set_option maxRecDepth 100000 in
set_option maxHeartbeats 8000000 in
theorem limits_2u (p : Option Addr) (c : Nat) (l : List StepV) (hc : l.length ≤ c) (which n : Int) (hw : 0 ≤ which ∧ which < 256) (hK : which % 6 = 2) (hn : inI64 n) (h0 : ¬ 0 ≤ n) (h1 : ¬ -2147483648 ≤ n) (w : World) (hLaid : Laid w) (hS : StepsAt w p l) :
    Calls Tryz.prog 9 #[.slice p l.length c, .int .u8 which, .int .i64 n] w fun e w' => e = .returned (.bool true) ∧ Below w.heap.size w w' := by
  have cH := head_mod w hLaid
  have hl := hS.most
  unfold mostThings at hl
  have cM := fun W (hW : Below w.heap.size w W) => made_of p c (l.take 20) W ((hS.below hW (Nat.le_refl _)).take 20)
  simp only [List.length_take, min_nat, madeV_val] at cM
  clear hS
  generalize l.length = ln at *
  have HV : Hid (((decide ((-1 : Int) = -1) || word4 (-1)) && ((decide ((2 : Int) = -1) || word4 2) && (small4 n && word4 0))) = false) := Lib.hid (by unfold word4 small4; simp; try omega)
  have hI : ∀ x : Int, -9223372036854775808 ≤ x ∧ x ≤ 9223372036854775807 → inI64 x := fun x h => h
  unfold inI64 at hn
  have hd0 : decide (0 ≤ n) = false := decide_eq_false h0
  have hd1 : decide (-2147483648 ≤ n) = false := decide_eq_false h1
  go_enter Tryz.func9, Tryz.ntmps9
  go_wp2_with (first
    | (go_at_call 10; refine cH.mono ?_; rintro e w1 ⟨rfl, hB1⟩)
    | (go_at_call 21; (with_reducible refine (cM _ hB1).mono ?_); rintro e w2 ⟨H, pc, cc, code, rfl, hM, hne, hb2⟩; have hB2 := belt hB1 (Nat.le_refl _) hb2; have hlo : w.heap.size ≤ H := (by have := hM.from0; have := hB1.size; omega); have hr := fun o => hM.reads o; have hz := hM.size; have ⟨z2, z3, z4, y2, y3, y4⟩ : (¬ w2.heap.size = H + 2) ∧ (¬ w2.heap.size = H + 3) ∧ (¬ w2.heap.size = H + 4) ∧ (¬ H + 2 = w2.heap.size) ∧ (¬ H + 3 = w2.heap.size) ∧ (¬ H + 4 = w2.heap.size) := (by omega); clear hz)
    | (go_at_call 11; refine (made_rights (v := false) (hLaid.below ((bel1 hB2 (Nat.le_refl _) _).setCell (show w.heap.size ≤ H + 3 by omega) _)) ((hM.below ((Below.refl _ _).alloc (Nat.le_refl _) _)).setI0 n) ?_ ?_ ?_ ?_ ?_ ?_).mono ?_; (exact hI _ (by omega)); (exact hI _ (by omega)); (exact hI _ (by omega)); (exact hI _ (by omega)); (exact hI _ (by omega)); (exact HV.out); rintro e w3 ⟨rfl, hb3⟩))
  go_ret
  exact ⟨rfl, belt ((bel1 hB2 (Nat.le_refl _) _).setCell (show w.heap.size ≤ H + 3 by omega) _) (Nat.le_refl _) hb3⟩

set_option maxRecDepth 100000 in
set_option maxHeartbeats 8000000 in
theorem limits_2x (p : Option Addr) (c : Nat) (l : List StepV) (hc : l.length ≤ c) (which n : Int) (hw : 0 ≤ which ∧ which < 256) (hK : which % 6 = 2) (hn : inI64 n) (h0 : 0 ≤ n) (h1 : n < 4294967296) (h2 : -2147483648 ≤ n) (h3 : ¬ n < 2147483648) (w : World) (hLaid : Laid w) (hS : StepsAt w p l) :
    Calls Tryz.prog 9 #[.slice p l.length c, .int .u8 which, .int .i64 n] w fun e w' => e = .returned (.bool true) ∧ Below w.heap.size w w' := by
  have cH := head_mod w hLaid
  have hl := hS.most
  unfold mostThings at hl
  have cM := fun W (hW : Below w.heap.size w W) => made_of p c (l.take 20) W ((hS.below hW (Nat.le_refl _)).take 20)
  simp only [List.length_take, min_nat, madeV_val] at cM
  clear hS
  generalize l.length = ln at *
  have HV : Hid (((decide ((-1 : Int) = -1) || word4 (-1)) && ((decide ((2 : Int) = -1) || word4 2) && (small4 n && word4 0))) = false) := Lib.hid (by unfold word4 small4; simp; try omega)
  have hI : ∀ x : Int, -9223372036854775808 ≤ x ∧ x ≤ 9223372036854775807 → inI64 x := fun x h => h
  unfold inI64 at hn
  have hd3 : decide (n < 2147483648) = false := decide_eq_false h3
  go_enter Tryz.func9, Tryz.ntmps9
  go_wp2_with (first
    | (go_at_call 10; refine cH.mono ?_; rintro e w1 ⟨rfl, hB1⟩)
    | (go_at_call 21; (with_reducible refine (cM _ hB1).mono ?_); rintro e w2 ⟨H, pc, cc, code, rfl, hM, hne, hb2⟩; have hB2 := belt hB1 (Nat.le_refl _) hb2; have hlo : w.heap.size ≤ H := (by have := hM.from0; have := hB1.size; omega); have hr := fun o => hM.reads o; have hz := hM.size; have ⟨z2, z3, z4, y2, y3, y4⟩ : (¬ w2.heap.size = H + 2) ∧ (¬ w2.heap.size = H + 3) ∧ (¬ w2.heap.size = H + 4) ∧ (¬ H + 2 = w2.heap.size) ∧ (¬ H + 3 = w2.heap.size) ∧ (¬ H + 4 = w2.heap.size) := (by omega); clear hz)
    | (go_at_call 11; refine (made_rights (v := false) (hLaid.below ((bel1 hB2 (Nat.le_refl _) _).setCell (show w.heap.size ≤ H + 3 by omega) _)) ((hM.below ((Below.refl _ _).alloc (Nat.le_refl _) _)).setI0 n) ?_ ?_ ?_ ?_ ?_ ?_).mono ?_; (exact hI _ (by omega)); (exact hI _ (by omega)); (exact hI _ (by omega)); (exact hI _ (by omega)); (exact hI _ (by omega)); (exact HV.out); rintro e w3 ⟨rfl, hb3⟩))
  go_ret
  exact ⟨rfl, belt ((bel1 hB2 (Nat.le_refl _) _).setCell (show w.heap.size ≤ H + 3 by omega) _) (Nat.le_refl _) hb3⟩

set_option maxRecDepth 100000 in
set_option maxHeartbeats 8000000 in
theorem limits_2gg (p : Option Addr) (c : Nat) (l : List StepV) (hc : l.length ≤ c) (which n : Int) (hw : 0 ≤ which ∧ which < 256) (hK : which % 6 = 2) (hn : inI64 n) (h0 : 0 ≤ n) (h1 : ¬ n < 4294967296) (h2 : -2147483648 ≤ n) (h3 : ¬ n < 2147483648) (w : World) (hLaid : Laid w) (hS : StepsAt w p l) :
    Calls Tryz.prog 9 #[.slice p l.length c, .int .u8 which, .int .i64 n] w fun e w' => e = .returned (.bool true) ∧ Below w.heap.size w w' := by
  have cH := head_mod w hLaid
  have hl := hS.most
  unfold mostThings at hl
  have cM := fun W (hW : Below w.heap.size w W) => made_of p c (l.take 20) W ((hS.below hW (Nat.le_refl _)).take 20)
  simp only [List.length_take, min_nat, madeV_val] at cM
  clear hS
  generalize l.length = ln at *
  have HV : Hid (((decide ((-1 : Int) = -1) || word4 (-1)) && ((decide ((2 : Int) = -1) || word4 2) && (small4 n && word4 0))) = false) := Lib.hid (by unfold word4 small4; simp; try omega)
  have hI : ∀ x : Int, -9223372036854775808 ≤ x ∧ x ≤ 9223372036854775807 → inI64 x := fun x h => h
  unfold inI64 at hn
  have hd1 : decide (n < 4294967296) = false := decide_eq_false h1
  have hd3 : decide (n < 2147483648) = false := decide_eq_false h3
  go_enter Tryz.func9, Tryz.ntmps9
  go_wp2_with (first
    | (go_at_call 10; refine cH.mono ?_; rintro e w1 ⟨rfl, hB1⟩)
    | (go_at_call 21; (with_reducible refine (cM _ hB1).mono ?_); rintro e w2 ⟨H, pc, cc, code, rfl, hM, hne, hb2⟩; have hB2 := belt hB1 (Nat.le_refl _) hb2; have hlo : w.heap.size ≤ H := (by have := hM.from0; have := hB1.size; omega); have hr := fun o => hM.reads o; have hz := hM.size; have ⟨z2, z3, z4, y2, y3, y4⟩ : (¬ w2.heap.size = H + 2) ∧ (¬ w2.heap.size = H + 3) ∧ (¬ w2.heap.size = H + 4) ∧ (¬ H + 2 = w2.heap.size) ∧ (¬ H + 3 = w2.heap.size) ∧ (¬ H + 4 = w2.heap.size) := (by omega); clear hz)
    | (go_at_call 11; refine (made_rights (v := false) (hLaid.below ((bel1 hB2 (Nat.le_refl _) _).setCell (show w.heap.size ≤ H + 3 by omega) _)) ((hM.below ((Below.refl _ _).alloc (Nat.le_refl _) _)).setI0 n) ?_ ?_ ?_ ?_ ?_ ?_).mono ?_; (exact hI _ (by omega)); (exact hI _ (by omega)); (exact hI _ (by omega)); (exact hI _ (by omega)); (exact hI _ (by omega)); (exact HV.out); rintro e w3 ⟨rfl, hb3⟩))
  go_ret
  exact ⟨rfl, belt ((bel1 hB2 (Nat.le_refl _) _).setCell (show w.heap.size ≤ H + 3 by omega) _) (Nat.le_refl _) hb3⟩

set_option maxRecDepth 100000 in
set_option maxHeartbeats 8000000 in
theorem limits_3w (p : Option Addr) (c : Nat) (l : List StepV) (hc : l.length ≤ c) (which n : Int) (hw : 0 ≤ which ∧ which < 256) (hK : which % 6 = 3) (hn : inI64 n) (h0 : 0 ≤ n) (h1 : n < 4294967296) (h2 : n ≠ -1) (w : World) (hLaid : Laid w) (hS : StepsAt w p l) :
    Calls Tryz.prog 9 #[.slice p l.length c, .int .u8 which, .int .i64 n] w fun e w' => e = .returned (.bool true) ∧ Below w.heap.size w w' := by
  have cH := head_mod w hLaid
  have hl := hS.most
  unfold mostThings at hl
  have cM := fun W (hW : Below w.heap.size w W) => made_of p c (l.take 20) W ((hS.below hW (Nat.le_refl _)).take 20)
  simp only [List.length_take, min_nat, madeV_val] at cM
  clear hS
  generalize l.length = ln at *
  have HV : Hid (((decide ((-1 : Int) = -1) || word4 (-1)) && ((decide ((2 : Int) = -1) || word4 2) && (small4 5 && word4 0))) = true) := Lib.hid (by unfold word4 small4; simp; try omega)
  have hI : ∀ x : Int, -9223372036854775808 ≤ x ∧ x ≤ 9223372036854775807 → inI64 x := fun x h => h
  unfold inI64 at hn
  go_enter Tryz.func9, Tryz.ntmps9
  go_wp2_with (first
    | (go_at_call 10; refine cH.mono ?_; rintro e w1 ⟨rfl, hB1⟩)
    | (go_at_call 21; (with_reducible refine (cM _ hB1).mono ?_); rintro e w2 ⟨H, pc, cc, code, rfl, hM, hne, hb2⟩; have hB2 := belt hB1 (Nat.le_refl _) hb2; have hlo : w.heap.size ≤ H := (by have := hM.from0; have := hB1.size; omega); have hr := fun o => hM.reads o; have hz := hM.size; have ⟨z2, z3, z4, y2, y3, y4⟩ : (¬ w2.heap.size = H + 2) ∧ (¬ w2.heap.size = H + 3) ∧ (¬ w2.heap.size = H + 4) ∧ (¬ H + 2 = w2.heap.size) ∧ (¬ H + 3 = w2.heap.size) ∧ (¬ H + 4 = w2.heap.size) := (by omega); clear hz)
    | (go_at_call 11; refine (made_rights (v := true) (hLaid.below ((bel1 hB2 (Nat.le_refl _) _).setCell (show w.heap.size ≤ H + 3 by omega) _)) ((hM.below ((Below.refl _ _).alloc (Nat.le_refl _) _)).setI1 n) ?_ ?_ ?_ ?_ ?_ ?_).mono ?_; (exact hI _ (by omega)); (exact hI _ (by omega)); (exact hI _ (by omega)); (exact hI _ (by omega)); (exact hI _ (by omega)); (exact HV.out); rintro e w3 ⟨rfl, hb3⟩))
  go_ret
  exact ⟨rfl, belt ((bel1 hB2 (Nat.le_refl _) _).setCell (show w.heap.size ≤ H + 3 by omega) _) (Nat.le_refl _) hb3⟩

set_option maxRecDepth 100000 in
set_option maxHeartbeats 8000000 in
theorem limits_3l (p : Option Addr) (c : Nat) (l : List StepV) (hc : l.length ≤ c) (which n : Int) (hw : 0 ≤ which ∧ which < 256) (hK : which % 6 = 3) (hn : inI64 n) (h0 : ¬ 0 ≤ n) (w : World) (hLaid : Laid w) (hS : StepsAt w p l) :
    Calls Tryz.prog 9 #[.slice p l.length c, .int .u8 which, .int .i64 n] w fun e w' => e = .returned (.bool true) ∧ Below w.heap.size w w' := by
  have cH := head_mod w hLaid
  have hl := hS.most
  unfold mostThings at hl
  have cM := fun W (hW : Below w.heap.size w W) => made_of p c (l.take 20) W ((hS.below hW (Nat.le_refl _)).take 20)
  simp only [List.length_take, min_nat, madeV_val] at cM
  clear hS
  generalize l.length = ln at *
  have HV : Hid (((decide ((-1 : Int) = -1) || word4 (-1)) && ((decide ((2 : Int) = -1) || word4 2) && (small4 5 && word4 0))) = true) := Lib.hid (by unfold word4 small4; simp; try omega)
  have hI : ∀ x : Int, -9223372036854775808 ≤ x ∧ x ≤ 9223372036854775807 → inI64 x := fun x h => h
  unfold inI64 at hn
  have hd0 : decide (0 ≤ n) = false := decide_eq_false h0
  go_enter Tryz.func9, Tryz.ntmps9
  go_wp2_with (first
    | (go_at_call 10; refine cH.mono ?_; rintro e w1 ⟨rfl, hB1⟩)
    | (go_at_call 21; (with_reducible refine (cM _ hB1).mono ?_); rintro e w2 ⟨H, pc, cc, code, rfl, hM, hne, hb2⟩; have hB2 := belt hB1 (Nat.le_refl _) hb2; have hlo : w.heap.size ≤ H := (by have := hM.from0; have := hB1.size; omega); have hr := fun o => hM.reads o; have hz := hM.size; have ⟨z2, z3, z4, y2, y3, y4⟩ : (¬ w2.heap.size = H + 2) ∧ (¬ w2.heap.size = H + 3) ∧ (¬ w2.heap.size = H + 4) ∧ (¬ H + 2 = w2.heap.size) ∧ (¬ H + 3 = w2.heap.size) ∧ (¬ H + 4 = w2.heap.size) := (by omega); clear hz)
    | (go_at_call 11; refine (made_rights (v := true) (hLaid.below ((bel1 hB2 (Nat.le_refl _) _).setCell (show w.heap.size ≤ H + 3 by omega) _)) ((hM.below ((Below.refl _ _).alloc (Nat.le_refl _) _)).setI1 n) ?_ ?_ ?_ ?_ ?_ ?_).mono ?_; (exact hI _ (by omega)); (exact hI _ (by omega)); (exact hI _ (by omega)); (exact hI _ (by omega)); (exact hI _ (by omega)); (exact HV.out); rintro e w3 ⟨rfl, hb3⟩))
  go_ret
  exact ⟨rfl, belt ((bel1 hB2 (Nat.le_refl _) _).setCell (show w.heap.size ≤ H + 3 by omega) _) (Nat.le_refl _) hb3⟩

set_option maxRecDepth 100000 in
set_option maxHeartbeats 8000000 in
theorem limits_3g (p : Option Addr) (c : Nat) (l : List StepV) (hc : l.length ≤ c) (which n : Int) (hw : 0 ≤ which ∧ which < 256) (hK : which % 6 = 3) (hn : inI64 n) (h0 : 0 ≤ n) (h1 : ¬ n < 4294967296) (h2 : n ≠ -1) (w : World) (hLaid : Laid w) (hS : StepsAt w p l) :
    Calls Tryz.prog 9 #[.slice p l.length c, .int .u8 which, .int .i64 n] w fun e w' => e = .returned (.bool true) ∧ Below w.heap.size w w' := by
  have cH := head_mod w hLaid
  have hl := hS.most
  unfold mostThings at hl
  have cM := fun W (hW : Below w.heap.size w W) => made_of p c (l.take 20) W ((hS.below hW (Nat.le_refl _)).take 20)
  simp only [List.length_take, min_nat, madeV_val] at cM
  clear hS
  generalize l.length = ln at *
  have HV : Hid (((decide ((-1 : Int) = -1) || word4 (-1)) && ((decide ((2 : Int) = -1) || word4 2) && (small4 5 && word4 0))) = true) := Lib.hid (by unfold word4 small4; simp; try omega)
  have hI : ∀ x : Int, -9223372036854775808 ≤ x ∧ x ≤ 9223372036854775807 → inI64 x := fun x h => h
  unfold inI64 at hn
  have hd1 : decide (n < 4294967296) = false := decide_eq_false h1
  go_enter Tryz.func9, Tryz.ntmps9
  go_wp2_with (first
    | (go_at_call 10; refine cH.mono ?_; rintro e w1 ⟨rfl, hB1⟩)
    | (go_at_call 21; (with_reducible refine (cM _ hB1).mono ?_); rintro e w2 ⟨H, pc, cc, code, rfl, hM, hne, hb2⟩; have hB2 := belt hB1 (Nat.le_refl _) hb2; have hlo : w.heap.size ≤ H := (by have := hM.from0; have := hB1.size; omega); have hr := fun o => hM.reads o; have hz := hM.size; have ⟨z2, z3, z4, y2, y3, y4⟩ : (¬ w2.heap.size = H + 2) ∧ (¬ w2.heap.size = H + 3) ∧ (¬ w2.heap.size = H + 4) ∧ (¬ H + 2 = w2.heap.size) ∧ (¬ H + 3 = w2.heap.size) ∧ (¬ H + 4 = w2.heap.size) := (by omega); clear hz)
    | (go_at_call 11; refine (made_rights (v := true) (hLaid.below ((bel1 hB2 (Nat.le_refl _) _).setCell (show w.heap.size ≤ H + 3 by omega) _)) ((hM.below ((Below.refl _ _).alloc (Nat.le_refl _) _)).setI1 n) ?_ ?_ ?_ ?_ ?_ ?_).mono ?_; (exact hI _ (by omega)); (exact hI _ (by omega)); (exact hI _ (by omega)); (exact hI _ (by omega)); (exact hI _ (by omega)); (exact HV.out); rintro e w3 ⟨rfl, hb3⟩))
  go_ret
  exact ⟨rfl, belt ((bel1 hB2 (Nat.le_refl _) _).setCell (show w.heap.size ≤ H + 3 by omega) _) (Nat.le_refl _) hb3⟩

set_option maxRecDepth 100000 in
set_option maxHeartbeats 8000000 in
theorem limits_4w (p : Option Addr) (c : Nat) (l : List StepV) (hc : l.length ≤ c) (which n : Int) (hw : 0 ≤ which ∧ which < 256) (hK : which % 6 = 4) (hn : inI64 n) (h0 : 0 ≤ n) (h1 : n < 4294967296) (h2 : n ≠ -1) (w : World) (hLaid : Laid w) (hS : StepsAt w p l) :
    Calls Tryz.prog 9 #[.slice p l.length c, .int .u8 which, .int .i64 n] w fun e w' => e = .returned (.bool true) ∧ Below w.heap.size w w' := by
  have cH := head_mod w hLaid
  have hl := hS.most
  unfold mostThings at hl
  have cM := fun W (hW : Below w.heap.size w W) => made_of p c (l.take 20) W ((hS.below hW (Nat.le_refl _)).take 20)
  simp only [List.length_take, min_nat, madeV_val] at cM
  clear hS
  generalize l.length = ln at *
  have HV : Hid (((decide ((-1 : Int) = -1) || word4 (-1)) && ((decide (n = -1) || word4 n) && (small4 5 && word4 0))) = true) := Lib.hid (by unfold word4 small4; simp; try omega)
  have hI : ∀ x : Int, -9223372036854775808 ≤ x ∧ x ≤ 9223372036854775807 → inI64 x := fun x h => h
  unfold inI64 at hn
  have hq : (n == -1) = false := beq_eq_false_iff_ne.2 (by omega)
  go_enter Tryz.func9, Tryz.ntmps9
  go_wp2_with (first
    | (go_at_call 10; refine cH.mono ?_; rintro e w1 ⟨rfl, hB1⟩)
    | (go_at_call 21; (with_reducible refine (cM _ hB1).mono ?_); rintro e w2 ⟨H, pc, cc, code, rfl, hM, hne, hb2⟩; have hB2 := belt hB1 (Nat.le_refl _) hb2; have hlo : w.heap.size ≤ H := (by have := hM.from0; have := hB1.size; omega); have hr := fun o => hM.reads o; have hz := hM.size; have ⟨z2, z3, z4, y2, y3, y4⟩ : (¬ w2.heap.size = H + 2) ∧ (¬ w2.heap.size = H + 3) ∧ (¬ w2.heap.size = H + 4) ∧ (¬ H + 2 = w2.heap.size) ∧ (¬ H + 3 = w2.heap.size) ∧ (¬ H + 4 = w2.heap.size) := (by omega); clear hz)
    | (go_at_call 11; refine (made_rights (v := true) (hLaid.below ((bel1 hB2 (Nat.le_refl _) _).setCell (show w.heap.size ≤ H + 2 by omega) _)) ((hM.below ((Below.refl _ _).alloc (Nat.le_refl _) _)).setMx n) ?_ ?_ ?_ ?_ ?_ ?_).mono ?_; (exact hI _ (by omega)); (exact hI _ (by omega)); (exact hI _ (by omega)); (exact hI _ (by omega)); (exact hI _ (by omega)); (exact HV.out); rintro e w3 ⟨rfl, hb3⟩))
  go_ret
  exact ⟨rfl, belt ((bel1 hB2 (Nat.le_refl _) _).setCell (show w.heap.size ≤ H + 2 by omega) _) (Nat.le_refl _) hb3⟩

set_option maxRecDepth 100000 in
set_option maxHeartbeats 8000000 in
theorem limits_4m (p : Option Addr) (c : Nat) (l : List StepV) (hc : l.length ≤ c) (which n : Int) (hw : 0 ≤ which ∧ which < 256) (hK : which % 6 = 4) (hn : inI64 n) (h0 : n = -1) (w : World) (hLaid : Laid w) (hS : StepsAt w p l) :
    Calls Tryz.prog 9 #[.slice p l.length c, .int .u8 which, .int .i64 n] w fun e w' => e = .returned (.bool true) ∧ Below w.heap.size w w' := by
  have cH := head_mod w hLaid
  have hl := hS.most
  unfold mostThings at hl
  have cM := fun W (hW : Below w.heap.size w W) => made_of p c (l.take 20) W ((hS.below hW (Nat.le_refl _)).take 20)
  simp only [List.length_take, min_nat, madeV_val] at cM
  clear hS
  generalize l.length = ln at *
  subst h0
  have HV : Hid (((decide ((-1 : Int) = -1) || word4 (-1)) && ((decide ((-1) = -1) || word4 (-1)) && (small4 5 && word4 0))) = true) := Lib.hid (by unfold word4 small4; simp; try omega)
  have hI : ∀ x : Int, -9223372036854775808 ≤ x ∧ x ≤ 9223372036854775807 → inI64 x := fun x h => h
  unfold inI64 at hn
  go_enter Tryz.func9, Tryz.ntmps9
  go_wp2_with (first
    | (go_at_call 10; refine cH.mono ?_; rintro e w1 ⟨rfl, hB1⟩)
    | (go_at_call 21; (with_reducible refine (cM _ hB1).mono ?_); rintro e w2 ⟨H, pc, cc, code, rfl, hM, hne, hb2⟩; have hB2 := belt hB1 (Nat.le_refl _) hb2; have hlo : w.heap.size ≤ H := (by have := hM.from0; have := hB1.size; omega); have hr := fun o => hM.reads o; have hz := hM.size; have ⟨z2, z3, z4, y2, y3, y4⟩ : (¬ w2.heap.size = H + 2) ∧ (¬ w2.heap.size = H + 3) ∧ (¬ w2.heap.size = H + 4) ∧ (¬ H + 2 = w2.heap.size) ∧ (¬ H + 3 = w2.heap.size) ∧ (¬ H + 4 = w2.heap.size) := (by omega); clear hz)
    | (go_at_call 11; refine (made_rights (v := true) (hLaid.below ((bel1 hB2 (Nat.le_refl _) _).setCell (show w.heap.size ≤ H + 2 by omega) _)) ((hM.below ((Below.refl _ _).alloc (Nat.le_refl _) _)).setMx (-1)) ?_ ?_ ?_ ?_ ?_ ?_).mono ?_; (exact hI _ (by omega)); (exact hI _ (by omega)); (exact hI _ (by omega)); (exact hI _ (by omega)); (exact hI _ (by omega)); (exact HV.out); rintro e w3 ⟨rfl, hb3⟩))
  go_ret
  exact ⟨rfl, belt ((bel1 hB2 (Nat.le_refl _) _).setCell (show w.heap.size ≤ H + 2 by omega) _) (Nat.le_refl _) hb3⟩

set_option maxRecDepth 100000 in
set_option maxHeartbeats 8000000 in
theorem limits_4ll (p : Option Addr) (c : Nat) (l : List StepV) (hc : l.length ≤ c) (which n : Int) (hw : 0 ≤ which ∧ which < 256) (hK : which % 6 = 4) (hn : inI64 n) (h0 : ¬ 0 ≤ n) (h1 : n ≠ -1) (w : World) (hLaid : Laid w) (hS : StepsAt w p l) :
    Calls Tryz.prog 9 #[.slice p l.length c, .int .u8 which, .int .i64 n] w fun e w' => e = .returned (.bool true) ∧ Below w.heap.size w w' := by
  have cH := head_mod w hLaid
  have hl := hS.most
  unfold mostThings at hl
  have cM := fun W (hW : Below w.heap.size w W) => made_of p c (l.take 20) W ((hS.below hW (Nat.le_refl _)).take 20)
  simp only [List.length_take, min_nat, madeV_val] at cM
  clear hS
  generalize l.length = ln at *
  have HV : Hid (((decide ((-1 : Int) = -1) || word4 (-1)) && ((decide (n = -1) || word4 n) && (small4 5 && word4 0))) = false) := Lib.hid (by unfold word4 small4; simp; try omega)
  have hI : ∀ x : Int, -9223372036854775808 ≤ x ∧ x ≤ 9223372036854775807 → inI64 x := fun x h => h
  unfold inI64 at hn
  have hq : (n == -1) = false := beq_eq_false_iff_ne.2 (by omega)
  have hd0 : decide (0 ≤ n) = false := decide_eq_false h0
  go_enter Tryz.func9, Tryz.ntmps9
  go_wp2_with (first
    | (go_at_call 10; refine cH.mono ?_; rintro e w1 ⟨rfl, hB1⟩)
    | (go_at_call 21; (with_reducible refine (cM _ hB1).mono ?_); rintro e w2 ⟨H, pc, cc, code, rfl, hM, hne, hb2⟩; have hB2 := belt hB1 (Nat.le_refl _) hb2; have hlo : w.heap.size ≤ H := (by have := hM.from0; have := hB1.size; omega); have hr := fun o => hM.reads o; have hz := hM.size; have ⟨z2, z3, z4, y2, y3, y4⟩ : (¬ w2.heap.size = H + 2) ∧ (¬ w2.heap.size = H + 3) ∧ (¬ w2.heap.size = H + 4) ∧ (¬ H + 2 = w2.heap.size) ∧ (¬ H + 3 = w2.heap.size) ∧ (¬ H + 4 = w2.heap.size) := (by omega); clear hz)
    | (go_at_call 11; refine (made_rights (v := false) (hLaid.below ((bel1 hB2 (Nat.le_refl _) _).setCell (show w.heap.size ≤ H + 2 by omega) _)) ((hM.below ((Below.refl _ _).alloc (Nat.le_refl _) _)).setMx n) ?_ ?_ ?_ ?_ ?_ ?_).mono ?_; (exact hI _ (by omega)); (exact hI _ (by omega)); (exact hI _ (by omega)); (exact hI _ (by omega)); (exact hI _ (by omega)); (exact HV.out); rintro e w3 ⟨rfl, hb3⟩))
  go_ret
  exact ⟨rfl, belt ((bel1 hB2 (Nat.le_refl _) _).setCell (show w.heap.size ≤ H + 2 by omega) _) (Nat.le_refl _) hb3⟩

set_option maxRecDepth 100000 in
set_option maxHeartbeats 8000000 in
theorem limits_4g (p : Option Addr) (c : Nat) (l : List StepV) (hc : l.length ≤ c) (which n : Int) (hw : 0 ≤ which ∧ which < 256) (hK : which % 6 = 4) (hn : inI64 n) (h0 : 0 ≤ n) (h1 : ¬ n < 4294967296) (h2 : n ≠ -1) (w : World) (hLaid : Laid w) (hS : StepsAt w p l) :
    Calls Tryz.prog 9 #[.slice p l.length c, .int .u8 which, .int .i64 n] w fun e w' => e = .returned (.bool true) ∧ Below w.heap.size w w' := by
  have cH := head_mod w hLaid
  have hl := hS.most
  unfold mostThings at hl
  have cM := fun W (hW : Below w.heap.size w W) => made_of p c (l.take 20) W ((hS.below hW (Nat.le_refl _)).take 20)
  simp only [List.length_take, min_nat, madeV_val] at cM
  clear hS
  generalize l.length = ln at *
  have HV : Hid (((decide ((-1 : Int) = -1) || word4 (-1)) && ((decide (n = -1) || word4 n) && (small4 5 && word4 0))) = false) := Lib.hid (by unfold word4 small4; simp; try omega)
  have hI : ∀ x : Int, -9223372036854775808 ≤ x ∧ x ≤ 9223372036854775807 → inI64 x := fun x h => h
  unfold inI64 at hn
  have hq : (n == -1) = false := beq_eq_false_iff_ne.2 (by omega)
  have hd1 : decide (n < 4294967296) = false := decide_eq_false h1
  go_enter Tryz.func9, Tryz.ntmps9
  go_wp2_with (first
    | (go_at_call 10; refine cH.mono ?_; rintro e w1 ⟨rfl, hB1⟩)
    | (go_at_call 21; (with_reducible refine (cM _ hB1).mono ?_); rintro e w2 ⟨H, pc, cc, code, rfl, hM, hne, hb2⟩; have hB2 := belt hB1 (Nat.le_refl _) hb2; have hlo : w.heap.size ≤ H := (by have := hM.from0; have := hB1.size; omega); have hr := fun o => hM.reads o; have hz := hM.size; have ⟨z2, z3, z4, y2, y3, y4⟩ : (¬ w2.heap.size = H + 2) ∧ (¬ w2.heap.size = H + 3) ∧ (¬ w2.heap.size = H + 4) ∧ (¬ H + 2 = w2.heap.size) ∧ (¬ H + 3 = w2.heap.size) ∧ (¬ H + 4 = w2.heap.size) := (by omega); clear hz)
    | (go_at_call 11; refine (made_rights (v := false) (hLaid.below ((bel1 hB2 (Nat.le_refl _) _).setCell (show w.heap.size ≤ H + 2 by omega) _)) ((hM.below ((Below.refl _ _).alloc (Nat.le_refl _) _)).setMx n) ?_ ?_ ?_ ?_ ?_ ?_).mono ?_; (exact hI _ (by omega)); (exact hI _ (by omega)); (exact hI _ (by omega)); (exact hI _ (by omega)); (exact hI _ (by omega)); (exact HV.out); rintro e w3 ⟨rfl, hb3⟩))
  go_ret
  exact ⟨rfl, belt ((bel1 hB2 (Nat.le_refl _) _).setCell (show w.heap.size ≤ H + 2 by omega) _) (Nat.le_refl _) hb3⟩

theorem moduleLimits_walk (p : Option Addr) (c : Nat) (l : List StepV) (hc : l.length ≤ c) (which n : Int) (hw : 0 ≤ which ∧ which < 256) (hn : inI64 n) (w : World) (hLaid : Laid w) (hS : StepsAt w p l) :
    Calls Tryz.prog 9 #[.slice p l.length c, .int .u8 which, .int .i64 n] w fun e w' => e = .returned (.bool true) ∧ Below w.heap.size w w' := by
  have h6 : which % 6 = 0 ∨ which % 6 = 1 ∨ which % 6 = 2 ∨ which % 6 = 3 ∨ which % 6 = 4 ∨ which % 6 = 5 := by omega
  have hm : n = -1 ∨ (¬ 0 ≤ n ∧ n ≠ -1) ∨ (0 ≤ n ∧ n < 4294967296 ∧ n ≠ -1) ∨ (0 ≤ n ∧ ¬ n < 4294967296 ∧ n ≠ -1) := by omega
  have hk : ¬ 0 ≤ n ∨ (0 ≤ n ∧ n < 4294967296 ∧ n ≠ -1) ∨ (0 ≤ n ∧ ¬ n < 4294967296 ∧ n ≠ -1) := by omega
  have hs : (0 ≤ n ∧ n < 4294967296 ∧ -2147483648 ≤ n ∧ n < 2147483648) ∨ (¬ 0 ≤ n ∧ -2147483648 ≤ n ∧ n < 2147483648) ∨ (¬ 0 ≤ n ∧ ¬ -2147483648 ≤ n) ∨ (0 ≤ n ∧ n < 4294967296 ∧ -2147483648 ≤ n ∧ ¬ n < 2147483648) ∨ (0 ≤ n ∧ ¬ n < 4294967296 ∧ -2147483648 ≤ n ∧ ¬ n < 2147483648) := by omega
  rcases h6 with hK | hK | hK | hK | hK | hK
  · rcases hm with h | ⟨h1, h2⟩ | ⟨h1, h2, h3⟩ | ⟨h1, h2, h3⟩
    · exact limits_0m p c l hc which n hw hK hn h w hLaid hS
    · exact limits_0ll p c l hc which n hw hK hn h1 h2 w hLaid hS
    · exact limits_0w p c l hc which n hw hK hn h1 h2 h3 w hLaid hS
    · exact limits_0g p c l hc which n hw hK hn h1 h2 h3 w hLaid hS
  · rcases hk with h1 | ⟨h1, h2, h3⟩ | ⟨h1, h2, h3⟩
    · exact limits_1l p c l hc which n hw hK hn h1 w hLaid hS
    · exact limits_1w p c l hc which n hw hK hn h1 h2 h3 w hLaid hS
    · exact limits_1g p c l hc which n hw hK hn h1 h2 h3 w hLaid hS
  · rcases hs with ⟨h1, h2, h3, h4⟩ | ⟨h1, h2, h3⟩ | ⟨h1, h2⟩ | ⟨h1, h2, h3, h4⟩ | ⟨h1, h2, h3, h4⟩
    · exact limits_2s p c l hc which n hw hK hn h1 h2 h3 h4 w hLaid hS
    · exact limits_2t p c l hc which n hw hK hn h1 h2 h3 w hLaid hS
    · exact limits_2u p c l hc which n hw hK hn h1 h2 w hLaid hS
    · exact limits_2x p c l hc which n hw hK hn h1 h2 h3 h4 w hLaid hS
    · exact limits_2gg p c l hc which n hw hK hn h1 h2 h3 h4 w hLaid hS
  · rcases hk with h1 | ⟨h1, h2, h3⟩ | ⟨h1, h2, h3⟩
    · exact limits_3l p c l hc which n hw hK hn h1 w hLaid hS
    · exact limits_3w p c l hc which n hw hK hn h1 h2 h3 w hLaid hS
    · exact limits_3g p c l hc which n hw hK hn h1 h2 h3 w hLaid hS
  · rcases hm with h | ⟨h1, h2⟩ | ⟨h1, h2, h3⟩ | ⟨h1, h2, h3⟩
    · exact limits_4m p c l hc which n hw hK hn h w hLaid hS
    · exact limits_4ll p c l hc which n hw hK hn h1 h2 w hLaid hS
    · exact limits_4w p c l hc which n hw hK hn h1 h2 h3 w hLaid hS
    · exact limits_4g p c l hc which n hw hK hn h1 h2 h3 w hLaid hS
  · exact limits_5 p c l hc which n hw hK hn w hLaid hS
end Go.Proofs.YtnonedmkdcbmfaaGreatDoor
