/-
  The examples ahead of each statement of chapter 10: a contract that the proofs call; no statement is proved here.
-/
import Derived.Test.YtfjoobopfjahcaaDoorVuArith
import Derived.Test.YtfjoobopfjahcaaDoorVuCmp
namespace Go.Proofs.YtfjoobopfjahcaaDoor
set_option linter.unusedVariables false
open Go.RowKit

theorem Laid.drew {w : World} (h : Laid w) : Laid w.drew := h.below (Below.refl _ w).drew
theorem ret_true {b : Bool} (h : b = true) : Ending.returned (.bool b) = .returned (.bool true) := by rw [h]
theorem spell_five : spellN (-5) 2 = [45, 48, 46, 48, 53] := by
  have h : Lib.decDigits 5 = [53] := Lib.decDigits_one (by omega)
  unfold spellN padded
  rw [show (-5 : Int).natAbs = 5 from rfl, h]
  rfl
theorem text_five : txtV false (-5) ⟨#[]⟩ 2 2 = (⟨#[45, 48, 46, 48, 53]⟩, true) := by
  have hf : fitV 2 2 true false (-5) ⟨#[]⟩ = true := by decide +kernel
  unfold txtV
  rw [if_neg (by rw [hf]; simp), if_neg (by simp), if_neg (by omega), if_neg (by omega), show (2 : Int).toNat = 2 from rfl, spell_five]

set_option maxRecDepth 100000 in
set_option maxHeartbeats 4000000 in
theorem head_value (w : World) (hL : Laid w) : Calls Tryd.prog 10 #[] w fun e w' => e = .returned (.bool true) ∧ Below w.heap.size w w' := by
  have c1 := fun w => val_scale 5 0 2 (by omega) w
  rw [show scaleV 5 0 2 = (500, 0) by decide +kernel] at c1
  have c2 := fun w hL => val_arith 43 false 1 ⟨#[]⟩ false 150 ⟨#[]⟩ 1 0 2 2 (by omega) (by omega) (by omega) (by omega) (by decide) (by decide) w hL
  rw [show arV 43 false 1 ⟨#[]⟩ false 150 ⟨#[]⟩ 1 0 2 2 = (false, 250, 0) by decide +kernel] at c2
  simp only [arVal] at c2
  have c3 := fun w hL => val_text false (-5) ⟨#[]⟩ 2 2 (by omega) (by decide) w hL
  rw [text_five] at c3
  have c4 := fun w hT => val_and true 0 ⟨#[]⟩ false 0 ⟨#[]⟩ w hT
  rw [show tvU (min (truV true 0) (truV false 0)) = false by decide, show tvN (min (truV true 0) (truV false 0)) = 0 by decide] at c4
  dsimp only at c1 c2 c3
  go_enter Tryd.func10, Tryd.ntmps10
  go_wp2_with (first
    | (go_at_call 13; (with_reducible refine (c1 _).mono ?_); rintro e w1 ⟨rfl, hb1⟩; have hB1 := bt b1 hb1; have L1 := hL.below hB1; obtain ⟨x1, y1⟩ := bcell hb1)
    | (go_at_call 20; (with_reducible refine (c2 _ L1).mono ?_); rintro e w2 ⟨rfl, hb2⟩; have hB2 := bt hB1 hb2; have L2 := hL.below hB2; obtain ⟨x2, y2⟩ := bcell hb2; have g1 : w.heap.size < w1.heap.size := Nat.lt_of_lt_of_le (by simp) hb1.size; have g2 : w.heap.size < w2.heap.size := Nat.lt_of_lt_of_le g1 hb2.size)
    | (go_at_call 27; (with_reducible refine (c3 _ (L2.alloc _)).mono ?_); rintro e w3 ⟨rfl, hb3⟩; have hB3 := bt (bt hB2 b1) hb3; have L3 := hL.below hB3; obtain ⟨x3, y3⟩ := bcell hb3; have g3 : w2.heap.size < w3.heap.size := Nat.lt_of_lt_of_le (by simp) hb3.size)
    | (go_at_call 23; (with_reducible refine (c4 _ L3.tru).mono ?_); rintro e w4 ⟨rfl, hb4⟩; have hB4 := bt hB3 hb4))
  go_ret
  exact ⟨by first | rfl | exact ret_true (by decide), hB4⟩
end Go.Proofs.YtfjoobopfjahcaaDoor
