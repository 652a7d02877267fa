/-
  The examples ahead of each statement: they are true. A contract that the proofs call; no statement is proved here.
-/
import Derived.Test.YtoebkicmjglmcaaLebGet
import Derived.Test.YtoebkicmjglmcaaLebPut
namespace Go.Proofs.Ytoebkicmjglmcaa
open Go.RowKit

theorem putU_ex : putU 624485 = [229, 142, 38] := by
  rw [putU_more (by omega), putU_more (by omega), putU_last (by omega)]; rfl
theorem putS_ex : putS (-123456) = [192, 187, 120] := by
  rw [putS_more (by omega), putS_more (by omega), putS_last (by omega)]; rfl
theorem ans_ex1 : ans .u32 usg 5 [229, 142, 38] 0 = (624485, 3, 0) := by decide +kernel
theorem ans_ex2 : ans .i64 sgn 10 [192, 187, 120] 0 = (-123456, 3, 0) := by decide +kernel
theorem ans_ex3 : ans .u32 usg 5 [128] 0 = (0, 0, 2) := by decide +kernel

set_option maxRecDepth 100000 in
set_option maxHeartbeats 1000000 in
theorem head_true (w : World) : Calls Try.prog 11 #[] w fun e w' => e = .returned (.bool true) ∧ Below w.heap.size w w' := by
  have c1 := get_u32 ⟨#[229, 142, 38]⟩ 0 (by decide) w
  have c2 := get_i64 ⟨#[192, 187, 120]⟩ 0 (by decide) w
  have c3 := get_u32 ⟨#[128]⟩ 0 (by decide) w
  rw [show (ByteArray.mk #[229, 142, 38]).data.toList = [229, 142, 38] from rfl, ans_ex1] at c1
  rw [show (ByteArray.mk #[192, 187, 120]).data.toList = [192, 187, 120] from rfl, ans_ex2] at c2
  rw [show (ByteArray.mk #[128]).data.toList = [128] from rfl, ans_ex3] at c3
  have d1 := fun w => put_u 624485 (by omega) (by omega) w
  have d2 := fun w => put_s (-123456) (by omega) (by omega) w
  simp only [putU_ex] at d1
  simp only [putS_ex] at d2
  go_enter Try.func11, Try.ntmps11
  go_wp2_with (first
    | (go_at_call 16; (with_reducible refine c1.mono ?_); rintro e w' ⟨rfl, rfl⟩)
    | (go_at_call 16; (with_reducible refine c3.mono ?_); rintro e w' ⟨rfl, rfl⟩)
    | (go_at_call 22; (with_reducible refine c2.mono ?_); rintro e w' ⟨rfl, rfl⟩)
    | (go_at_call 12; (with_reducible refine (d1 _).mono ?_); rintro e w1 ⟨rfl, hb1⟩)
    | (go_at_call 14; (with_reducible refine (d2 _).mono ?_); rintro e w2 ⟨rfl, hb2⟩))
  go_ret
  exact ⟨rfl, hb1.trans (hb2.mono hb1.size)⟩
end Go.Proofs.Ytoebkicmjglmcaa
