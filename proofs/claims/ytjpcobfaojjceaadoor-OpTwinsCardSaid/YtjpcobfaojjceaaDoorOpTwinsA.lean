/-
  OpTwins, walked: what there is of 32 bits there is of 64, with the same name behind the type: tests answer an i32, all others their type.
-/
import Derived.Test.YtjpcobfaojjceaaDoorOpHead
import Derived.Deep.QuietTactic
import Derived.BigQuiet
namespace Go.Proofs.YtjpcobfaojjceaaDoor
open Go.RowKit
set_option linter.unusedVariables false

set_option maxRecDepth 100000 in
set_option maxHeartbeats 4000000 in
theorem twins_0 (m : Int) (h0 : 0 ≤ m) (h1 : m ≤ 255) (hm : m % 29 = 0) (w : World) (hLaid : Laid w) :
    Calls Tryd.prog 6 #[.int .u8 m] w fun e w' => e = .returned (.bool true) ∧ Below w.heap.size w w' := by
  have e1 : byCode 69 = some ⟨69, ⟨#[105, 51, 50, 46, 101, 113, 122]⟩, 0, ⟨#[127]⟩, ⟨#[127]⟩⟩ := by rfl
  have e2 : byCode 80 = some ⟨80, ⟨#[105, 54, 52, 46, 101, 113, 122]⟩, 0, ⟨#[126]⟩, ⟨#[127]⟩⟩ := by rfl
  have c1 := op_of_is 69 (n := ⟨#[105, 51, 50, 46, 101, 113, 122]⟩) (s := 0) (p := ⟨#[127]⟩) (r := ⟨#[127]⟩) (ok := true) (by omega) (by rw [e1]; rfl) (by rw [e1]; rfl)
  have c2 := op_of_is 80 (n := ⟨#[105, 54, 52, 46, 101, 113, 122]⟩) (s := 0) (p := ⟨#[126]⟩) (r := ⟨#[127]⟩) (ok := true) (by omega) (by rw [e2]; rfl) (by rw [e2]; rfl)
  have f1 : (⟨#[105, 51, 50, 46, 101, 113, 122]⟩ : ByteArray).extract 4 7 = ⟨#[101, 113, 122]⟩ := by rfl
  have f2 : (⟨#[105, 54, 52, 46, 101, 113, 122]⟩ : ByteArray).extract 4 7 = ⟨#[101, 113, 122]⟩ := by rfl
  have f3 : (⟨#[105, 51, 50, 46, 101, 113, 122]⟩ : ByteArray).extract 0 4 = ⟨#[105, 51, 50, 46]⟩ := by rfl
  have f4 : (⟨#[105, 54, 52, 46, 101, 113, 122]⟩ : ByteArray).extract 0 4 = ⟨#[105, 54, 52, 46]⟩ := by rfl
  clear e1 e2
  have hB := Below.refl w.heap.size w
  go_enter Tryd.func6, Tryd.ntmps6
  go_wp2_with (first
    | (go_at_call 8; (with_reducible refine (head_op _ hLaid).mono ?_); rintro e w0 ⟨rfl, hb⟩; replace hB := bt hB hb; clear hb)
    | (go_at_call 9; (with_reducible refine (c1 _ ?_).mono ?_); (first | (with_reducible exact hLaid.below hB) | (with_reducible exact (hLaid.below hB).alloc _) | (with_reducible exact ((hLaid.below hB).alloc _).alloc _)); rintro e w1 ⟨rfl, hb⟩; replace hB := bt hB hb; clear hb)
    | (go_at_call 9; (with_reducible refine (c2 _ ?_).mono ?_); (first | (with_reducible exact hLaid.below hB) | (with_reducible exact (hLaid.below hB).alloc _) | (with_reducible exact ((hLaid.below hB).alloc _).alloc _)); rintro e w2 ⟨rfl, hb⟩; have ⟨_, r0, r1, r2, r3⟩ := (At4.new _ _ _ _ _ _).below hb; replace hB := bta hB hb; clear hb))
  go_quiet (fail)
  go_wp2
  go_ret
  exact ⟨by first | rfl | exact ret_true (by decide), (hB.alloc hB.size _).trans ⟨rfl, rfl, rfl, Nat.le_refl _, fun _ _ => rfl⟩⟩

set_option maxRecDepth 100000 in
set_option maxHeartbeats 4000000 in
theorem twins_1 (m : Int) (h0 : 0 ≤ m) (h1 : m ≤ 255) (hm : m % 29 = 1) (w : World) (hLaid : Laid w) :
    Calls Tryd.prog 6 #[.int .u8 m] w fun e w' => e = .returned (.bool true) ∧ Below w.heap.size w w' := by
  have e1 : byCode 70 = some ⟨70, ⟨#[105, 51, 50, 46, 101, 113]⟩, 0, ⟨#[127, 127]⟩, ⟨#[127]⟩⟩ := by rfl
  have e2 : byCode 81 = some ⟨81, ⟨#[105, 54, 52, 46, 101, 113]⟩, 0, ⟨#[126, 126]⟩, ⟨#[127]⟩⟩ := by rfl
  have c1 := op_of_is 70 (n := ⟨#[105, 51, 50, 46, 101, 113]⟩) (s := 0) (p := ⟨#[127, 127]⟩) (r := ⟨#[127]⟩) (ok := true) (by omega) (by rw [e1]; rfl) (by rw [e1]; rfl)
  have c2 := op_of_is 81 (n := ⟨#[105, 54, 52, 46, 101, 113]⟩) (s := 0) (p := ⟨#[126, 126]⟩) (r := ⟨#[127]⟩) (ok := true) (by omega) (by rw [e2]; rfl) (by rw [e2]; rfl)
  have f1 : (⟨#[105, 51, 50, 46, 101, 113]⟩ : ByteArray).extract 4 6 = ⟨#[101, 113]⟩ := by rfl
  have f2 : (⟨#[105, 54, 52, 46, 101, 113]⟩ : ByteArray).extract 4 6 = ⟨#[101, 113]⟩ := by rfl
  have f3 : (⟨#[105, 51, 50, 46, 101, 113]⟩ : ByteArray).extract 0 4 = ⟨#[105, 51, 50, 46]⟩ := by rfl
  have f4 : (⟨#[105, 54, 52, 46, 101, 113]⟩ : ByteArray).extract 0 4 = ⟨#[105, 54, 52, 46]⟩ := by rfl
  clear e1 e2
  have hB := Below.refl w.heap.size w
  go_enter Tryd.func6, Tryd.ntmps6
  go_wp2_with (first
    | (go_at_call 8; (with_reducible refine (head_op _ hLaid).mono ?_); rintro e w0 ⟨rfl, hb⟩; replace hB := bt hB hb; clear hb)
    | (go_at_call 9; (with_reducible refine (c1 _ ?_).mono ?_); (first | (with_reducible exact hLaid.below hB) | (with_reducible exact (hLaid.below hB).alloc _) | (with_reducible exact ((hLaid.below hB).alloc _).alloc _)); rintro e w1 ⟨rfl, hb⟩; replace hB := bt hB hb; clear hb)
    | (go_at_call 9; (with_reducible refine (c2 _ ?_).mono ?_); (first | (with_reducible exact hLaid.below hB) | (with_reducible exact (hLaid.below hB).alloc _) | (with_reducible exact ((hLaid.below hB).alloc _).alloc _)); rintro e w2 ⟨rfl, hb⟩; have ⟨_, r0, r1, r2, r3⟩ := (At4.new _ _ _ _ _ _).below hb; replace hB := bta hB hb; clear hb))
  go_quiet (fail)
  go_wp2
  go_ret
  exact ⟨by first | rfl | exact ret_true (by decide), (hB.alloc hB.size _).trans ⟨rfl, rfl, rfl, Nat.le_refl _, fun _ _ => rfl⟩⟩

set_option maxRecDepth 100000 in
set_option maxHeartbeats 4000000 in
theorem twins_2 (m : Int) (h0 : 0 ≤ m) (h1 : m ≤ 255) (hm : m % 29 = 2) (w : World) (hLaid : Laid w) :
    Calls Tryd.prog 6 #[.int .u8 m] w fun e w' => e = .returned (.bool true) ∧ Below w.heap.size w w' := by
  have e1 : byCode 71 = some ⟨71, ⟨#[105, 51, 50, 46, 110, 101]⟩, 0, ⟨#[127, 127]⟩, ⟨#[127]⟩⟩ := by rfl
  have e2 : byCode 82 = some ⟨82, ⟨#[105, 54, 52, 46, 110, 101]⟩, 0, ⟨#[126, 126]⟩, ⟨#[127]⟩⟩ := by rfl
  have c1 := op_of_is 71 (n := ⟨#[105, 51, 50, 46, 110, 101]⟩) (s := 0) (p := ⟨#[127, 127]⟩) (r := ⟨#[127]⟩) (ok := true) (by omega) (by rw [e1]; rfl) (by rw [e1]; rfl)
  have c2 := op_of_is 82 (n := ⟨#[105, 54, 52, 46, 110, 101]⟩) (s := 0) (p := ⟨#[126, 126]⟩) (r := ⟨#[127]⟩) (ok := true) (by omega) (by rw [e2]; rfl) (by rw [e2]; rfl)
  have f1 : (⟨#[105, 51, 50, 46, 110, 101]⟩ : ByteArray).extract 4 6 = ⟨#[110, 101]⟩ := by rfl
  have f2 : (⟨#[105, 54, 52, 46, 110, 101]⟩ : ByteArray).extract 4 6 = ⟨#[110, 101]⟩ := by rfl
  have f3 : (⟨#[105, 51, 50, 46, 110, 101]⟩ : ByteArray).extract 0 4 = ⟨#[105, 51, 50, 46]⟩ := by rfl
  have f4 : (⟨#[105, 54, 52, 46, 110, 101]⟩ : ByteArray).extract 0 4 = ⟨#[105, 54, 52, 46]⟩ := by rfl
  clear e1 e2
  have hB := Below.refl w.heap.size w
  go_enter Tryd.func6, Tryd.ntmps6
  go_wp2_with (first
    | (go_at_call 8; (with_reducible refine (head_op _ hLaid).mono ?_); rintro e w0 ⟨rfl, hb⟩; replace hB := bt hB hb; clear hb)
    | (go_at_call 9; (with_reducible refine (c1 _ ?_).mono ?_); (first | (with_reducible exact hLaid.below hB) | (with_reducible exact (hLaid.below hB).alloc _) | (with_reducible exact ((hLaid.below hB).alloc _).alloc _)); rintro e w1 ⟨rfl, hb⟩; replace hB := bt hB hb; clear hb)
    | (go_at_call 9; (with_reducible refine (c2 _ ?_).mono ?_); (first | (with_reducible exact hLaid.below hB) | (with_reducible exact (hLaid.below hB).alloc _) | (with_reducible exact ((hLaid.below hB).alloc _).alloc _)); rintro e w2 ⟨rfl, hb⟩; have ⟨_, r0, r1, r2, r3⟩ := (At4.new _ _ _ _ _ _).below hb; replace hB := bta hB hb; clear hb))
  go_quiet (fail)
  go_wp2
  go_ret
  exact ⟨by first | rfl | exact ret_true (by decide), (hB.alloc hB.size _).trans ⟨rfl, rfl, rfl, Nat.le_refl _, fun _ _ => rfl⟩⟩

set_option maxRecDepth 100000 in
set_option maxHeartbeats 4000000 in
theorem twins_3 (m : Int) (h0 : 0 ≤ m) (h1 : m ≤ 255) (hm : m % 29 = 3) (w : World) (hLaid : Laid w) :
    Calls Tryd.prog 6 #[.int .u8 m] w fun e w' => e = .returned (.bool true) ∧ Below w.heap.size w w' := by
  have e1 : byCode 72 = some ⟨72, ⟨#[105, 51, 50, 46, 108, 116, 95, 115]⟩, 0, ⟨#[127, 127]⟩, ⟨#[127]⟩⟩ := by rfl
  have e2 : byCode 83 = some ⟨83, ⟨#[105, 54, 52, 46, 108, 116, 95, 115]⟩, 0, ⟨#[126, 126]⟩, ⟨#[127]⟩⟩ := by rfl
  have c1 := op_of_is 72 (n := ⟨#[105, 51, 50, 46, 108, 116, 95, 115]⟩) (s := 0) (p := ⟨#[127, 127]⟩) (r := ⟨#[127]⟩) (ok := true) (by omega) (by rw [e1]; rfl) (by rw [e1]; rfl)
  have c2 := op_of_is 83 (n := ⟨#[105, 54, 52, 46, 108, 116, 95, 115]⟩) (s := 0) (p := ⟨#[126, 126]⟩) (r := ⟨#[127]⟩) (ok := true) (by omega) (by rw [e2]; rfl) (by rw [e2]; rfl)
  have f1 : (⟨#[105, 51, 50, 46, 108, 116, 95, 115]⟩ : ByteArray).extract 4 8 = ⟨#[108, 116, 95, 115]⟩ := by rfl
  have f2 : (⟨#[105, 54, 52, 46, 108, 116, 95, 115]⟩ : ByteArray).extract 4 8 = ⟨#[108, 116, 95, 115]⟩ := by rfl
  have f3 : (⟨#[105, 51, 50, 46, 108, 116, 95, 115]⟩ : ByteArray).extract 0 4 = ⟨#[105, 51, 50, 46]⟩ := by rfl
  have f4 : (⟨#[105, 54, 52, 46, 108, 116, 95, 115]⟩ : ByteArray).extract 0 4 = ⟨#[105, 54, 52, 46]⟩ := by rfl
  clear e1 e2
  have hB := Below.refl w.heap.size w
  go_enter Tryd.func6, Tryd.ntmps6
  go_wp2_with (first
    | (go_at_call 8; (with_reducible refine (head_op _ hLaid).mono ?_); rintro e w0 ⟨rfl, hb⟩; replace hB := bt hB hb; clear hb)
    | (go_at_call 9; (with_reducible refine (c1 _ ?_).mono ?_); (first | (with_reducible exact hLaid.below hB) | (with_reducible exact (hLaid.below hB).alloc _) | (with_reducible exact ((hLaid.below hB).alloc _).alloc _)); rintro e w1 ⟨rfl, hb⟩; replace hB := bt hB hb; clear hb)
    | (go_at_call 9; (with_reducible refine (c2 _ ?_).mono ?_); (first | (with_reducible exact hLaid.below hB) | (with_reducible exact (hLaid.below hB).alloc _) | (with_reducible exact ((hLaid.below hB).alloc _).alloc _)); rintro e w2 ⟨rfl, hb⟩; have ⟨_, r0, r1, r2, r3⟩ := (At4.new _ _ _ _ _ _).below hb; replace hB := bta hB hb; clear hb))
  go_quiet (fail)
  go_wp2
  go_ret
  exact ⟨by first | rfl | exact ret_true (by decide), (hB.alloc hB.size _).trans ⟨rfl, rfl, rfl, Nat.le_refl _, fun _ _ => rfl⟩⟩

set_option maxRecDepth 100000 in
set_option maxHeartbeats 4000000 in
theorem twins_4 (m : Int) (h0 : 0 ≤ m) (h1 : m ≤ 255) (hm : m % 29 = 4) (w : World) (hLaid : Laid w) :
    Calls Tryd.prog 6 #[.int .u8 m] w fun e w' => e = .returned (.bool true) ∧ Below w.heap.size w w' := by
  have e1 : byCode 73 = some ⟨73, ⟨#[105, 51, 50, 46, 108, 116, 95, 117]⟩, 0, ⟨#[127, 127]⟩, ⟨#[127]⟩⟩ := by rfl
  have e2 : byCode 84 = some ⟨84, ⟨#[105, 54, 52, 46, 108, 116, 95, 117]⟩, 0, ⟨#[126, 126]⟩, ⟨#[127]⟩⟩ := by rfl
  have c1 := op_of_is 73 (n := ⟨#[105, 51, 50, 46, 108, 116, 95, 117]⟩) (s := 0) (p := ⟨#[127, 127]⟩) (r := ⟨#[127]⟩) (ok := true) (by omega) (by rw [e1]; rfl) (by rw [e1]; rfl)
  have c2 := op_of_is 84 (n := ⟨#[105, 54, 52, 46, 108, 116, 95, 117]⟩) (s := 0) (p := ⟨#[126, 126]⟩) (r := ⟨#[127]⟩) (ok := true) (by omega) (by rw [e2]; rfl) (by rw [e2]; rfl)
  have f1 : (⟨#[105, 51, 50, 46, 108, 116, 95, 117]⟩ : ByteArray).extract 4 8 = ⟨#[108, 116, 95, 117]⟩ := by rfl
  have f2 : (⟨#[105, 54, 52, 46, 108, 116, 95, 117]⟩ : ByteArray).extract 4 8 = ⟨#[108, 116, 95, 117]⟩ := by rfl
  have f3 : (⟨#[105, 51, 50, 46, 108, 116, 95, 117]⟩ : ByteArray).extract 0 4 = ⟨#[105, 51, 50, 46]⟩ := by rfl
  have f4 : (⟨#[105, 54, 52, 46, 108, 116, 95, 117]⟩ : ByteArray).extract 0 4 = ⟨#[105, 54, 52, 46]⟩ := by rfl
  clear e1 e2
  have hB := Below.refl w.heap.size w
  go_enter Tryd.func6, Tryd.ntmps6
  go_wp2_with (first
    | (go_at_call 8; (with_reducible refine (head_op _ hLaid).mono ?_); rintro e w0 ⟨rfl, hb⟩; replace hB := bt hB hb; clear hb)
    | (go_at_call 9; (with_reducible refine (c1 _ ?_).mono ?_); (first | (with_reducible exact hLaid.below hB) | (with_reducible exact (hLaid.below hB).alloc _) | (with_reducible exact ((hLaid.below hB).alloc _).alloc _)); rintro e w1 ⟨rfl, hb⟩; replace hB := bt hB hb; clear hb)
    | (go_at_call 9; (with_reducible refine (c2 _ ?_).mono ?_); (first | (with_reducible exact hLaid.below hB) | (with_reducible exact (hLaid.below hB).alloc _) | (with_reducible exact ((hLaid.below hB).alloc _).alloc _)); rintro e w2 ⟨rfl, hb⟩; have ⟨_, r0, r1, r2, r3⟩ := (At4.new _ _ _ _ _ _).below hb; replace hB := bta hB hb; clear hb))
  go_quiet (fail)
  go_wp2
  go_ret
  exact ⟨by first | rfl | exact ret_true (by decide), (hB.alloc hB.size _).trans ⟨rfl, rfl, rfl, Nat.le_refl _, fun _ _ => rfl⟩⟩

set_option maxRecDepth 100000 in
set_option maxHeartbeats 4000000 in
theorem twins_5 (m : Int) (h0 : 0 ≤ m) (h1 : m ≤ 255) (hm : m % 29 = 5) (w : World) (hLaid : Laid w) :
    Calls Tryd.prog 6 #[.int .u8 m] w fun e w' => e = .returned (.bool true) ∧ Below w.heap.size w w' := by
  have e1 : byCode 74 = some ⟨74, ⟨#[105, 51, 50, 46, 103, 116, 95, 115]⟩, 0, ⟨#[127, 127]⟩, ⟨#[127]⟩⟩ := by rfl
  have e2 : byCode 85 = some ⟨85, ⟨#[105, 54, 52, 46, 103, 116, 95, 115]⟩, 0, ⟨#[126, 126]⟩, ⟨#[127]⟩⟩ := by rfl
  have c1 := op_of_is 74 (n := ⟨#[105, 51, 50, 46, 103, 116, 95, 115]⟩) (s := 0) (p := ⟨#[127, 127]⟩) (r := ⟨#[127]⟩) (ok := true) (by omega) (by rw [e1]; rfl) (by rw [e1]; rfl)
  have c2 := op_of_is 85 (n := ⟨#[105, 54, 52, 46, 103, 116, 95, 115]⟩) (s := 0) (p := ⟨#[126, 126]⟩) (r := ⟨#[127]⟩) (ok := true) (by omega) (by rw [e2]; rfl) (by rw [e2]; rfl)
  have f1 : (⟨#[105, 51, 50, 46, 103, 116, 95, 115]⟩ : ByteArray).extract 4 8 = ⟨#[103, 116, 95, 115]⟩ := by rfl
  have f2 : (⟨#[105, 54, 52, 46, 103, 116, 95, 115]⟩ : ByteArray).extract 4 8 = ⟨#[103, 116, 95, 115]⟩ := by rfl
  have f3 : (⟨#[105, 51, 50, 46, 103, 116, 95, 115]⟩ : ByteArray).extract 0 4 = ⟨#[105, 51, 50, 46]⟩ := by rfl
  have f4 : (⟨#[105, 54, 52, 46, 103, 116, 95, 115]⟩ : ByteArray).extract 0 4 = ⟨#[105, 54, 52, 46]⟩ := by rfl
  clear e1 e2
  have hB := Below.refl w.heap.size w
  go_enter Tryd.func6, Tryd.ntmps6
  go_wp2_with (first
    | (go_at_call 8; (with_reducible refine (head_op _ hLaid).mono ?_); rintro e w0 ⟨rfl, hb⟩; replace hB := bt hB hb; clear hb)
    | (go_at_call 9; (with_reducible refine (c1 _ ?_).mono ?_); (first | (with_reducible exact hLaid.below hB) | (with_reducible exact (hLaid.below hB).alloc _) | (with_reducible exact ((hLaid.below hB).alloc _).alloc _)); rintro e w1 ⟨rfl, hb⟩; replace hB := bt hB hb; clear hb)
    | (go_at_call 9; (with_reducible refine (c2 _ ?_).mono ?_); (first | (with_reducible exact hLaid.below hB) | (with_reducible exact (hLaid.below hB).alloc _) | (with_reducible exact ((hLaid.below hB).alloc _).alloc _)); rintro e w2 ⟨rfl, hb⟩; have ⟨_, r0, r1, r2, r3⟩ := (At4.new _ _ _ _ _ _).below hb; replace hB := bta hB hb; clear hb))
  go_quiet (fail)
  go_wp2
  go_ret
  exact ⟨by first | rfl | exact ret_true (by decide), (hB.alloc hB.size _).trans ⟨rfl, rfl, rfl, Nat.le_refl _, fun _ _ => rfl⟩⟩

set_option maxRecDepth 100000 in
set_option maxHeartbeats 4000000 in
theorem twins_6 (m : Int) (h0 : 0 ≤ m) (h1 : m ≤ 255) (hm : m % 29 = 6) (w : World) (hLaid : Laid w) :
    Calls Tryd.prog 6 #[.int .u8 m] w fun e w' => e = .returned (.bool true) ∧ Below w.heap.size w w' := by
  have e1 : byCode 75 = some ⟨75, ⟨#[105, 51, 50, 46, 103, 116, 95, 117]⟩, 0, ⟨#[127, 127]⟩, ⟨#[127]⟩⟩ := by rfl
  have e2 : byCode 86 = some ⟨86, ⟨#[105, 54, 52, 46, 103, 116, 95, 117]⟩, 0, ⟨#[126, 126]⟩, ⟨#[127]⟩⟩ := by rfl
  have c1 := op_of_is 75 (n := ⟨#[105, 51, 50, 46, 103, 116, 95, 117]⟩) (s := 0) (p := ⟨#[127, 127]⟩) (r := ⟨#[127]⟩) (ok := true) (by omega) (by rw [e1]; rfl) (by rw [e1]; rfl)
  have c2 := op_of_is 86 (n := ⟨#[105, 54, 52, 46, 103, 116, 95, 117]⟩) (s := 0) (p := ⟨#[126, 126]⟩) (r := ⟨#[127]⟩) (ok := true) (by omega) (by rw [e2]; rfl) (by rw [e2]; rfl)
  have f1 : (⟨#[105, 51, 50, 46, 103, 116, 95, 117]⟩ : ByteArray).extract 4 8 = ⟨#[103, 116, 95, 117]⟩ := by rfl
  have f2 : (⟨#[105, 54, 52, 46, 103, 116, 95, 117]⟩ : ByteArray).extract 4 8 = ⟨#[103, 116, 95, 117]⟩ := by rfl
  have f3 : (⟨#[105, 51, 50, 46, 103, 116, 95, 117]⟩ : ByteArray).extract 0 4 = ⟨#[105, 51, 50, 46]⟩ := by rfl
  have f4 : (⟨#[105, 54, 52, 46, 103, 116, 95, 117]⟩ : ByteArray).extract 0 4 = ⟨#[105, 54, 52, 46]⟩ := by rfl
  clear e1 e2
  have hB := Below.refl w.heap.size w
  go_enter Tryd.func6, Tryd.ntmps6
  go_wp2_with (first
    | (go_at_call 8; (with_reducible refine (head_op _ hLaid).mono ?_); rintro e w0 ⟨rfl, hb⟩; replace hB := bt hB hb; clear hb)
    | (go_at_call 9; (with_reducible refine (c1 _ ?_).mono ?_); (first | (with_reducible exact hLaid.below hB) | (with_reducible exact (hLaid.below hB).alloc _) | (with_reducible exact ((hLaid.below hB).alloc _).alloc _)); rintro e w1 ⟨rfl, hb⟩; replace hB := bt hB hb; clear hb)
    | (go_at_call 9; (with_reducible refine (c2 _ ?_).mono ?_); (first | (with_reducible exact hLaid.below hB) | (with_reducible exact (hLaid.below hB).alloc _) | (with_reducible exact ((hLaid.below hB).alloc _).alloc _)); rintro e w2 ⟨rfl, hb⟩; have ⟨_, r0, r1, r2, r3⟩ := (At4.new _ _ _ _ _ _).below hb; replace hB := bta hB hb; clear hb))
  go_quiet (fail)
  go_wp2
  go_ret
  exact ⟨by first | rfl | exact ret_true (by decide), (hB.alloc hB.size _).trans ⟨rfl, rfl, rfl, Nat.le_refl _, fun _ _ => rfl⟩⟩

set_option maxRecDepth 100000 in
set_option maxHeartbeats 4000000 in
theorem twins_7 (m : Int) (h0 : 0 ≤ m) (h1 : m ≤ 255) (hm : m % 29 = 7) (w : World) (hLaid : Laid w) :
    Calls Tryd.prog 6 #[.int .u8 m] w fun e w' => e = .returned (.bool true) ∧ Below w.heap.size w w' := by
  have e1 : byCode 76 = some ⟨76, ⟨#[105, 51, 50, 46, 108, 101, 95, 115]⟩, 0, ⟨#[127, 127]⟩, ⟨#[127]⟩⟩ := by rfl
  have e2 : byCode 87 = some ⟨87, ⟨#[105, 54, 52, 46, 108, 101, 95, 115]⟩, 0, ⟨#[126, 126]⟩, ⟨#[127]⟩⟩ := by rfl
  have c1 := op_of_is 76 (n := ⟨#[105, 51, 50, 46, 108, 101, 95, 115]⟩) (s := 0) (p := ⟨#[127, 127]⟩) (r := ⟨#[127]⟩) (ok := true) (by omega) (by rw [e1]; rfl) (by rw [e1]; rfl)
  have c2 := op_of_is 87 (n := ⟨#[105, 54, 52, 46, 108, 101, 95, 115]⟩) (s := 0) (p := ⟨#[126, 126]⟩) (r := ⟨#[127]⟩) (ok := true) (by omega) (by rw [e2]; rfl) (by rw [e2]; rfl)
  have f1 : (⟨#[105, 51, 50, 46, 108, 101, 95, 115]⟩ : ByteArray).extract 4 8 = ⟨#[108, 101, 95, 115]⟩ := by rfl
  have f2 : (⟨#[105, 54, 52, 46, 108, 101, 95, 115]⟩ : ByteArray).extract 4 8 = ⟨#[108, 101, 95, 115]⟩ := by rfl
  have f3 : (⟨#[105, 51, 50, 46, 108, 101, 95, 115]⟩ : ByteArray).extract 0 4 = ⟨#[105, 51, 50, 46]⟩ := by rfl
  have f4 : (⟨#[105, 54, 52, 46, 108, 101, 95, 115]⟩ : ByteArray).extract 0 4 = ⟨#[105, 54, 52, 46]⟩ := by rfl
  clear e1 e2
  have hB := Below.refl w.heap.size w
  go_enter Tryd.func6, Tryd.ntmps6
  go_wp2_with (first
    | (go_at_call 8; (with_reducible refine (head_op _ hLaid).mono ?_); rintro e w0 ⟨rfl, hb⟩; replace hB := bt hB hb; clear hb)
    | (go_at_call 9; (with_reducible refine (c1 _ ?_).mono ?_); (first | (with_reducible exact hLaid.below hB) | (with_reducible exact (hLaid.below hB).alloc _) | (with_reducible exact ((hLaid.below hB).alloc _).alloc _)); rintro e w1 ⟨rfl, hb⟩; replace hB := bt hB hb; clear hb)
    | (go_at_call 9; (with_reducible refine (c2 _ ?_).mono ?_); (first | (with_reducible exact hLaid.below hB) | (with_reducible exact (hLaid.below hB).alloc _) | (with_reducible exact ((hLaid.below hB).alloc _).alloc _)); rintro e w2 ⟨rfl, hb⟩; have ⟨_, r0, r1, r2, r3⟩ := (At4.new _ _ _ _ _ _).below hb; replace hB := bta hB hb; clear hb))
  go_quiet (fail)
  go_wp2
  go_ret
  exact ⟨by first | rfl | exact ret_true (by decide), (hB.alloc hB.size _).trans ⟨rfl, rfl, rfl, Nat.le_refl _, fun _ _ => rfl⟩⟩

set_option maxRecDepth 100000 in
set_option maxHeartbeats 4000000 in
theorem twins_8 (m : Int) (h0 : 0 ≤ m) (h1 : m ≤ 255) (hm : m % 29 = 8) (w : World) (hLaid : Laid w) :
    Calls Tryd.prog 6 #[.int .u8 m] w fun e w' => e = .returned (.bool true) ∧ Below w.heap.size w w' := by
  have e1 : byCode 77 = some ⟨77, ⟨#[105, 51, 50, 46, 108, 101, 95, 117]⟩, 0, ⟨#[127, 127]⟩, ⟨#[127]⟩⟩ := by rfl
  have e2 : byCode 88 = some ⟨88, ⟨#[105, 54, 52, 46, 108, 101, 95, 117]⟩, 0, ⟨#[126, 126]⟩, ⟨#[127]⟩⟩ := by rfl
  have c1 := op_of_is 77 (n := ⟨#[105, 51, 50, 46, 108, 101, 95, 117]⟩) (s := 0) (p := ⟨#[127, 127]⟩) (r := ⟨#[127]⟩) (ok := true) (by omega) (by rw [e1]; rfl) (by rw [e1]; rfl)
  have c2 := op_of_is 88 (n := ⟨#[105, 54, 52, 46, 108, 101, 95, 117]⟩) (s := 0) (p := ⟨#[126, 126]⟩) (r := ⟨#[127]⟩) (ok := true) (by omega) (by rw [e2]; rfl) (by rw [e2]; rfl)
  have f1 : (⟨#[105, 51, 50, 46, 108, 101, 95, 117]⟩ : ByteArray).extract 4 8 = ⟨#[108, 101, 95, 117]⟩ := by rfl
  have f2 : (⟨#[105, 54, 52, 46, 108, 101, 95, 117]⟩ : ByteArray).extract 4 8 = ⟨#[108, 101, 95, 117]⟩ := by rfl
  have f3 : (⟨#[105, 51, 50, 46, 108, 101, 95, 117]⟩ : ByteArray).extract 0 4 = ⟨#[105, 51, 50, 46]⟩ := by rfl
  have f4 : (⟨#[105, 54, 52, 46, 108, 101, 95, 117]⟩ : ByteArray).extract 0 4 = ⟨#[105, 54, 52, 46]⟩ := by rfl
  clear e1 e2
  have hB := Below.refl w.heap.size w
  go_enter Tryd.func6, Tryd.ntmps6
  go_wp2_with (first
    | (go_at_call 8; (with_reducible refine (head_op _ hLaid).mono ?_); rintro e w0 ⟨rfl, hb⟩; replace hB := bt hB hb; clear hb)
    | (go_at_call 9; (with_reducible refine (c1 _ ?_).mono ?_); (first | (with_reducible exact hLaid.below hB) | (with_reducible exact (hLaid.below hB).alloc _) | (with_reducible exact ((hLaid.below hB).alloc _).alloc _)); rintro e w1 ⟨rfl, hb⟩; replace hB := bt hB hb; clear hb)
    | (go_at_call 9; (with_reducible refine (c2 _ ?_).mono ?_); (first | (with_reducible exact hLaid.below hB) | (with_reducible exact (hLaid.below hB).alloc _) | (with_reducible exact ((hLaid.below hB).alloc _).alloc _)); rintro e w2 ⟨rfl, hb⟩; have ⟨_, r0, r1, r2, r3⟩ := (At4.new _ _ _ _ _ _).below hb; replace hB := bta hB hb; clear hb))
  go_quiet (fail)
  go_wp2
  go_ret
  exact ⟨by first | rfl | exact ret_true (by decide), (hB.alloc hB.size _).trans ⟨rfl, rfl, rfl, Nat.le_refl _, fun _ _ => rfl⟩⟩

set_option maxRecDepth 100000 in
set_option maxHeartbeats 4000000 in
theorem twins_9 (m : Int) (h0 : 0 ≤ m) (h1 : m ≤ 255) (hm : m % 29 = 9) (w : World) (hLaid : Laid w) :
    Calls Tryd.prog 6 #[.int .u8 m] w fun e w' => e = .returned (.bool true) ∧ Below w.heap.size w w' := by
  have e1 : byCode 78 = some ⟨78, ⟨#[105, 51, 50, 46, 103, 101, 95, 115]⟩, 0, ⟨#[127, 127]⟩, ⟨#[127]⟩⟩ := by rfl
  have e2 : byCode 89 = some ⟨89, ⟨#[105, 54, 52, 46, 103, 101, 95, 115]⟩, 0, ⟨#[126, 126]⟩, ⟨#[127]⟩⟩ := by rfl
  have c1 := op_of_is 78 (n := ⟨#[105, 51, 50, 46, 103, 101, 95, 115]⟩) (s := 0) (p := ⟨#[127, 127]⟩) (r := ⟨#[127]⟩) (ok := true) (by omega) (by rw [e1]; rfl) (by rw [e1]; rfl)
  have c2 := op_of_is 89 (n := ⟨#[105, 54, 52, 46, 103, 101, 95, 115]⟩) (s := 0) (p := ⟨#[126, 126]⟩) (r := ⟨#[127]⟩) (ok := true) (by omega) (by rw [e2]; rfl) (by rw [e2]; rfl)
  have f1 : (⟨#[105, 51, 50, 46, 103, 101, 95, 115]⟩ : ByteArray).extract 4 8 = ⟨#[103, 101, 95, 115]⟩ := by rfl
  have f2 : (⟨#[105, 54, 52, 46, 103, 101, 95, 115]⟩ : ByteArray).extract 4 8 = ⟨#[103, 101, 95, 115]⟩ := by rfl
  have f3 : (⟨#[105, 51, 50, 46, 103, 101, 95, 115]⟩ : ByteArray).extract 0 4 = ⟨#[105, 51, 50, 46]⟩ := by rfl
  have f4 : (⟨#[105, 54, 52, 46, 103, 101, 95, 115]⟩ : ByteArray).extract 0 4 = ⟨#[105, 54, 52, 46]⟩ := by rfl
  clear e1 e2
  have hB := Below.refl w.heap.size w
  go_enter Tryd.func6, Tryd.ntmps6
  go_wp2_with (first
    | (go_at_call 8; (with_reducible refine (head_op _ hLaid).mono ?_); rintro e w0 ⟨rfl, hb⟩; replace hB := bt hB hb; clear hb)
    | (go_at_call 9; (with_reducible refine (c1 _ ?_).mono ?_); (first | (with_reducible exact hLaid.below hB) | (with_reducible exact (hLaid.below hB).alloc _) | (with_reducible exact ((hLaid.below hB).alloc _).alloc _)); rintro e w1 ⟨rfl, hb⟩; replace hB := bt hB hb; clear hb)
    | (go_at_call 9; (with_reducible refine (c2 _ ?_).mono ?_); (first | (with_reducible exact hLaid.below hB) | (with_reducible exact (hLaid.below hB).alloc _) | (with_reducible exact ((hLaid.below hB).alloc _).alloc _)); rintro e w2 ⟨rfl, hb⟩; have ⟨_, r0, r1, r2, r3⟩ := (At4.new _ _ _ _ _ _).below hb; replace hB := bta hB hb; clear hb))
  go_quiet (fail)
  go_wp2
  go_ret
  exact ⟨by first | rfl | exact ret_true (by decide), (hB.alloc hB.size _).trans ⟨rfl, rfl, rfl, Nat.le_refl _, fun _ _ => rfl⟩⟩

set_option maxRecDepth 100000 in
set_option maxHeartbeats 4000000 in
theorem twins_10 (m : Int) (h0 : 0 ≤ m) (h1 : m ≤ 255) (hm : m % 29 = 10) (w : World) (hLaid : Laid w) :
    Calls Tryd.prog 6 #[.int .u8 m] w fun e w' => e = .returned (.bool true) ∧ Below w.heap.size w w' := by
  have e1 : byCode 79 = some ⟨79, ⟨#[105, 51, 50, 46, 103, 101, 95, 117]⟩, 0, ⟨#[127, 127]⟩, ⟨#[127]⟩⟩ := by rfl
  have e2 : byCode 90 = some ⟨90, ⟨#[105, 54, 52, 46, 103, 101, 95, 117]⟩, 0, ⟨#[126, 126]⟩, ⟨#[127]⟩⟩ := by rfl
  have c1 := op_of_is 79 (n := ⟨#[105, 51, 50, 46, 103, 101, 95, 117]⟩) (s := 0) (p := ⟨#[127, 127]⟩) (r := ⟨#[127]⟩) (ok := true) (by omega) (by rw [e1]; rfl) (by rw [e1]; rfl)
  have c2 := op_of_is 90 (n := ⟨#[105, 54, 52, 46, 103, 101, 95, 117]⟩) (s := 0) (p := ⟨#[126, 126]⟩) (r := ⟨#[127]⟩) (ok := true) (by omega) (by rw [e2]; rfl) (by rw [e2]; rfl)
  have f1 : (⟨#[105, 51, 50, 46, 103, 101, 95, 117]⟩ : ByteArray).extract 4 8 = ⟨#[103, 101, 95, 117]⟩ := by rfl
  have f2 : (⟨#[105, 54, 52, 46, 103, 101, 95, 117]⟩ : ByteArray).extract 4 8 = ⟨#[103, 101, 95, 117]⟩ := by rfl
  have f3 : (⟨#[105, 51, 50, 46, 103, 101, 95, 117]⟩ : ByteArray).extract 0 4 = ⟨#[105, 51, 50, 46]⟩ := by rfl
  have f4 : (⟨#[105, 54, 52, 46, 103, 101, 95, 117]⟩ : ByteArray).extract 0 4 = ⟨#[105, 54, 52, 46]⟩ := by rfl
  clear e1 e2
  have hB := Below.refl w.heap.size w
  go_enter Tryd.func6, Tryd.ntmps6
  go_wp2_with (first
    | (go_at_call 8; (with_reducible refine (head_op _ hLaid).mono ?_); rintro e w0 ⟨rfl, hb⟩; replace hB := bt hB hb; clear hb)
    | (go_at_call 9; (with_reducible refine (c1 _ ?_).mono ?_); (first | (with_reducible exact hLaid.below hB) | (with_reducible exact (hLaid.below hB).alloc _) | (with_reducible exact ((hLaid.below hB).alloc _).alloc _)); rintro e w1 ⟨rfl, hb⟩; replace hB := bt hB hb; clear hb)
    | (go_at_call 9; (with_reducible refine (c2 _ ?_).mono ?_); (first | (with_reducible exact hLaid.below hB) | (with_reducible exact (hLaid.below hB).alloc _) | (with_reducible exact ((hLaid.below hB).alloc _).alloc _)); rintro e w2 ⟨rfl, hb⟩; have ⟨_, r0, r1, r2, r3⟩ := (At4.new _ _ _ _ _ _).below hb; replace hB := bta hB hb; clear hb))
  go_quiet (fail)
  go_wp2
  go_ret
  exact ⟨by first | rfl | exact ret_true (by decide), (hB.alloc hB.size _).trans ⟨rfl, rfl, rfl, Nat.le_refl _, fun _ _ => rfl⟩⟩

set_option maxRecDepth 100000 in
set_option maxHeartbeats 4000000 in
theorem twins_11 (m : Int) (h0 : 0 ≤ m) (h1 : m ≤ 255) (hm : m % 29 = 11) (w : World) (hLaid : Laid w) :
    Calls Tryd.prog 6 #[.int .u8 m] w fun e w' => e = .returned (.bool true) ∧ Below w.heap.size w w' := by
  have e1 : byCode 103 = some ⟨103, ⟨#[105, 51, 50, 46, 99, 108, 122]⟩, 0, ⟨#[127]⟩, ⟨#[127]⟩⟩ := by rfl
  have e2 : byCode 121 = some ⟨121, ⟨#[105, 54, 52, 46, 99, 108, 122]⟩, 0, ⟨#[126]⟩, ⟨#[126]⟩⟩ := by rfl
  have c1 := op_of_is 103 (n := ⟨#[105, 51, 50, 46, 99, 108, 122]⟩) (s := 0) (p := ⟨#[127]⟩) (r := ⟨#[127]⟩) (ok := true) (by omega) (by rw [e1]; rfl) (by rw [e1]; rfl)
  have c2 := op_of_is 121 (n := ⟨#[105, 54, 52, 46, 99, 108, 122]⟩) (s := 0) (p := ⟨#[126]⟩) (r := ⟨#[126]⟩) (ok := true) (by omega) (by rw [e2]; rfl) (by rw [e2]; rfl)
  have f1 : (⟨#[105, 51, 50, 46, 99, 108, 122]⟩ : ByteArray).extract 4 7 = ⟨#[99, 108, 122]⟩ := by rfl
  have f2 : (⟨#[105, 54, 52, 46, 99, 108, 122]⟩ : ByteArray).extract 4 7 = ⟨#[99, 108, 122]⟩ := by rfl
  have f3 : (⟨#[105, 51, 50, 46, 99, 108, 122]⟩ : ByteArray).extract 0 4 = ⟨#[105, 51, 50, 46]⟩ := by rfl
  have f4 : (⟨#[105, 54, 52, 46, 99, 108, 122]⟩ : ByteArray).extract 0 4 = ⟨#[105, 54, 52, 46]⟩ := by rfl
  clear e1 e2
  have hB := Below.refl w.heap.size w
  go_enter Tryd.func6, Tryd.ntmps6
  go_wp2_with (first
    | (go_at_call 8; (with_reducible refine (head_op _ hLaid).mono ?_); rintro e w0 ⟨rfl, hb⟩; replace hB := bt hB hb; clear hb)
    | (go_at_call 9; (with_reducible refine (c1 _ ?_).mono ?_); (first | (with_reducible exact hLaid.below hB) | (with_reducible exact (hLaid.below hB).alloc _) | (with_reducible exact ((hLaid.below hB).alloc _).alloc _)); rintro e w1 ⟨rfl, hb⟩; replace hB := bt hB hb; clear hb)
    | (go_at_call 9; (with_reducible refine (c2 _ ?_).mono ?_); (first | (with_reducible exact hLaid.below hB) | (with_reducible exact (hLaid.below hB).alloc _) | (with_reducible exact ((hLaid.below hB).alloc _).alloc _)); rintro e w2 ⟨rfl, hb⟩; have ⟨_, r0, r1, r2, r3⟩ := (At4.new _ _ _ _ _ _).below hb; replace hB := bta hB hb; clear hb))
  go_quiet (fail)
  go_wp2
  go_ret
  exact ⟨by first | rfl | exact ret_true (by decide), (hB.alloc hB.size _).trans ⟨rfl, rfl, rfl, Nat.le_refl _, fun _ _ => rfl⟩⟩

set_option maxRecDepth 100000 in
set_option maxHeartbeats 4000000 in
theorem twins_12 (m : Int) (h0 : 0 ≤ m) (h1 : m ≤ 255) (hm : m % 29 = 12) (w : World) (hLaid : Laid w) :
    Calls Tryd.prog 6 #[.int .u8 m] w fun e w' => e = .returned (.bool true) ∧ Below w.heap.size w w' := by
  have e1 : byCode 104 = some ⟨104, ⟨#[105, 51, 50, 46, 99, 116, 122]⟩, 0, ⟨#[127]⟩, ⟨#[127]⟩⟩ := by rfl
  have e2 : byCode 122 = some ⟨122, ⟨#[105, 54, 52, 46, 99, 116, 122]⟩, 0, ⟨#[126]⟩, ⟨#[126]⟩⟩ := by rfl
  have c1 := op_of_is 104 (n := ⟨#[105, 51, 50, 46, 99, 116, 122]⟩) (s := 0) (p := ⟨#[127]⟩) (r := ⟨#[127]⟩) (ok := true) (by omega) (by rw [e1]; rfl) (by rw [e1]; rfl)
  have c2 := op_of_is 122 (n := ⟨#[105, 54, 52, 46, 99, 116, 122]⟩) (s := 0) (p := ⟨#[126]⟩) (r := ⟨#[126]⟩) (ok := true) (by omega) (by rw [e2]; rfl) (by rw [e2]; rfl)
  have f1 : (⟨#[105, 51, 50, 46, 99, 116, 122]⟩ : ByteArray).extract 4 7 = ⟨#[99, 116, 122]⟩ := by rfl
  have f2 : (⟨#[105, 54, 52, 46, 99, 116, 122]⟩ : ByteArray).extract 4 7 = ⟨#[99, 116, 122]⟩ := by rfl
  have f3 : (⟨#[105, 51, 50, 46, 99, 116, 122]⟩ : ByteArray).extract 0 4 = ⟨#[105, 51, 50, 46]⟩ := by rfl
  have f4 : (⟨#[105, 54, 52, 46, 99, 116, 122]⟩ : ByteArray).extract 0 4 = ⟨#[105, 54, 52, 46]⟩ := by rfl
  clear e1 e2
  have hB := Below.refl w.heap.size w
  go_enter Tryd.func6, Tryd.ntmps6
  go_wp2_with (first
    | (go_at_call 8; (with_reducible refine (head_op _ hLaid).mono ?_); rintro e w0 ⟨rfl, hb⟩; replace hB := bt hB hb; clear hb)
    | (go_at_call 9; (with_reducible refine (c1 _ ?_).mono ?_); (first | (with_reducible exact hLaid.below hB) | (with_reducible exact (hLaid.below hB).alloc _) | (with_reducible exact ((hLaid.below hB).alloc _).alloc _)); rintro e w1 ⟨rfl, hb⟩; replace hB := bt hB hb; clear hb)
    | (go_at_call 9; (with_reducible refine (c2 _ ?_).mono ?_); (first | (with_reducible exact hLaid.below hB) | (with_reducible exact (hLaid.below hB).alloc _) | (with_reducible exact ((hLaid.below hB).alloc _).alloc _)); rintro e w2 ⟨rfl, hb⟩; have ⟨_, r0, r1, r2, r3⟩ := (At4.new _ _ _ _ _ _).below hb; replace hB := bta hB hb; clear hb))
  go_quiet (fail)
  go_wp2
  go_ret
  exact ⟨by first | rfl | exact ret_true (by decide), (hB.alloc hB.size _).trans ⟨rfl, rfl, rfl, Nat.le_refl _, fun _ _ => rfl⟩⟩

set_option maxRecDepth 100000 in
set_option maxHeartbeats 4000000 in
theorem twins_13 (m : Int) (h0 : 0 ≤ m) (h1 : m ≤ 255) (hm : m % 29 = 13) (w : World) (hLaid : Laid w) :
    Calls Tryd.prog 6 #[.int .u8 m] w fun e w' => e = .returned (.bool true) ∧ Below w.heap.size w w' := by
  have e1 : byCode 105 = some ⟨105, ⟨#[105, 51, 50, 46, 112, 111, 112, 99, 110, 116]⟩, 0, ⟨#[127]⟩, ⟨#[127]⟩⟩ := by rfl
  have e2 : byCode 123 = some ⟨123, ⟨#[105, 54, 52, 46, 112, 111, 112, 99, 110, 116]⟩, 0, ⟨#[126]⟩, ⟨#[126]⟩⟩ := by rfl
  have c1 := op_of_is 105 (n := ⟨#[105, 51, 50, 46, 112, 111, 112, 99, 110, 116]⟩) (s := 0) (p := ⟨#[127]⟩) (r := ⟨#[127]⟩) (ok := true) (by omega) (by rw [e1]; rfl) (by rw [e1]; rfl)
  have c2 := op_of_is 123 (n := ⟨#[105, 54, 52, 46, 112, 111, 112, 99, 110, 116]⟩) (s := 0) (p := ⟨#[126]⟩) (r := ⟨#[126]⟩) (ok := true) (by omega) (by rw [e2]; rfl) (by rw [e2]; rfl)
  have f1 : (⟨#[105, 51, 50, 46, 112, 111, 112, 99, 110, 116]⟩ : ByteArray).extract 4 10 = ⟨#[112, 111, 112, 99, 110, 116]⟩ := by rfl
  have f2 : (⟨#[105, 54, 52, 46, 112, 111, 112, 99, 110, 116]⟩ : ByteArray).extract 4 10 = ⟨#[112, 111, 112, 99, 110, 116]⟩ := by rfl
  have f3 : (⟨#[105, 51, 50, 46, 112, 111, 112, 99, 110, 116]⟩ : ByteArray).extract 0 4 = ⟨#[105, 51, 50, 46]⟩ := by rfl
  have f4 : (⟨#[105, 54, 52, 46, 112, 111, 112, 99, 110, 116]⟩ : ByteArray).extract 0 4 = ⟨#[105, 54, 52, 46]⟩ := by rfl
  clear e1 e2
  have hB := Below.refl w.heap.size w
  go_enter Tryd.func6, Tryd.ntmps6
  go_wp2_with (first
    | (go_at_call 8; (with_reducible refine (head_op _ hLaid).mono ?_); rintro e w0 ⟨rfl, hb⟩; replace hB := bt hB hb; clear hb)
    | (go_at_call 9; (with_reducible refine (c1 _ ?_).mono ?_); (first | (with_reducible exact hLaid.below hB) | (with_reducible exact (hLaid.below hB).alloc _) | (with_reducible exact ((hLaid.below hB).alloc _).alloc _)); rintro e w1 ⟨rfl, hb⟩; replace hB := bt hB hb; clear hb)
    | (go_at_call 9; (with_reducible refine (c2 _ ?_).mono ?_); (first | (with_reducible exact hLaid.below hB) | (with_reducible exact (hLaid.below hB).alloc _) | (with_reducible exact ((hLaid.below hB).alloc _).alloc _)); rintro e w2 ⟨rfl, hb⟩; have ⟨_, r0, r1, r2, r3⟩ := (At4.new _ _ _ _ _ _).below hb; replace hB := bta hB hb; clear hb))
  go_quiet (fail)
  go_wp2
  go_ret
  exact ⟨by first | rfl | exact ret_true (by decide), (hB.alloc hB.size _).trans ⟨rfl, rfl, rfl, Nat.le_refl _, fun _ _ => rfl⟩⟩

set_option maxRecDepth 100000 in
set_option maxHeartbeats 4000000 in
theorem twins_14 (m : Int) (h0 : 0 ≤ m) (h1 : m ≤ 255) (hm : m % 29 = 14) (w : World) (hLaid : Laid w) :
    Calls Tryd.prog 6 #[.int .u8 m] w fun e w' => e = .returned (.bool true) ∧ Below w.heap.size w w' := by
  have e1 : byCode 106 = some ⟨106, ⟨#[105, 51, 50, 46, 97, 100, 100]⟩, 0, ⟨#[127, 127]⟩, ⟨#[127]⟩⟩ := by rfl
  have e2 : byCode 124 = some ⟨124, ⟨#[105, 54, 52, 46, 97, 100, 100]⟩, 0, ⟨#[126, 126]⟩, ⟨#[126]⟩⟩ := by rfl
  have c1 := op_of_is 106 (n := ⟨#[105, 51, 50, 46, 97, 100, 100]⟩) (s := 0) (p := ⟨#[127, 127]⟩) (r := ⟨#[127]⟩) (ok := true) (by omega) (by rw [e1]; rfl) (by rw [e1]; rfl)
  have c2 := op_of_is 124 (n := ⟨#[105, 54, 52, 46, 97, 100, 100]⟩) (s := 0) (p := ⟨#[126, 126]⟩) (r := ⟨#[126]⟩) (ok := true) (by omega) (by rw [e2]; rfl) (by rw [e2]; rfl)
  have f1 : (⟨#[105, 51, 50, 46, 97, 100, 100]⟩ : ByteArray).extract 4 7 = ⟨#[97, 100, 100]⟩ := by rfl
  have f2 : (⟨#[105, 54, 52, 46, 97, 100, 100]⟩ : ByteArray).extract 4 7 = ⟨#[97, 100, 100]⟩ := by rfl
  have f3 : (⟨#[105, 51, 50, 46, 97, 100, 100]⟩ : ByteArray).extract 0 4 = ⟨#[105, 51, 50, 46]⟩ := by rfl
  have f4 : (⟨#[105, 54, 52, 46, 97, 100, 100]⟩ : ByteArray).extract 0 4 = ⟨#[105, 54, 52, 46]⟩ := by rfl
  clear e1 e2
  have hB := Below.refl w.heap.size w
  go_enter Tryd.func6, Tryd.ntmps6
  go_wp2_with (first
    | (go_at_call 8; (with_reducible refine (head_op _ hLaid).mono ?_); rintro e w0 ⟨rfl, hb⟩; replace hB := bt hB hb; clear hb)
    | (go_at_call 9; (with_reducible refine (c1 _ ?_).mono ?_); (first | (with_reducible exact hLaid.below hB) | (with_reducible exact (hLaid.below hB).alloc _) | (with_reducible exact ((hLaid.below hB).alloc _).alloc _)); rintro e w1 ⟨rfl, hb⟩; replace hB := bt hB hb; clear hb)
    | (go_at_call 9; (with_reducible refine (c2 _ ?_).mono ?_); (first | (with_reducible exact hLaid.below hB) | (with_reducible exact (hLaid.below hB).alloc _) | (with_reducible exact ((hLaid.below hB).alloc _).alloc _)); rintro e w2 ⟨rfl, hb⟩; have ⟨_, r0, r1, r2, r3⟩ := (At4.new _ _ _ _ _ _).below hb; replace hB := bta hB hb; clear hb))
  go_quiet (fail)
  go_wp2
  go_ret
  exact ⟨by first | rfl | exact ret_true (by decide), (hB.alloc hB.size _).trans ⟨rfl, rfl, rfl, Nat.le_refl _, fun _ _ => rfl⟩⟩
end Go.Proofs.YtjpcobfaojjceaaDoor
