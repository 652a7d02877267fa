/-
  OpTwins, walked: what there is of 32 bits there is of 64, with the same name behind the type: tests answer an i32, all others their type.
-/
import Derived.Test.YtjpcobfaojjceaaDoorOpTwinsA
import Derived.Deep.QuietTactic
import Derived.BigQuiet
namespace Go.Proofs.YtjpcobfaojjceaaDoor
open Go.RowKit
set_option linter.unusedVariables false

set_option maxRecDepth 100000 in
set_option maxHeartbeats 4000000 in
theorem twins_15 (m : Int) (h0 : 0 ≤ m) (h1 : m ≤ 255) (hm : m % 29 = 15) (w : World) (hLaid : Laid w) :
    Calls Tryd.prog 6 #[.int .u8 m] w fun e w' => e = .returned (.bool true) ∧ Below w.heap.size w w' := by
  have e1 : byCode 107 = some ⟨107, ⟨#[105, 51, 50, 46, 115, 117, 98]⟩, 0, ⟨#[127, 127]⟩, ⟨#[127]⟩⟩ := by rfl
  have e2 : byCode 125 = some ⟨125, ⟨#[105, 54, 52, 46, 115, 117, 98]⟩, 0, ⟨#[126, 126]⟩, ⟨#[126]⟩⟩ := by rfl
  have c1 := op_of_is 107 (n := ⟨#[105, 51, 50, 46, 115, 117, 98]⟩) (s := 0) (p := ⟨#[127, 127]⟩) (r := ⟨#[127]⟩) (ok := true) (by omega) (by rw [e1]; rfl) (by rw [e1]; rfl)
  have c2 := op_of_is 125 (n := ⟨#[105, 54, 52, 46, 115, 117, 98]⟩) (s := 0) (p := ⟨#[126, 126]⟩) (r := ⟨#[126]⟩) (ok := true) (by omega) (by rw [e2]; rfl) (by rw [e2]; rfl)
  have f1 : (⟨#[105, 51, 50, 46, 115, 117, 98]⟩ : ByteArray).extract 4 7 = ⟨#[115, 117, 98]⟩ := by rfl
  have f2 : (⟨#[105, 54, 52, 46, 115, 117, 98]⟩ : ByteArray).extract 4 7 = ⟨#[115, 117, 98]⟩ := by rfl
  have f3 : (⟨#[105, 51, 50, 46, 115, 117, 98]⟩ : ByteArray).extract 0 4 = ⟨#[105, 51, 50, 46]⟩ := by rfl
  have f4 : (⟨#[105, 54, 52, 46, 115, 117, 98]⟩ : ByteArray).extract 0 4 = ⟨#[105, 54, 52, 46]⟩ := by rfl
  clear e1 e2
  have hB := Below.refl w.heap.size w
  go_enter Tryd.func6, Tryd.ntmps6
  go_wp2_with (first
    | (go_at_call 8; (with_reducible refine (head_op _ hLaid).mono ?_); rintro e w0 ⟨rfl, hb⟩; replace hB := bt hB hb; clear hb)
    | (go_at_call 9; (with_reducible refine (c1 _ ?_).mono ?_); (first | (with_reducible exact hLaid.below hB) | (with_reducible exact (hLaid.below hB).alloc _) | (with_reducible exact ((hLaid.below hB).alloc _).alloc _)); rintro e w1 ⟨rfl, hb⟩; replace hB := bt hB hb; clear hb)
    | (go_at_call 9; (with_reducible refine (c2 _ ?_).mono ?_); (first | (with_reducible exact hLaid.below hB) | (with_reducible exact (hLaid.below hB).alloc _) | (with_reducible exact ((hLaid.below hB).alloc _).alloc _)); rintro e w2 ⟨rfl, hb⟩; have ⟨_, r0, r1, r2, r3⟩ := (At4.new _ _ _ _ _ _).below hb; replace hB := bta hB hb; clear hb))
  go_quiet (fail)
  go_wp2
  go_ret
  exact ⟨by first | rfl | exact ret_true (by decide), (hB.alloc hB.size _).trans ⟨rfl, rfl, rfl, Nat.le_refl _, fun _ _ => rfl⟩⟩

set_option maxRecDepth 100000 in
set_option maxHeartbeats 4000000 in
theorem twins_16 (m : Int) (h0 : 0 ≤ m) (h1 : m ≤ 255) (hm : m % 29 = 16) (w : World) (hLaid : Laid w) :
    Calls Tryd.prog 6 #[.int .u8 m] w fun e w' => e = .returned (.bool true) ∧ Below w.heap.size w w' := by
  have e1 : byCode 108 = some ⟨108, ⟨#[105, 51, 50, 46, 109, 117, 108]⟩, 0, ⟨#[127, 127]⟩, ⟨#[127]⟩⟩ := by rfl
  have e2 : byCode 126 = some ⟨126, ⟨#[105, 54, 52, 46, 109, 117, 108]⟩, 0, ⟨#[126, 126]⟩, ⟨#[126]⟩⟩ := by rfl
  have c1 := op_of_is 108 (n := ⟨#[105, 51, 50, 46, 109, 117, 108]⟩) (s := 0) (p := ⟨#[127, 127]⟩) (r := ⟨#[127]⟩) (ok := true) (by omega) (by rw [e1]; rfl) (by rw [e1]; rfl)
  have c2 := op_of_is 126 (n := ⟨#[105, 54, 52, 46, 109, 117, 108]⟩) (s := 0) (p := ⟨#[126, 126]⟩) (r := ⟨#[126]⟩) (ok := true) (by omega) (by rw [e2]; rfl) (by rw [e2]; rfl)
  have f1 : (⟨#[105, 51, 50, 46, 109, 117, 108]⟩ : ByteArray).extract 4 7 = ⟨#[109, 117, 108]⟩ := by rfl
  have f2 : (⟨#[105, 54, 52, 46, 109, 117, 108]⟩ : ByteArray).extract 4 7 = ⟨#[109, 117, 108]⟩ := by rfl
  have f3 : (⟨#[105, 51, 50, 46, 109, 117, 108]⟩ : ByteArray).extract 0 4 = ⟨#[105, 51, 50, 46]⟩ := by rfl
  have f4 : (⟨#[105, 54, 52, 46, 109, 117, 108]⟩ : ByteArray).extract 0 4 = ⟨#[105, 54, 52, 46]⟩ := by rfl
  clear e1 e2
  have hB := Below.refl w.heap.size w
  go_enter Tryd.func6, Tryd.ntmps6
  go_wp2_with (first
    | (go_at_call 8; (with_reducible refine (head_op _ hLaid).mono ?_); rintro e w0 ⟨rfl, hb⟩; replace hB := bt hB hb; clear hb)
    | (go_at_call 9; (with_reducible refine (c1 _ ?_).mono ?_); (first | (with_reducible exact hLaid.below hB) | (with_reducible exact (hLaid.below hB).alloc _) | (with_reducible exact ((hLaid.below hB).alloc _).alloc _)); rintro e w1 ⟨rfl, hb⟩; replace hB := bt hB hb; clear hb)
    | (go_at_call 9; (with_reducible refine (c2 _ ?_).mono ?_); (first | (with_reducible exact hLaid.below hB) | (with_reducible exact (hLaid.below hB).alloc _) | (with_reducible exact ((hLaid.below hB).alloc _).alloc _)); rintro e w2 ⟨rfl, hb⟩; have ⟨_, r0, r1, r2, r3⟩ := (At4.new _ _ _ _ _ _).below hb; replace hB := bta hB hb; clear hb))
  go_quiet (fail)
  go_wp2
  go_ret
  exact ⟨by first | rfl | exact ret_true (by decide), (hB.alloc hB.size _).trans ⟨rfl, rfl, rfl, Nat.le_refl _, fun _ _ => rfl⟩⟩

set_option maxRecDepth 100000 in
set_option maxHeartbeats 4000000 in
theorem twins_17 (m : Int) (h0 : 0 ≤ m) (h1 : m ≤ 255) (hm : m % 29 = 17) (w : World) (hLaid : Laid w) :
    Calls Tryd.prog 6 #[.int .u8 m] w fun e w' => e = .returned (.bool true) ∧ Below w.heap.size w w' := by
  have e1 : byCode 109 = some ⟨109, ⟨#[105, 51, 50, 46, 100, 105, 118, 95, 115]⟩, 0, ⟨#[127, 127]⟩, ⟨#[127]⟩⟩ := by rfl
  have e2 : byCode 127 = some ⟨127, ⟨#[105, 54, 52, 46, 100, 105, 118, 95, 115]⟩, 0, ⟨#[126, 126]⟩, ⟨#[126]⟩⟩ := by rfl
  have c1 := op_of_is 109 (n := ⟨#[105, 51, 50, 46, 100, 105, 118, 95, 115]⟩) (s := 0) (p := ⟨#[127, 127]⟩) (r := ⟨#[127]⟩) (ok := true) (by omega) (by rw [e1]; rfl) (by rw [e1]; rfl)
  have c2 := op_of_is 127 (n := ⟨#[105, 54, 52, 46, 100, 105, 118, 95, 115]⟩) (s := 0) (p := ⟨#[126, 126]⟩) (r := ⟨#[126]⟩) (ok := true) (by omega) (by rw [e2]; rfl) (by rw [e2]; rfl)
  have f1 : (⟨#[105, 51, 50, 46, 100, 105, 118, 95, 115]⟩ : ByteArray).extract 4 9 = ⟨#[100, 105, 118, 95, 115]⟩ := by rfl
  have f2 : (⟨#[105, 54, 52, 46, 100, 105, 118, 95, 115]⟩ : ByteArray).extract 4 9 = ⟨#[100, 105, 118, 95, 115]⟩ := by rfl
  have f3 : (⟨#[105, 51, 50, 46, 100, 105, 118, 95, 115]⟩ : ByteArray).extract 0 4 = ⟨#[105, 51, 50, 46]⟩ := by rfl
  have f4 : (⟨#[105, 54, 52, 46, 100, 105, 118, 95, 115]⟩ : ByteArray).extract 0 4 = ⟨#[105, 54, 52, 46]⟩ := by rfl
  clear e1 e2
  have hB := Below.refl w.heap.size w
  go_enter Tryd.func6, Tryd.ntmps6
  go_wp2_with (first
    | (go_at_call 8; (with_reducible refine (head_op _ hLaid).mono ?_); rintro e w0 ⟨rfl, hb⟩; replace hB := bt hB hb; clear hb)
    | (go_at_call 9; (with_reducible refine (c1 _ ?_).mono ?_); (first | (with_reducible exact hLaid.below hB) | (with_reducible exact (hLaid.below hB).alloc _) | (with_reducible exact ((hLaid.below hB).alloc _).alloc _)); rintro e w1 ⟨rfl, hb⟩; replace hB := bt hB hb; clear hb)
    | (go_at_call 9; (with_reducible refine (c2 _ ?_).mono ?_); (first | (with_reducible exact hLaid.below hB) | (with_reducible exact (hLaid.below hB).alloc _) | (with_reducible exact ((hLaid.below hB).alloc _).alloc _)); rintro e w2 ⟨rfl, hb⟩; have ⟨_, r0, r1, r2, r3⟩ := (At4.new _ _ _ _ _ _).below hb; replace hB := bta hB hb; clear hb))
  go_quiet (fail)
  go_wp2
  go_ret
  exact ⟨by first | rfl | exact ret_true (by decide), (hB.alloc hB.size _).trans ⟨rfl, rfl, rfl, Nat.le_refl _, fun _ _ => rfl⟩⟩

set_option maxRecDepth 100000 in
set_option maxHeartbeats 4000000 in
theorem twins_18 (m : Int) (h0 : 0 ≤ m) (h1 : m ≤ 255) (hm : m % 29 = 18) (w : World) (hLaid : Laid w) :
    Calls Tryd.prog 6 #[.int .u8 m] w fun e w' => e = .returned (.bool true) ∧ Below w.heap.size w w' := by
  have e1 : byCode 110 = some ⟨110, ⟨#[105, 51, 50, 46, 100, 105, 118, 95, 117]⟩, 0, ⟨#[127, 127]⟩, ⟨#[127]⟩⟩ := by rfl
  have e2 : byCode 128 = some ⟨128, ⟨#[105, 54, 52, 46, 100, 105, 118, 95, 117]⟩, 0, ⟨#[126, 126]⟩, ⟨#[126]⟩⟩ := by rfl
  have c1 := op_of_is 110 (n := ⟨#[105, 51, 50, 46, 100, 105, 118, 95, 117]⟩) (s := 0) (p := ⟨#[127, 127]⟩) (r := ⟨#[127]⟩) (ok := true) (by omega) (by rw [e1]; rfl) (by rw [e1]; rfl)
  have c2 := op_of_is 128 (n := ⟨#[105, 54, 52, 46, 100, 105, 118, 95, 117]⟩) (s := 0) (p := ⟨#[126, 126]⟩) (r := ⟨#[126]⟩) (ok := true) (by omega) (by rw [e2]; rfl) (by rw [e2]; rfl)
  have f1 : (⟨#[105, 51, 50, 46, 100, 105, 118, 95, 117]⟩ : ByteArray).extract 4 9 = ⟨#[100, 105, 118, 95, 117]⟩ := by rfl
  have f2 : (⟨#[105, 54, 52, 46, 100, 105, 118, 95, 117]⟩ : ByteArray).extract 4 9 = ⟨#[100, 105, 118, 95, 117]⟩ := by rfl
  have f3 : (⟨#[105, 51, 50, 46, 100, 105, 118, 95, 117]⟩ : ByteArray).extract 0 4 = ⟨#[105, 51, 50, 46]⟩ := by rfl
  have f4 : (⟨#[105, 54, 52, 46, 100, 105, 118, 95, 117]⟩ : ByteArray).extract 0 4 = ⟨#[105, 54, 52, 46]⟩ := by rfl
  clear e1 e2
  have hB := Below.refl w.heap.size w
  go_enter Tryd.func6, Tryd.ntmps6
  go_wp2_with (first
    | (go_at_call 8; (with_reducible refine (head_op _ hLaid).mono ?_); rintro e w0 ⟨rfl, hb⟩; replace hB := bt hB hb; clear hb)
    | (go_at_call 9; (with_reducible refine (c1 _ ?_).mono ?_); (first | (with_reducible exact hLaid.below hB) | (with_reducible exact (hLaid.below hB).alloc _) | (with_reducible exact ((hLaid.below hB).alloc _).alloc _)); rintro e w1 ⟨rfl, hb⟩; replace hB := bt hB hb; clear hb)
    | (go_at_call 9; (with_reducible refine (c2 _ ?_).mono ?_); (first | (with_reducible exact hLaid.below hB) | (with_reducible exact (hLaid.below hB).alloc _) | (with_reducible exact ((hLaid.below hB).alloc _).alloc _)); rintro e w2 ⟨rfl, hb⟩; have ⟨_, r0, r1, r2, r3⟩ := (At4.new _ _ _ _ _ _).below hb; replace hB := bta hB hb; clear hb))
  go_quiet (fail)
  go_wp2
  go_ret
  exact ⟨by first | rfl | exact ret_true (by decide), (hB.alloc hB.size _).trans ⟨rfl, rfl, rfl, Nat.le_refl _, fun _ _ => rfl⟩⟩

set_option maxRecDepth 100000 in
set_option maxHeartbeats 4000000 in
theorem twins_19 (m : Int) (h0 : 0 ≤ m) (h1 : m ≤ 255) (hm : m % 29 = 19) (w : World) (hLaid : Laid w) :
    Calls Tryd.prog 6 #[.int .u8 m] w fun e w' => e = .returned (.bool true) ∧ Below w.heap.size w w' := by
  have e1 : byCode 111 = some ⟨111, ⟨#[105, 51, 50, 46, 114, 101, 109, 95, 115]⟩, 0, ⟨#[127, 127]⟩, ⟨#[127]⟩⟩ := by rfl
  have e2 : byCode 129 = some ⟨129, ⟨#[105, 54, 52, 46, 114, 101, 109, 95, 115]⟩, 0, ⟨#[126, 126]⟩, ⟨#[126]⟩⟩ := by rfl
  have c1 := op_of_is 111 (n := ⟨#[105, 51, 50, 46, 114, 101, 109, 95, 115]⟩) (s := 0) (p := ⟨#[127, 127]⟩) (r := ⟨#[127]⟩) (ok := true) (by omega) (by rw [e1]; rfl) (by rw [e1]; rfl)
  have c2 := op_of_is 129 (n := ⟨#[105, 54, 52, 46, 114, 101, 109, 95, 115]⟩) (s := 0) (p := ⟨#[126, 126]⟩) (r := ⟨#[126]⟩) (ok := true) (by omega) (by rw [e2]; rfl) (by rw [e2]; rfl)
  have f1 : (⟨#[105, 51, 50, 46, 114, 101, 109, 95, 115]⟩ : ByteArray).extract 4 9 = ⟨#[114, 101, 109, 95, 115]⟩ := by rfl
  have f2 : (⟨#[105, 54, 52, 46, 114, 101, 109, 95, 115]⟩ : ByteArray).extract 4 9 = ⟨#[114, 101, 109, 95, 115]⟩ := by rfl
  have f3 : (⟨#[105, 51, 50, 46, 114, 101, 109, 95, 115]⟩ : ByteArray).extract 0 4 = ⟨#[105, 51, 50, 46]⟩ := by rfl
  have f4 : (⟨#[105, 54, 52, 46, 114, 101, 109, 95, 115]⟩ : ByteArray).extract 0 4 = ⟨#[105, 54, 52, 46]⟩ := by rfl
  clear e1 e2
  have hB := Below.refl w.heap.size w
  go_enter Tryd.func6, Tryd.ntmps6
  go_wp2_with (first
    | (go_at_call 8; (with_reducible refine (head_op _ hLaid).mono ?_); rintro e w0 ⟨rfl, hb⟩; replace hB := bt hB hb; clear hb)
    | (go_at_call 9; (with_reducible refine (c1 _ ?_).mono ?_); (first | (with_reducible exact hLaid.below hB) | (with_reducible exact (hLaid.below hB).alloc _) | (with_reducible exact ((hLaid.below hB).alloc _).alloc _)); rintro e w1 ⟨rfl, hb⟩; replace hB := bt hB hb; clear hb)
    | (go_at_call 9; (with_reducible refine (c2 _ ?_).mono ?_); (first | (with_reducible exact hLaid.below hB) | (with_reducible exact (hLaid.below hB).alloc _) | (with_reducible exact ((hLaid.below hB).alloc _).alloc _)); rintro e w2 ⟨rfl, hb⟩; have ⟨_, r0, r1, r2, r3⟩ := (At4.new _ _ _ _ _ _).below hb; replace hB := bta hB hb; clear hb))
  go_quiet (fail)
  go_wp2
  go_ret
  exact ⟨by first | rfl | exact ret_true (by decide), (hB.alloc hB.size _).trans ⟨rfl, rfl, rfl, Nat.le_refl _, fun _ _ => rfl⟩⟩

set_option maxRecDepth 100000 in
set_option maxHeartbeats 4000000 in
theorem twins_20 (m : Int) (h0 : 0 ≤ m) (h1 : m ≤ 255) (hm : m % 29 = 20) (w : World) (hLaid : Laid w) :
    Calls Tryd.prog 6 #[.int .u8 m] w fun e w' => e = .returned (.bool true) ∧ Below w.heap.size w w' := by
  have e1 : byCode 112 = some ⟨112, ⟨#[105, 51, 50, 46, 114, 101, 109, 95, 117]⟩, 0, ⟨#[127, 127]⟩, ⟨#[127]⟩⟩ := by rfl
  have e2 : byCode 130 = some ⟨130, ⟨#[105, 54, 52, 46, 114, 101, 109, 95, 117]⟩, 0, ⟨#[126, 126]⟩, ⟨#[126]⟩⟩ := by rfl
  have c1 := op_of_is 112 (n := ⟨#[105, 51, 50, 46, 114, 101, 109, 95, 117]⟩) (s := 0) (p := ⟨#[127, 127]⟩) (r := ⟨#[127]⟩) (ok := true) (by omega) (by rw [e1]; rfl) (by rw [e1]; rfl)
  have c2 := op_of_is 130 (n := ⟨#[105, 54, 52, 46, 114, 101, 109, 95, 117]⟩) (s := 0) (p := ⟨#[126, 126]⟩) (r := ⟨#[126]⟩) (ok := true) (by omega) (by rw [e2]; rfl) (by rw [e2]; rfl)
  have f1 : (⟨#[105, 51, 50, 46, 114, 101, 109, 95, 117]⟩ : ByteArray).extract 4 9 = ⟨#[114, 101, 109, 95, 117]⟩ := by rfl
  have f2 : (⟨#[105, 54, 52, 46, 114, 101, 109, 95, 117]⟩ : ByteArray).extract 4 9 = ⟨#[114, 101, 109, 95, 117]⟩ := by rfl
  have f3 : (⟨#[105, 51, 50, 46, 114, 101, 109, 95, 117]⟩ : ByteArray).extract 0 4 = ⟨#[105, 51, 50, 46]⟩ := by rfl
  have f4 : (⟨#[105, 54, 52, 46, 114, 101, 109, 95, 117]⟩ : ByteArray).extract 0 4 = ⟨#[105, 54, 52, 46]⟩ := by rfl
  clear e1 e2
  have hB := Below.refl w.heap.size w
  go_enter Tryd.func6, Tryd.ntmps6
  go_wp2_with (first
    | (go_at_call 8; (with_reducible refine (head_op _ hLaid).mono ?_); rintro e w0 ⟨rfl, hb⟩; replace hB := bt hB hb; clear hb)
    | (go_at_call 9; (with_reducible refine (c1 _ ?_).mono ?_); (first | (with_reducible exact hLaid.below hB) | (with_reducible exact (hLaid.below hB).alloc _) | (with_reducible exact ((hLaid.below hB).alloc _).alloc _)); rintro e w1 ⟨rfl, hb⟩; replace hB := bt hB hb; clear hb)
    | (go_at_call 9; (with_reducible refine (c2 _ ?_).mono ?_); (first | (with_reducible exact hLaid.below hB) | (with_reducible exact (hLaid.below hB).alloc _) | (with_reducible exact ((hLaid.below hB).alloc _).alloc _)); rintro e w2 ⟨rfl, hb⟩; have ⟨_, r0, r1, r2, r3⟩ := (At4.new _ _ _ _ _ _).below hb; replace hB := bta hB hb; clear hb))
  go_quiet (fail)
  go_wp2
  go_ret
  exact ⟨by first | rfl | exact ret_true (by decide), (hB.alloc hB.size _).trans ⟨rfl, rfl, rfl, Nat.le_refl _, fun _ _ => rfl⟩⟩

set_option maxRecDepth 100000 in
set_option maxHeartbeats 4000000 in
theorem twins_21 (m : Int) (h0 : 0 ≤ m) (h1 : m ≤ 255) (hm : m % 29 = 21) (w : World) (hLaid : Laid w) :
    Calls Tryd.prog 6 #[.int .u8 m] w fun e w' => e = .returned (.bool true) ∧ Below w.heap.size w w' := by
  have e1 : byCode 113 = some ⟨113, ⟨#[105, 51, 50, 46, 97, 110, 100]⟩, 0, ⟨#[127, 127]⟩, ⟨#[127]⟩⟩ := by rfl
  have e2 : byCode 131 = some ⟨131, ⟨#[105, 54, 52, 46, 97, 110, 100]⟩, 0, ⟨#[126, 126]⟩, ⟨#[126]⟩⟩ := by rfl
  have c1 := op_of_is 113 (n := ⟨#[105, 51, 50, 46, 97, 110, 100]⟩) (s := 0) (p := ⟨#[127, 127]⟩) (r := ⟨#[127]⟩) (ok := true) (by omega) (by rw [e1]; rfl) (by rw [e1]; rfl)
  have c2 := op_of_is 131 (n := ⟨#[105, 54, 52, 46, 97, 110, 100]⟩) (s := 0) (p := ⟨#[126, 126]⟩) (r := ⟨#[126]⟩) (ok := true) (by omega) (by rw [e2]; rfl) (by rw [e2]; rfl)
  have f1 : (⟨#[105, 51, 50, 46, 97, 110, 100]⟩ : ByteArray).extract 4 7 = ⟨#[97, 110, 100]⟩ := by rfl
  have f2 : (⟨#[105, 54, 52, 46, 97, 110, 100]⟩ : ByteArray).extract 4 7 = ⟨#[97, 110, 100]⟩ := by rfl
  have f3 : (⟨#[105, 51, 50, 46, 97, 110, 100]⟩ : ByteArray).extract 0 4 = ⟨#[105, 51, 50, 46]⟩ := by rfl
  have f4 : (⟨#[105, 54, 52, 46, 97, 110, 100]⟩ : ByteArray).extract 0 4 = ⟨#[105, 54, 52, 46]⟩ := by rfl
  clear e1 e2
  have hB := Below.refl w.heap.size w
  go_enter Tryd.func6, Tryd.ntmps6
  go_wp2_with (first
    | (go_at_call 8; (with_reducible refine (head_op _ hLaid).mono ?_); rintro e w0 ⟨rfl, hb⟩; replace hB := bt hB hb; clear hb)
    | (go_at_call 9; (with_reducible refine (c1 _ ?_).mono ?_); (first | (with_reducible exact hLaid.below hB) | (with_reducible exact (hLaid.below hB).alloc _) | (with_reducible exact ((hLaid.below hB).alloc _).alloc _)); rintro e w1 ⟨rfl, hb⟩; replace hB := bt hB hb; clear hb)
    | (go_at_call 9; (with_reducible refine (c2 _ ?_).mono ?_); (first | (with_reducible exact hLaid.below hB) | (with_reducible exact (hLaid.below hB).alloc _) | (with_reducible exact ((hLaid.below hB).alloc _).alloc _)); rintro e w2 ⟨rfl, hb⟩; have ⟨_, r0, r1, r2, r3⟩ := (At4.new _ _ _ _ _ _).below hb; replace hB := bta hB hb; clear hb))
  go_quiet (fail)
  go_wp2
  go_ret
  exact ⟨by first | rfl | exact ret_true (by decide), (hB.alloc hB.size _).trans ⟨rfl, rfl, rfl, Nat.le_refl _, fun _ _ => rfl⟩⟩

set_option maxRecDepth 100000 in
set_option maxHeartbeats 4000000 in
theorem twins_22 (m : Int) (h0 : 0 ≤ m) (h1 : m ≤ 255) (hm : m % 29 = 22) (w : World) (hLaid : Laid w) :
    Calls Tryd.prog 6 #[.int .u8 m] w fun e w' => e = .returned (.bool true) ∧ Below w.heap.size w w' := by
  have e1 : byCode 114 = some ⟨114, ⟨#[105, 51, 50, 46, 111, 114]⟩, 0, ⟨#[127, 127]⟩, ⟨#[127]⟩⟩ := by rfl
  have e2 : byCode 132 = some ⟨132, ⟨#[105, 54, 52, 46, 111, 114]⟩, 0, ⟨#[126, 126]⟩, ⟨#[126]⟩⟩ := by rfl
  have c1 := op_of_is 114 (n := ⟨#[105, 51, 50, 46, 111, 114]⟩) (s := 0) (p := ⟨#[127, 127]⟩) (r := ⟨#[127]⟩) (ok := true) (by omega) (by rw [e1]; rfl) (by rw [e1]; rfl)
  have c2 := op_of_is 132 (n := ⟨#[105, 54, 52, 46, 111, 114]⟩) (s := 0) (p := ⟨#[126, 126]⟩) (r := ⟨#[126]⟩) (ok := true) (by omega) (by rw [e2]; rfl) (by rw [e2]; rfl)
  have f1 : (⟨#[105, 51, 50, 46, 111, 114]⟩ : ByteArray).extract 4 6 = ⟨#[111, 114]⟩ := by rfl
  have f2 : (⟨#[105, 54, 52, 46, 111, 114]⟩ : ByteArray).extract 4 6 = ⟨#[111, 114]⟩ := by rfl
  have f3 : (⟨#[105, 51, 50, 46, 111, 114]⟩ : ByteArray).extract 0 4 = ⟨#[105, 51, 50, 46]⟩ := by rfl
  have f4 : (⟨#[105, 54, 52, 46, 111, 114]⟩ : ByteArray).extract 0 4 = ⟨#[105, 54, 52, 46]⟩ := by rfl
  clear e1 e2
  have hB := Below.refl w.heap.size w
  go_enter Tryd.func6, Tryd.ntmps6
  go_wp2_with (first
    | (go_at_call 8; (with_reducible refine (head_op _ hLaid).mono ?_); rintro e w0 ⟨rfl, hb⟩; replace hB := bt hB hb; clear hb)
    | (go_at_call 9; (with_reducible refine (c1 _ ?_).mono ?_); (first | (with_reducible exact hLaid.below hB) | (with_reducible exact (hLaid.below hB).alloc _) | (with_reducible exact ((hLaid.below hB).alloc _).alloc _)); rintro e w1 ⟨rfl, hb⟩; replace hB := bt hB hb; clear hb)
    | (go_at_call 9; (with_reducible refine (c2 _ ?_).mono ?_); (first | (with_reducible exact hLaid.below hB) | (with_reducible exact (hLaid.below hB).alloc _) | (with_reducible exact ((hLaid.below hB).alloc _).alloc _)); rintro e w2 ⟨rfl, hb⟩; have ⟨_, r0, r1, r2, r3⟩ := (At4.new _ _ _ _ _ _).below hb; replace hB := bta hB hb; clear hb))
  go_quiet (fail)
  go_wp2
  go_ret
  exact ⟨by first | rfl | exact ret_true (by decide), (hB.alloc hB.size _).trans ⟨rfl, rfl, rfl, Nat.le_refl _, fun _ _ => rfl⟩⟩

set_option maxRecDepth 100000 in
set_option maxHeartbeats 4000000 in
theorem twins_23 (m : Int) (h0 : 0 ≤ m) (h1 : m ≤ 255) (hm : m % 29 = 23) (w : World) (hLaid : Laid w) :
    Calls Tryd.prog 6 #[.int .u8 m] w fun e w' => e = .returned (.bool true) ∧ Below w.heap.size w w' := by
  have e1 : byCode 115 = some ⟨115, ⟨#[105, 51, 50, 46, 120, 111, 114]⟩, 0, ⟨#[127, 127]⟩, ⟨#[127]⟩⟩ := by rfl
  have e2 : byCode 133 = some ⟨133, ⟨#[105, 54, 52, 46, 120, 111, 114]⟩, 0, ⟨#[126, 126]⟩, ⟨#[126]⟩⟩ := by rfl
  have c1 := op_of_is 115 (n := ⟨#[105, 51, 50, 46, 120, 111, 114]⟩) (s := 0) (p := ⟨#[127, 127]⟩) (r := ⟨#[127]⟩) (ok := true) (by omega) (by rw [e1]; rfl) (by rw [e1]; rfl)
  have c2 := op_of_is 133 (n := ⟨#[105, 54, 52, 46, 120, 111, 114]⟩) (s := 0) (p := ⟨#[126, 126]⟩) (r := ⟨#[126]⟩) (ok := true) (by omega) (by rw [e2]; rfl) (by rw [e2]; rfl)
  have f1 : (⟨#[105, 51, 50, 46, 120, 111, 114]⟩ : ByteArray).extract 4 7 = ⟨#[120, 111, 114]⟩ := by rfl
  have f2 : (⟨#[105, 54, 52, 46, 120, 111, 114]⟩ : ByteArray).extract 4 7 = ⟨#[120, 111, 114]⟩ := by rfl
  have f3 : (⟨#[105, 51, 50, 46, 120, 111, 114]⟩ : ByteArray).extract 0 4 = ⟨#[105, 51, 50, 46]⟩ := by rfl
  have f4 : (⟨#[105, 54, 52, 46, 120, 111, 114]⟩ : ByteArray).extract 0 4 = ⟨#[105, 54, 52, 46]⟩ := by rfl
  clear e1 e2
  have hB := Below.refl w.heap.size w
  go_enter Tryd.func6, Tryd.ntmps6
  go_wp2_with (first
    | (go_at_call 8; (with_reducible refine (head_op _ hLaid).mono ?_); rintro e w0 ⟨rfl, hb⟩; replace hB := bt hB hb; clear hb)
    | (go_at_call 9; (with_reducible refine (c1 _ ?_).mono ?_); (first | (with_reducible exact hLaid.below hB) | (with_reducible exact (hLaid.below hB).alloc _) | (with_reducible exact ((hLaid.below hB).alloc _).alloc _)); rintro e w1 ⟨rfl, hb⟩; replace hB := bt hB hb; clear hb)
    | (go_at_call 9; (with_reducible refine (c2 _ ?_).mono ?_); (first | (with_reducible exact hLaid.below hB) | (with_reducible exact (hLaid.below hB).alloc _) | (with_reducible exact ((hLaid.below hB).alloc _).alloc _)); rintro e w2 ⟨rfl, hb⟩; have ⟨_, r0, r1, r2, r3⟩ := (At4.new _ _ _ _ _ _).below hb; replace hB := bta hB hb; clear hb))
  go_quiet (fail)
  go_wp2
  go_ret
  exact ⟨by first | rfl | exact ret_true (by decide), (hB.alloc hB.size _).trans ⟨rfl, rfl, rfl, Nat.le_refl _, fun _ _ => rfl⟩⟩

set_option maxRecDepth 100000 in
set_option maxHeartbeats 4000000 in
theorem twins_24 (m : Int) (h0 : 0 ≤ m) (h1 : m ≤ 255) (hm : m % 29 = 24) (w : World) (hLaid : Laid w) :
    Calls Tryd.prog 6 #[.int .u8 m] w fun e w' => e = .returned (.bool true) ∧ Below w.heap.size w w' := by
  have e1 : byCode 116 = some ⟨116, ⟨#[105, 51, 50, 46, 115, 104, 108]⟩, 0, ⟨#[127, 127]⟩, ⟨#[127]⟩⟩ := by rfl
  have e2 : byCode 134 = some ⟨134, ⟨#[105, 54, 52, 46, 115, 104, 108]⟩, 0, ⟨#[126, 126]⟩, ⟨#[126]⟩⟩ := by rfl
  have c1 := op_of_is 116 (n := ⟨#[105, 51, 50, 46, 115, 104, 108]⟩) (s := 0) (p := ⟨#[127, 127]⟩) (r := ⟨#[127]⟩) (ok := true) (by omega) (by rw [e1]; rfl) (by rw [e1]; rfl)
  have c2 := op_of_is 134 (n := ⟨#[105, 54, 52, 46, 115, 104, 108]⟩) (s := 0) (p := ⟨#[126, 126]⟩) (r := ⟨#[126]⟩) (ok := true) (by omega) (by rw [e2]; rfl) (by rw [e2]; rfl)
  have f1 : (⟨#[105, 51, 50, 46, 115, 104, 108]⟩ : ByteArray).extract 4 7 = ⟨#[115, 104, 108]⟩ := by rfl
  have f2 : (⟨#[105, 54, 52, 46, 115, 104, 108]⟩ : ByteArray).extract 4 7 = ⟨#[115, 104, 108]⟩ := by rfl
  have f3 : (⟨#[105, 51, 50, 46, 115, 104, 108]⟩ : ByteArray).extract 0 4 = ⟨#[105, 51, 50, 46]⟩ := by rfl
  have f4 : (⟨#[105, 54, 52, 46, 115, 104, 108]⟩ : ByteArray).extract 0 4 = ⟨#[105, 54, 52, 46]⟩ := by rfl
  clear e1 e2
  have hB := Below.refl w.heap.size w
  go_enter Tryd.func6, Tryd.ntmps6
  go_wp2_with (first
    | (go_at_call 8; (with_reducible refine (head_op _ hLaid).mono ?_); rintro e w0 ⟨rfl, hb⟩; replace hB := bt hB hb; clear hb)
    | (go_at_call 9; (with_reducible refine (c1 _ ?_).mono ?_); (first | (with_reducible exact hLaid.below hB) | (with_reducible exact (hLaid.below hB).alloc _) | (with_reducible exact ((hLaid.below hB).alloc _).alloc _)); rintro e w1 ⟨rfl, hb⟩; replace hB := bt hB hb; clear hb)
    | (go_at_call 9; (with_reducible refine (c2 _ ?_).mono ?_); (first | (with_reducible exact hLaid.below hB) | (with_reducible exact (hLaid.below hB).alloc _) | (with_reducible exact ((hLaid.below hB).alloc _).alloc _)); rintro e w2 ⟨rfl, hb⟩; have ⟨_, r0, r1, r2, r3⟩ := (At4.new _ _ _ _ _ _).below hb; replace hB := bta hB hb; clear hb))
  go_quiet (fail)
  go_wp2
  go_ret
  exact ⟨by first | rfl | exact ret_true (by decide), (hB.alloc hB.size _).trans ⟨rfl, rfl, rfl, Nat.le_refl _, fun _ _ => rfl⟩⟩

set_option maxRecDepth 100000 in
set_option maxHeartbeats 4000000 in
theorem twins_25 (m : Int) (h0 : 0 ≤ m) (h1 : m ≤ 255) (hm : m % 29 = 25) (w : World) (hLaid : Laid w) :
    Calls Tryd.prog 6 #[.int .u8 m] w fun e w' => e = .returned (.bool true) ∧ Below w.heap.size w w' := by
  have e1 : byCode 117 = some ⟨117, ⟨#[105, 51, 50, 46, 115, 104, 114, 95, 115]⟩, 0, ⟨#[127, 127]⟩, ⟨#[127]⟩⟩ := by rfl
  have e2 : byCode 135 = some ⟨135, ⟨#[105, 54, 52, 46, 115, 104, 114, 95, 115]⟩, 0, ⟨#[126, 126]⟩, ⟨#[126]⟩⟩ := by rfl
  have c1 := op_of_is 117 (n := ⟨#[105, 51, 50, 46, 115, 104, 114, 95, 115]⟩) (s := 0) (p := ⟨#[127, 127]⟩) (r := ⟨#[127]⟩) (ok := true) (by omega) (by rw [e1]; rfl) (by rw [e1]; rfl)
  have c2 := op_of_is 135 (n := ⟨#[105, 54, 52, 46, 115, 104, 114, 95, 115]⟩) (s := 0) (p := ⟨#[126, 126]⟩) (r := ⟨#[126]⟩) (ok := true) (by omega) (by rw [e2]; rfl) (by rw [e2]; rfl)
  have f1 : (⟨#[105, 51, 50, 46, 115, 104, 114, 95, 115]⟩ : ByteArray).extract 4 9 = ⟨#[115, 104, 114, 95, 115]⟩ := by rfl
  have f2 : (⟨#[105, 54, 52, 46, 115, 104, 114, 95, 115]⟩ : ByteArray).extract 4 9 = ⟨#[115, 104, 114, 95, 115]⟩ := by rfl
  have f3 : (⟨#[105, 51, 50, 46, 115, 104, 114, 95, 115]⟩ : ByteArray).extract 0 4 = ⟨#[105, 51, 50, 46]⟩ := by rfl
  have f4 : (⟨#[105, 54, 52, 46, 115, 104, 114, 95, 115]⟩ : ByteArray).extract 0 4 = ⟨#[105, 54, 52, 46]⟩ := by rfl
  clear e1 e2
  have hB := Below.refl w.heap.size w
  go_enter Tryd.func6, Tryd.ntmps6
  go_wp2_with (first
    | (go_at_call 8; (with_reducible refine (head_op _ hLaid).mono ?_); rintro e w0 ⟨rfl, hb⟩; replace hB := bt hB hb; clear hb)
    | (go_at_call 9; (with_reducible refine (c1 _ ?_).mono ?_); (first | (with_reducible exact hLaid.below hB) | (with_reducible exact (hLaid.below hB).alloc _) | (with_reducible exact ((hLaid.below hB).alloc _).alloc _)); rintro e w1 ⟨rfl, hb⟩; replace hB := bt hB hb; clear hb)
    | (go_at_call 9; (with_reducible refine (c2 _ ?_).mono ?_); (first | (with_reducible exact hLaid.below hB) | (with_reducible exact (hLaid.below hB).alloc _) | (with_reducible exact ((hLaid.below hB).alloc _).alloc _)); rintro e w2 ⟨rfl, hb⟩; have ⟨_, r0, r1, r2, r3⟩ := (At4.new _ _ _ _ _ _).below hb; replace hB := bta hB hb; clear hb))
  go_quiet (fail)
  go_wp2
  go_ret
  exact ⟨by first | rfl | exact ret_true (by decide), (hB.alloc hB.size _).trans ⟨rfl, rfl, rfl, Nat.le_refl _, fun _ _ => rfl⟩⟩

set_option maxRecDepth 100000 in
set_option maxHeartbeats 4000000 in
theorem twins_26 (m : Int) (h0 : 0 ≤ m) (h1 : m ≤ 255) (hm : m % 29 = 26) (w : World) (hLaid : Laid w) :
    Calls Tryd.prog 6 #[.int .u8 m] w fun e w' => e = .returned (.bool true) ∧ Below w.heap.size w w' := by
  have e1 : byCode 118 = some ⟨118, ⟨#[105, 51, 50, 46, 115, 104, 114, 95, 117]⟩, 0, ⟨#[127, 127]⟩, ⟨#[127]⟩⟩ := by rfl
  have e2 : byCode 136 = some ⟨136, ⟨#[105, 54, 52, 46, 115, 104, 114, 95, 117]⟩, 0, ⟨#[126, 126]⟩, ⟨#[126]⟩⟩ := by rfl
  have c1 := op_of_is 118 (n := ⟨#[105, 51, 50, 46, 115, 104, 114, 95, 117]⟩) (s := 0) (p := ⟨#[127, 127]⟩) (r := ⟨#[127]⟩) (ok := true) (by omega) (by rw [e1]; rfl) (by rw [e1]; rfl)
  have c2 := op_of_is 136 (n := ⟨#[105, 54, 52, 46, 115, 104, 114, 95, 117]⟩) (s := 0) (p := ⟨#[126, 126]⟩) (r := ⟨#[126]⟩) (ok := true) (by omega) (by rw [e2]; rfl) (by rw [e2]; rfl)
  have f1 : (⟨#[105, 51, 50, 46, 115, 104, 114, 95, 117]⟩ : ByteArray).extract 4 9 = ⟨#[115, 104, 114, 95, 117]⟩ := by rfl
  have f2 : (⟨#[105, 54, 52, 46, 115, 104, 114, 95, 117]⟩ : ByteArray).extract 4 9 = ⟨#[115, 104, 114, 95, 117]⟩ := by rfl
  have f3 : (⟨#[105, 51, 50, 46, 115, 104, 114, 95, 117]⟩ : ByteArray).extract 0 4 = ⟨#[105, 51, 50, 46]⟩ := by rfl
  have f4 : (⟨#[105, 54, 52, 46, 115, 104, 114, 95, 117]⟩ : ByteArray).extract 0 4 = ⟨#[105, 54, 52, 46]⟩ := by rfl
  clear e1 e2
  have hB := Below.refl w.heap.size w
  go_enter Tryd.func6, Tryd.ntmps6
  go_wp2_with (first
    | (go_at_call 8; (with_reducible refine (head_op _ hLaid).mono ?_); rintro e w0 ⟨rfl, hb⟩; replace hB := bt hB hb; clear hb)
    | (go_at_call 9; (with_reducible refine (c1 _ ?_).mono ?_); (first | (with_reducible exact hLaid.below hB) | (with_reducible exact (hLaid.below hB).alloc _) | (with_reducible exact ((hLaid.below hB).alloc _).alloc _)); rintro e w1 ⟨rfl, hb⟩; replace hB := bt hB hb; clear hb)
    | (go_at_call 9; (with_reducible refine (c2 _ ?_).mono ?_); (first | (with_reducible exact hLaid.below hB) | (with_reducible exact (hLaid.below hB).alloc _) | (with_reducible exact ((hLaid.below hB).alloc _).alloc _)); rintro e w2 ⟨rfl, hb⟩; have ⟨_, r0, r1, r2, r3⟩ := (At4.new _ _ _ _ _ _).below hb; replace hB := bta hB hb; clear hb))
  go_quiet (fail)
  go_wp2
  go_ret
  exact ⟨by first | rfl | exact ret_true (by decide), (hB.alloc hB.size _).trans ⟨rfl, rfl, rfl, Nat.le_refl _, fun _ _ => rfl⟩⟩

set_option maxRecDepth 100000 in
set_option maxHeartbeats 4000000 in
theorem twins_27 (m : Int) (h0 : 0 ≤ m) (h1 : m ≤ 255) (hm : m % 29 = 27) (w : World) (hLaid : Laid w) :
    Calls Tryd.prog 6 #[.int .u8 m] w fun e w' => e = .returned (.bool true) ∧ Below w.heap.size w w' := by
  have e1 : byCode 119 = some ⟨119, ⟨#[105, 51, 50, 46, 114, 111, 116, 108]⟩, 0, ⟨#[127, 127]⟩, ⟨#[127]⟩⟩ := by rfl
  have e2 : byCode 137 = some ⟨137, ⟨#[105, 54, 52, 46, 114, 111, 116, 108]⟩, 0, ⟨#[126, 126]⟩, ⟨#[126]⟩⟩ := by rfl
  have c1 := op_of_is 119 (n := ⟨#[105, 51, 50, 46, 114, 111, 116, 108]⟩) (s := 0) (p := ⟨#[127, 127]⟩) (r := ⟨#[127]⟩) (ok := true) (by omega) (by rw [e1]; rfl) (by rw [e1]; rfl)
  have c2 := op_of_is 137 (n := ⟨#[105, 54, 52, 46, 114, 111, 116, 108]⟩) (s := 0) (p := ⟨#[126, 126]⟩) (r := ⟨#[126]⟩) (ok := true) (by omega) (by rw [e2]; rfl) (by rw [e2]; rfl)
  have f1 : (⟨#[105, 51, 50, 46, 114, 111, 116, 108]⟩ : ByteArray).extract 4 8 = ⟨#[114, 111, 116, 108]⟩ := by rfl
  have f2 : (⟨#[105, 54, 52, 46, 114, 111, 116, 108]⟩ : ByteArray).extract 4 8 = ⟨#[114, 111, 116, 108]⟩ := by rfl
  have f3 : (⟨#[105, 51, 50, 46, 114, 111, 116, 108]⟩ : ByteArray).extract 0 4 = ⟨#[105, 51, 50, 46]⟩ := by rfl
  have f4 : (⟨#[105, 54, 52, 46, 114, 111, 116, 108]⟩ : ByteArray).extract 0 4 = ⟨#[105, 54, 52, 46]⟩ := by rfl
  clear e1 e2
  have hB := Below.refl w.heap.size w
  go_enter Tryd.func6, Tryd.ntmps6
  go_wp2_with (first
    | (go_at_call 8; (with_reducible refine (head_op _ hLaid).mono ?_); rintro e w0 ⟨rfl, hb⟩; replace hB := bt hB hb; clear hb)
    | (go_at_call 9; (with_reducible refine (c1 _ ?_).mono ?_); (first | (with_reducible exact hLaid.below hB) | (with_reducible exact (hLaid.below hB).alloc _) | (with_reducible exact ((hLaid.below hB).alloc _).alloc _)); rintro e w1 ⟨rfl, hb⟩; replace hB := bt hB hb; clear hb)
    | (go_at_call 9; (with_reducible refine (c2 _ ?_).mono ?_); (first | (with_reducible exact hLaid.below hB) | (with_reducible exact (hLaid.below hB).alloc _) | (with_reducible exact ((hLaid.below hB).alloc _).alloc _)); rintro e w2 ⟨rfl, hb⟩; have ⟨_, r0, r1, r2, r3⟩ := (At4.new _ _ _ _ _ _).below hb; replace hB := bta hB hb; clear hb))
  go_quiet (fail)
  go_wp2
  go_ret
  exact ⟨by first | rfl | exact ret_true (by decide), (hB.alloc hB.size _).trans ⟨rfl, rfl, rfl, Nat.le_refl _, fun _ _ => rfl⟩⟩

set_option maxRecDepth 100000 in
set_option maxHeartbeats 4000000 in
theorem twins_28 (m : Int) (h0 : 0 ≤ m) (h1 : m ≤ 255) (hm : m % 29 = 28) (w : World) (hLaid : Laid w) :
    Calls Tryd.prog 6 #[.int .u8 m] w fun e w' => e = .returned (.bool true) ∧ Below w.heap.size w w' := by
  have e1 : byCode 120 = some ⟨120, ⟨#[105, 51, 50, 46, 114, 111, 116, 114]⟩, 0, ⟨#[127, 127]⟩, ⟨#[127]⟩⟩ := by rfl
  have e2 : byCode 138 = some ⟨138, ⟨#[105, 54, 52, 46, 114, 111, 116, 114]⟩, 0, ⟨#[126, 126]⟩, ⟨#[126]⟩⟩ := by rfl
  have c1 := op_of_is 120 (n := ⟨#[105, 51, 50, 46, 114, 111, 116, 114]⟩) (s := 0) (p := ⟨#[127, 127]⟩) (r := ⟨#[127]⟩) (ok := true) (by omega) (by rw [e1]; rfl) (by rw [e1]; rfl)
  have c2 := op_of_is 138 (n := ⟨#[105, 54, 52, 46, 114, 111, 116, 114]⟩) (s := 0) (p := ⟨#[126, 126]⟩) (r := ⟨#[126]⟩) (ok := true) (by omega) (by rw [e2]; rfl) (by rw [e2]; rfl)
  have f1 : (⟨#[105, 51, 50, 46, 114, 111, 116, 114]⟩ : ByteArray).extract 4 8 = ⟨#[114, 111, 116, 114]⟩ := by rfl
  have f2 : (⟨#[105, 54, 52, 46, 114, 111, 116, 114]⟩ : ByteArray).extract 4 8 = ⟨#[114, 111, 116, 114]⟩ := by rfl
  have f3 : (⟨#[105, 51, 50, 46, 114, 111, 116, 114]⟩ : ByteArray).extract 0 4 = ⟨#[105, 51, 50, 46]⟩ := by rfl
  have f4 : (⟨#[105, 54, 52, 46, 114, 111, 116, 114]⟩ : ByteArray).extract 0 4 = ⟨#[105, 54, 52, 46]⟩ := by rfl
  clear e1 e2
  have hB := Below.refl w.heap.size w
  go_enter Tryd.func6, Tryd.ntmps6
  go_wp2_with (first
    | (go_at_call 8; (with_reducible refine (head_op _ hLaid).mono ?_); rintro e w0 ⟨rfl, hb⟩; replace hB := bt hB hb; clear hb)
    | (go_at_call 9; (with_reducible refine (c1 _ ?_).mono ?_); (first | (with_reducible exact hLaid.below hB) | (with_reducible exact (hLaid.below hB).alloc _) | (with_reducible exact ((hLaid.below hB).alloc _).alloc _)); rintro e w1 ⟨rfl, hb⟩; replace hB := bt hB hb; clear hb)
    | (go_at_call 9; (with_reducible refine (c2 _ ?_).mono ?_); (first | (with_reducible exact hLaid.below hB) | (with_reducible exact (hLaid.below hB).alloc _) | (with_reducible exact ((hLaid.below hB).alloc _).alloc _)); rintro e w2 ⟨rfl, hb⟩; have ⟨_, r0, r1, r2, r3⟩ := (At4.new _ _ _ _ _ _).below hb; replace hB := bta hB hb; clear hb))
  go_quiet (fail)
  go_wp2
  go_ret
  exact ⟨by first | rfl | exact ret_true (by decide), (hB.alloc hB.size _).trans ⟨rfl, rfl, rfl, Nat.le_refl _, fun _ _ => rfl⟩⟩

theorem opTwins_walk (m : Int) (h0 : 0 ≤ m) (h1 : m ≤ 255) (w : World) (hLaid : Laid w) :
    Calls Tryd.prog 6 #[.int .u8 m] w fun e w' => e = .returned (.bool true) ∧ Below w.heap.size w w' := by
  rcases (show m % 29 = 0 ∨ m % 29 = 1 ∨ m % 29 = 2 ∨ m % 29 = 3 ∨ m % 29 = 4 ∨ m % 29 = 5 ∨ m % 29 = 6 ∨ m % 29 = 7 ∨ m % 29 = 8 ∨ m % 29 = 9 ∨ m % 29 = 10 ∨ m % 29 = 11 ∨ m % 29 = 12 ∨ m % 29 = 13 ∨ m % 29 = 14 ∨ m % 29 = 15 ∨ m % 29 = 16 ∨ m % 29 = 17 ∨ m % 29 = 18 ∨ m % 29 = 19 ∨ m % 29 = 20 ∨ m % 29 = 21 ∨ m % 29 = 22 ∨ m % 29 = 23 ∨ m % 29 = 24 ∨ m % 29 = 25 ∨ m % 29 = 26 ∨ m % 29 = 27 ∨ m % 29 = 28 by omega) with h | h | h | h | h | h | h | h | h | h | h | h | h | h | h | h | h | h | h | h | h | h | h | h | h | h | h | h | h
  · exact twins_0 m h0 h1 h w hLaid
  · exact twins_1 m h0 h1 h w hLaid
  · exact twins_2 m h0 h1 h w hLaid
  · exact twins_3 m h0 h1 h w hLaid
  · exact twins_4 m h0 h1 h w hLaid
  · exact twins_5 m h0 h1 h w hLaid
  · exact twins_6 m h0 h1 h w hLaid
  · exact twins_7 m h0 h1 h w hLaid
  · exact twins_8 m h0 h1 h w hLaid
  · exact twins_9 m h0 h1 h w hLaid
  · exact twins_10 m h0 h1 h w hLaid
  · exact twins_11 m h0 h1 h w hLaid
  · exact twins_12 m h0 h1 h w hLaid
  · exact twins_13 m h0 h1 h w hLaid
  · exact twins_14 m h0 h1 h w hLaid
  · exact twins_15 m h0 h1 h w hLaid
  · exact twins_16 m h0 h1 h w hLaid
  · exact twins_17 m h0 h1 h w hLaid
  · exact twins_18 m h0 h1 h w hLaid
  · exact twins_19 m h0 h1 h w hLaid
  · exact twins_20 m h0 h1 h w hLaid
  · exact twins_21 m h0 h1 h w hLaid
  · exact twins_22 m h0 h1 h w hLaid
  · exact twins_23 m h0 h1 h w hLaid
  · exact twins_24 m h0 h1 h w hLaid
  · exact twins_25 m h0 h1 h w hLaid
  · exact twins_26 m h0 h1 h w hLaid
  · exact twins_27 m h0 h1 h w hLaid
  · exact twins_28 m h0 h1 h w hLaid
end Go.Proofs.YtjpcobfaojjceaaDoor
