/-
  Contracts of Not, And, Or by their three values; the cells that ValueLogic reads. No statement is proved here.
-/
import Derived.Test.YtfjoobopfjahcaaDoorVuHead
import Derived.Test.YtfjoobopfjahcaaDoorVuLogic
namespace Go.Proofs.YtfjoobopfjahcaaDoor
open Go.RowKit

theorem not_F (w : World) (hT : Tru w) : Calls Tryd.prog 22 #[.agg #[.bool false, .int .i64 0, .string ⟨#[]⟩]] w fun e w' => e = .returned (.agg #[.bool false, .int .i64 1, .string ⟨#[]⟩]) ∧ Below w.heap.size w w' := val_not false 0 ⟨#[]⟩ w hT
theorem not_N (w : World) (hT : Tru w) : Calls Tryd.prog 22 #[.agg #[.bool true, .int .i64 0, .string ⟨#[]⟩]] w fun e w' => e = .returned (.agg #[.bool true, .int .i64 0, .string ⟨#[]⟩]) ∧ Below w.heap.size w w' := val_not true 0 ⟨#[]⟩ w hT
theorem not_T (w : World) (hT : Tru w) : Calls Tryd.prog 22 #[.agg #[.bool false, .int .i64 1, .string ⟨#[]⟩]] w fun e w' => e = .returned (.agg #[.bool false, .int .i64 0, .string ⟨#[]⟩]) ∧ Below w.heap.size w w' := val_not false 1 ⟨#[]⟩ w hT
theorem and_FF (w : World) (hT : Tru w) : Calls Tryd.prog 23 #[.agg #[.bool false, .int .i64 0, .string ⟨#[]⟩], .agg #[.bool false, .int .i64 0, .string ⟨#[]⟩]] w fun e w' => e = .returned (.agg #[.bool false, .int .i64 0, .string ⟨#[]⟩]) ∧ Below w.heap.size w w' := val_and false 0 ⟨#[]⟩ false 0 ⟨#[]⟩ w hT
theorem and_FN (w : World) (hT : Tru w) : Calls Tryd.prog 23 #[.agg #[.bool false, .int .i64 0, .string ⟨#[]⟩], .agg #[.bool true, .int .i64 0, .string ⟨#[]⟩]] w fun e w' => e = .returned (.agg #[.bool false, .int .i64 0, .string ⟨#[]⟩]) ∧ Below w.heap.size w w' := val_and false 0 ⟨#[]⟩ true 0 ⟨#[]⟩ w hT
theorem and_FT (w : World) (hT : Tru w) : Calls Tryd.prog 23 #[.agg #[.bool false, .int .i64 0, .string ⟨#[]⟩], .agg #[.bool false, .int .i64 1, .string ⟨#[]⟩]] w fun e w' => e = .returned (.agg #[.bool false, .int .i64 0, .string ⟨#[]⟩]) ∧ Below w.heap.size w w' := val_and false 0 ⟨#[]⟩ false 1 ⟨#[]⟩ w hT
theorem and_NF (w : World) (hT : Tru w) : Calls Tryd.prog 23 #[.agg #[.bool true, .int .i64 0, .string ⟨#[]⟩], .agg #[.bool false, .int .i64 0, .string ⟨#[]⟩]] w fun e w' => e = .returned (.agg #[.bool false, .int .i64 0, .string ⟨#[]⟩]) ∧ Below w.heap.size w w' := val_and true 0 ⟨#[]⟩ false 0 ⟨#[]⟩ w hT
theorem and_NN (w : World) (hT : Tru w) : Calls Tryd.prog 23 #[.agg #[.bool true, .int .i64 0, .string ⟨#[]⟩], .agg #[.bool true, .int .i64 0, .string ⟨#[]⟩]] w fun e w' => e = .returned (.agg #[.bool true, .int .i64 0, .string ⟨#[]⟩]) ∧ Below w.heap.size w w' := val_and true 0 ⟨#[]⟩ true 0 ⟨#[]⟩ w hT
theorem and_NT (w : World) (hT : Tru w) : Calls Tryd.prog 23 #[.agg #[.bool true, .int .i64 0, .string ⟨#[]⟩], .agg #[.bool false, .int .i64 1, .string ⟨#[]⟩]] w fun e w' => e = .returned (.agg #[.bool true, .int .i64 0, .string ⟨#[]⟩]) ∧ Below w.heap.size w w' := val_and true 0 ⟨#[]⟩ false 1 ⟨#[]⟩ w hT
theorem and_TF (w : World) (hT : Tru w) : Calls Tryd.prog 23 #[.agg #[.bool false, .int .i64 1, .string ⟨#[]⟩], .agg #[.bool false, .int .i64 0, .string ⟨#[]⟩]] w fun e w' => e = .returned (.agg #[.bool false, .int .i64 0, .string ⟨#[]⟩]) ∧ Below w.heap.size w w' := val_and false 1 ⟨#[]⟩ false 0 ⟨#[]⟩ w hT
theorem and_TN (w : World) (hT : Tru w) : Calls Tryd.prog 23 #[.agg #[.bool false, .int .i64 1, .string ⟨#[]⟩], .agg #[.bool true, .int .i64 0, .string ⟨#[]⟩]] w fun e w' => e = .returned (.agg #[.bool true, .int .i64 0, .string ⟨#[]⟩]) ∧ Below w.heap.size w w' := val_and false 1 ⟨#[]⟩ true 0 ⟨#[]⟩ w hT
theorem and_TT (w : World) (hT : Tru w) : Calls Tryd.prog 23 #[.agg #[.bool false, .int .i64 1, .string ⟨#[]⟩], .agg #[.bool false, .int .i64 1, .string ⟨#[]⟩]] w fun e w' => e = .returned (.agg #[.bool false, .int .i64 1, .string ⟨#[]⟩]) ∧ Below w.heap.size w w' := val_and false 1 ⟨#[]⟩ false 1 ⟨#[]⟩ w hT
theorem or_FF (w : World) (hT : Tru w) : Calls Tryd.prog 24 #[.agg #[.bool false, .int .i64 0, .string ⟨#[]⟩], .agg #[.bool false, .int .i64 0, .string ⟨#[]⟩]] w fun e w' => e = .returned (.agg #[.bool false, .int .i64 0, .string ⟨#[]⟩]) ∧ Below w.heap.size w w' := val_or false 0 ⟨#[]⟩ false 0 ⟨#[]⟩ w hT
theorem or_FN (w : World) (hT : Tru w) : Calls Tryd.prog 24 #[.agg #[.bool false, .int .i64 0, .string ⟨#[]⟩], .agg #[.bool true, .int .i64 0, .string ⟨#[]⟩]] w fun e w' => e = .returned (.agg #[.bool true, .int .i64 0, .string ⟨#[]⟩]) ∧ Below w.heap.size w w' := val_or false 0 ⟨#[]⟩ true 0 ⟨#[]⟩ w hT
theorem or_FT (w : World) (hT : Tru w) : Calls Tryd.prog 24 #[.agg #[.bool false, .int .i64 0, .string ⟨#[]⟩], .agg #[.bool false, .int .i64 1, .string ⟨#[]⟩]] w fun e w' => e = .returned (.agg #[.bool false, .int .i64 1, .string ⟨#[]⟩]) ∧ Below w.heap.size w w' := val_or false 0 ⟨#[]⟩ false 1 ⟨#[]⟩ w hT
theorem or_NF (w : World) (hT : Tru w) : Calls Tryd.prog 24 #[.agg #[.bool true, .int .i64 0, .string ⟨#[]⟩], .agg #[.bool false, .int .i64 0, .string ⟨#[]⟩]] w fun e w' => e = .returned (.agg #[.bool true, .int .i64 0, .string ⟨#[]⟩]) ∧ Below w.heap.size w w' := val_or true 0 ⟨#[]⟩ false 0 ⟨#[]⟩ w hT
theorem or_NN (w : World) (hT : Tru w) : Calls Tryd.prog 24 #[.agg #[.bool true, .int .i64 0, .string ⟨#[]⟩], .agg #[.bool true, .int .i64 0, .string ⟨#[]⟩]] w fun e w' => e = .returned (.agg #[.bool true, .int .i64 0, .string ⟨#[]⟩]) ∧ Below w.heap.size w w' := val_or true 0 ⟨#[]⟩ true 0 ⟨#[]⟩ w hT
theorem or_NT (w : World) (hT : Tru w) : Calls Tryd.prog 24 #[.agg #[.bool true, .int .i64 0, .string ⟨#[]⟩], .agg #[.bool false, .int .i64 1, .string ⟨#[]⟩]] w fun e w' => e = .returned (.agg #[.bool false, .int .i64 1, .string ⟨#[]⟩]) ∧ Below w.heap.size w w' := val_or true 0 ⟨#[]⟩ false 1 ⟨#[]⟩ w hT
theorem or_TF (w : World) (hT : Tru w) : Calls Tryd.prog 24 #[.agg #[.bool false, .int .i64 1, .string ⟨#[]⟩], .agg #[.bool false, .int .i64 0, .string ⟨#[]⟩]] w fun e w' => e = .returned (.agg #[.bool false, .int .i64 1, .string ⟨#[]⟩]) ∧ Below w.heap.size w w' := val_or false 1 ⟨#[]⟩ false 0 ⟨#[]⟩ w hT
theorem or_TN (w : World) (hT : Tru w) : Calls Tryd.prog 24 #[.agg #[.bool false, .int .i64 1, .string ⟨#[]⟩], .agg #[.bool true, .int .i64 0, .string ⟨#[]⟩]] w fun e w' => e = .returned (.agg #[.bool false, .int .i64 1, .string ⟨#[]⟩]) ∧ Below w.heap.size w w' := val_or false 1 ⟨#[]⟩ true 0 ⟨#[]⟩ w hT
theorem or_TT (w : World) (hT : Tru w) : Calls Tryd.prog 24 #[.agg #[.bool false, .int .i64 1, .string ⟨#[]⟩], .agg #[.bool false, .int .i64 1, .string ⟨#[]⟩]] w fun e w' => e = .returned (.agg #[.bool false, .int .i64 1, .string ⟨#[]⟩]) ∧ Below w.heap.size w w' := val_or false 1 ⟨#[]⟩ false 1 ⟨#[]⟩ w hT

/-- The cells that the last condition reads: the three values, x and y. -/
def LgS (b : Nat) (xu : Bool) (xn : Int) (yu : Bool) (yn : Int) (X : World) : Prop :=
  X.cell? ⟨b, 0, none⟩ = some (.bool false) ∧ X.cell? ⟨b, 1, none⟩ = some (.int .i64 0) ∧ X.cell? ⟨b, 2, none⟩ = some (.string ⟨#[]⟩) ∧
  X.cell? ⟨b, 6, none⟩ = some (.bool false) ∧ X.cell? ⟨b, 7, none⟩ = some (.int .i64 1) ∧ X.cell? ⟨b, 8, none⟩ = some (.string ⟨#[]⟩) ∧
  X.cell? ⟨b + 1, 0, none⟩ = some (.bool xu) ∧ X.cell? ⟨b + 1, 1, none⟩ = some (.int .i64 xn) ∧ X.cell? ⟨b + 1, 2, none⟩ = some (.string ⟨#[]⟩) ∧
  X.cell? ⟨b + 1 + 1, 0, none⟩ = some (.bool yu) ∧ X.cell? ⟨b + 1 + 1, 1, none⟩ = some (.int .i64 yn) ∧ X.cell? ⟨b + 1 + 1, 2, none⟩ = some (.string ⟨#[]⟩)
theorem LgS.on {b : Nat} {xu yu : Bool} {xn yn : Int} {X Y : World} (h : LgS b xu xn yu yn X) (hb : Below X.heap.size X Y) : LgS b xu xn yu yn Y := by
  obtain ⟨h0, h1, h2, h3, h4, h5, h6, h7, h8, h9, ha, hc⟩ := h
  exact ⟨stay_on hb h0, stay_on hb h1, stay_on hb h2, stay_on hb h3, stay_on hb h4, stay_on hb h5, stay_on hb h6, stay_on hb h7, stay_on hb h8, stay_on hb h9, stay_on hb ha, stay_on hb hc⟩

end Go.Proofs.YtfjoobopfjahcaaDoor
