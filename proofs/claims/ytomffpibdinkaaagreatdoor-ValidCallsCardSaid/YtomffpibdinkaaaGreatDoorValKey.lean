/-
  Package valid: an export's name as a key of a map. Facts that the proofs call; no statement is proved here.
-/
import Derived.Test.YtomffpibdinkaaaGreatDoorValMem
import Derived.DeepKeys4
namespace Go.Proofs.YtomffpibdinkaaaGreatDoor
open Go.RowKit Go.Maps
set_option linter.unusedVariables false
set_option linter.unusedSimpArgs false

theorem key_type7 : Tryz.prog.keyType 104 = true := by kernel_rfl
theorem name_keyed : Keyed Tryz.prog 104 := Keyed.of_law (deep_law_laid (m := 2) (by kernel_rfl) (by decide) (by decide +kernel) (by kernel_rfl) (by kernel_rfl))
def keyL (s : ByteArray) : Lit := .string (bytesBE 8 s.data.toList.length ++ s.data.toList)
theorem formed7 (s : ByteArray) : Value.formed Tryz.prog 104 (.agg #[.string s]) = true := by
  unfold Value.formed
  rw [Tryz.underlying104]
  kernel_rfl
theorem cells_name7 : Tryz.prog.cellsOf 104 = 1 := by kernel_rfl
theorem cells_str7 : Tryz.prog.cellsOf 9 = 1 := by kernel_rfl
theorem key_lits7 (s : ByteArray) (hs : s.size ≤ maxLen) (d : Nat) : Tryz.prog.keyLits (d + 2) 104 [.string s] = some [.string s.data.toList] := by
  unfold Program.keyLits
  rw [Tryz.underlying104]
  simp only
  rw [if_pos ⟨by rw [cells_name7]; rfl, by kernel_rfl⟩]
  have e1 : Tryz.prog.keyLits (d + 1) 9 [.string s] = some [.string s.data.toList] := by
    unfold Program.keyLits
    rw [Tryz.underlying9]
    simp only
    rw [if_pos hs]
  simp [cells_str7, e1]
theorem key7 (s : ByteArray) (hs : s.size ≤ maxLen) : keyOf Tryz.prog 104 (.agg #[.string s]) = some (keyL s) := by
  unfold keyOf
  rw [Tryz.underlying104]
  simp only [key_type7, formed7, Bool.and_self, if_true]
  have e : Tryz.prog.types.size + 1 = (Tryz.prog.types.size - 1) + 2 := by kernel_rfl
  rw [e, show (Value.agg #[.string s]).cells.toList = [Value.string s] from rfl, key_lits7 s hs]
  simp [keyBytes, Lit.keyBytes, keyL]
end Go.Proofs.YtomffpibdinkaaaGreatDoor
