/-
  Which code is of blocks in one another (chapter 4), as a function of its operations, and the document's own answer to it walked. A contract that the proofs call; no statement is proved here.
-/
import Derived.Test.YthfipknfdnfalaaGreatDoorRows
import Derived.WalkKit
import Derived.WalkSpells
import Derived.WalkLawsBesides
import Derived.Lib.Hide
import Derived.Maps.AppendAt
import Derived.Laws.OwnMore
namespace Go.Proofs.YthfipknfdnfalaaGreatDoor
open Go.RowKit
def runs : List Int → List Int → Bool
  | [], _ => false
  | op :: l, st =>
    if op = 2 ∨ op = 3 ∨ op = 4 then runs l (op :: st)
    else if op = 5 then match st with
      | [] => false
      | t :: st => if t = 4 then runs l (5 :: st) else false
    else if op = 11 then match st with
      | [] => l.isEmpty
      | _ :: st => runs l st
    else runs l st
def OpsAt (w : World) (p : Option Addr) (ops : List Int) : Prop := ∀ j (hj : j < ops.length), ∃ b o, p = some ⟨b, o, none⟩ ∧ b < w.heap.size ∧ w.cell? ⟨b, o + j * 4, none⟩ = some (.int .i64 ops[j])
end Go.Proofs.YthfipknfdnfalaaGreatDoor
