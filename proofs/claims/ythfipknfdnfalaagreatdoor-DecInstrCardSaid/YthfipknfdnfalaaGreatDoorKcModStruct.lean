/-
  Which code is of blocks in one another (chapter 4), as a function of its operations, and the document's own answer to it walked. A contract that the proofs call; no statement is proved here.
-/
import Derived.Test.YthfipknfdnfalaaGreatDoorRows
import Derived.WalkSpells
import Derived.WalkLawsBesides
import Derived.Lib.Hide
namespace Go.Proofs.YthfipknfdnfalaaGreatDoor
set_option maxRecDepth 100000
set_option maxHeartbeats 16000000
open Go.RowKit
def runs : List Int → List Int → Bool
  | [], _ => false
  | op :: l, st =>
    if op = 2 ∨ op = 3 ∨ op = 4 then runs l (op :: st)
    else if op = 5 then match st with
      | [] => false
      | t :: st => if t = 4 then runs l (5 :: st) else false
    else if op = 11 then match st with
      | [] => l.isEmpty
      | _ :: st => runs l st
    else runs l st
end Go.Proofs.YthfipknfdnfalaaGreatDoor
