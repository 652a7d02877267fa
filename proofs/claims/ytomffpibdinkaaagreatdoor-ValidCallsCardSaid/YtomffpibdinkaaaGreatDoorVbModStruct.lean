/-
  Facts and contracts that the proof calls.
-/
import Derived.Test.YtomffpibdinkaaaGreatDoorRows
import Derived.WalkSpells
import Derived.WalkLawsBesides
import Derived.Lib.Hide
namespace Go.Proofs.YtomffpibdinkaaaGreatDoor
set_option maxRecDepth 100000
set_option maxHeartbeats 16000000
open Go.RowKit
def runs : List Int → List Int → Bool
  | [], _ => false
  | op :: l, st =>
    if op = 2 ∨ op = 3 ∨ op = 4 then runs l (op :: st)
    else if op = 5 then match st with
      | [] => false
      | t :: st => if t = 4 then runs l (5 :: st) else false
    else if op = 11 then match st with
      | [] => l.isEmpty
      | _ :: st => runs l st
    else runs l st
theorem runs_open {op : Int} {l st : List Int} (h : op = 2 ∨ op = 3 ∨ op = 4) : runs (op :: l) st = runs l (op :: st) := by rw [runs.eq_def]; exact if_pos h
theorem runs_else {t : Int} {l st : List Int} : runs (5 :: l) (t :: st) = if t = 4 then runs l (5 :: st) else false := by rw [runs, if_neg (by omega), if_pos rfl]
theorem runs_else_none {l : List Int} : runs (5 :: l) [] = false := by rw [runs, if_neg (by omega), if_pos rfl]
theorem runs_end {t : Int} {l st : List Int} : runs (11 :: l) (t :: st) = runs l st := by rw [runs, if_neg (by omega), if_neg (by omega), if_pos rfl]
theorem runs_end_none {l : List Int} : runs (11 :: l) [] = l.isEmpty := by rw [runs, if_neg (by omega), if_neg (by omega), if_pos rfl]
theorem runs_other {op : Int} {l st : List Int} (h : ¬ (op = 2 ∨ op = 3 ∨ op = 4 ∨ op = 5 ∨ op = 11)) : runs (op :: l) st = runs l st := by rw [runs.eq_def]; simp only; rw [if_neg (by omega), if_neg (by omega), if_neg (by omega)]
theorem infoInt : (Tryz.prog.info? 3).map (fun i => (i.zero, i.size, i.bytes)) = some (some (.int .i64 0), 1, 8) := by kernel_rfl
theorem own_base2 {w : World} {base : Nat} {e : TypeId} {size : Nat} {v : Value} {n : Nat} {xs : List Value} (h : w.ownsRow base e size v n xs) : ∀ g, v.ownBlock = some g → base ≤ g := by
  intro g hg
  rcases h.2 with ⟨rfl, _⟩ | ⟨g', cap, cur, rfl, hb, _⟩
  · cases hg
  · simp only [Value.ownBlock, Option.some.injEq] at hg
    subst hg; exact hb
theorem own_cut {w : World} {base g cap : Nat} {e : TypeId} {n : Nat} {xs : List Value} {x : Value} (h : w.ownsRow base e 1 (.slice (some ⟨g, 0, none⟩) (n + 1) cap) (n + 1) (xs ++ [x])) : w.ownsRow base e 1 (.slice (some ⟨g, 0, none⟩) n cap) n xs := by
  have hl : xs.length = n := by have := h.1; simp at this; omega
  rcases h.2 with ⟨h0, _⟩ | ⟨g', cap', cur, he, hb, hg, hnc, hcm, hcs, ht⟩
  · cases h0
  · cases he
    refine ⟨by omega, .inr ⟨g, cap, cur, rfl, hb, hg, by omega, hcm, hcs, ?_⟩⟩
    have := congrArg (List.take n) ht
    rw [List.take_take, show min n ((n + 1) * 1) = n by omega, List.take_left' hl] at this
    rw [Nat.mul_one]; exact this
theorem isEmpty_drop (l : List Int) (k : Nat) : (l.drop k).isEmpty = decide (l.length ≤ k) := by
  by_cases h : l.length ≤ k
  · rw [List.drop_eq_nil_of_le h]; simp [h]
  · simp [h]
end Go.Proofs.YtomffpibdinkaaaGreatDoor
