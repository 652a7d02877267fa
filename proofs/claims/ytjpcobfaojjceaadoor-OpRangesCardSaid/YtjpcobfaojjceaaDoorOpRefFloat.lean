/-
  The document's own answer on which codes have to do with floats, and what a word is: walked. Contracts that the proofs call; no statement is proved here.
-/
import Derived.Test.YtjpcobfaojjceaaDoorOpRefFind
namespace Go.Proofs.YtjpcobfaojjceaaDoor
open Go.RowKit

def isFloat (c : Int) : Bool := decide (c = 42 ∨ c = 43 ∨ c = 56 ∨ c = 57 ∨ c = 67 ∨ c = 68 ∨ (91 ≤ c ∧ c ≤ 102) ∨ (139 ≤ c ∧ c ≤ 166) ∨ (168 ≤ c ∧ c ≤ 171) ∨ (174 ≤ c ∧ c ≤ 191))
def word (n : Int) : Bool := decide (0 ≤ n ∧ n < 4294967296)
theorem ret_bl {a b : Bool} (h : a = b) : Ending.returned (.bool a) = .returned (.bool b) := by rw [h]

set_option maxHeartbeats 400000 in
theorem ref_word (n : Int) (w : World) : Calls Tryd.prog 27 #[.int .i64 n] w fun e w' => e = .returned (.bool (word n)) ∧ w = w' := by
  by_cases h0 : 0 ≤ n
  · by_cases h1 : n < 4294967296
    · have e : word n = true := by simp [word]; omega
      rw [e]
      go_enter Tryd.func27, Tryd.ntmps27
      go_wp2
      go_ret
      exact ⟨rfl, rfl⟩
    · have e : word n = false := by simp [word]; omega
      rw [e]
      go_enter Tryd.func27, Tryd.ntmps27
      go_wp2
      go_ret
      exact ⟨by first | rfl | exact ret_bl (by simp; omega), rfl⟩
  · have e : word n = false := by simp [word]; omega
    rw [e]
    go_enter Tryd.func27, Tryd.ntmps27
    go_wp2
    go_ret
    exact ⟨rfl, rfl⟩

set_option maxRecDepth 100000 in
set_option maxHeartbeats 4000000 in
theorem ref_float (c : Int) (w : World) : Calls Tryd.prog 14 #[.int .i64 c] w fun e w' => e = .returned (.bool (isFloat c)) ∧ w = w' := by
  rcases (show c < 42 ∨ c = 42 ∨ c = 43 ∨ (43 < c ∧ c < 56) ∨ c = 56 ∨ c = 57 ∨ (57 < c ∧ c < 67) ∨ c = 67 ∨ c = 68 ∨ (68 < c ∧ c < 91) ∨ (91 ≤ c ∧ c ≤ 102) ∨ (102 < c ∧ c < 139) ∨ (139 ≤ c ∧ c ≤ 166) ∨ c = 167 ∨ (168 ≤ c ∧ c ≤ 171) ∨ (171 < c ∧ c < 174) ∨ (174 ≤ c ∧ c ≤ 191) ∨ 191 < c by omega) with h | rfl | rfl | h | rfl | rfl | h | rfl | rfl | h | h | h | h | rfl | h | h | h | h
  all_goals
    first
      | (have e : isFloat c = true := by simp only [isFloat, decide_eq_true_eq]; omega
         rw [e])
      | (have e : isFloat c = false := by simp only [isFloat, decide_eq_false_iff_not]; omega
         rw [e])
      | skip
    go_enter Tryd.func14, Tryd.ntmps14
    go_wp2
    go_ret
    exact ⟨by first | rfl | exact ret_bl (by simp; omega), rfl⟩
end Go.Proofs.YtjpcobfaojjceaaDoor
