/-
  The document's own answer to chapter 5, walked: modules. Contracts that the proofs call; no statement is proved here.
-/
import Derived.Test.YthfipknfdnfalaaGreatDoorKcEncSpec
import Derived.Deep.RegionHeld3
namespace Go.Proofs.YthfipknfdnfalaaGreatDoor
set_option maxRecDepth 100000
set_option maxHeartbeats 16000000
open Go.RowKit
set_option linter.unusedVariables false
theorem ins5_len {x : InsV} (h : rightIns x = true) (ha : inI64 x.a) : (ins5 x).length ≤ 20500 := by
  obtain ⟨op, a, b, lp, lc, ls⟩ := x
  have h0 : rightOf (byCode op) op a b ls = true := h
  cases hby : byCode op with
  | none => rw [hby] at h0; cases h0
  | some r =>
    have hi : ins5 ⟨op, a, b, lp, lc, ls⟩ = one5 op ++ tail5 r.shape ⟨op, a, b, lp, lc, ls⟩ := by
      unfold ins5; simp only [hby]; rw [h]; rfl
    rw [hi, List.length_append]
    show 1 + _ ≤ _
    rw [hby] at h0
    unfold rightOf at h0
    simp only at h0
    unfold inI64 at ha
    have hbd := byCode_bd hby
    split at h0
    · cases h0
    · split at h0
      · cases h0
      · have h8 : r.shape = 0 ∨ r.shape = 1 ∨ r.shape = 2 ∨ r.shape = 3 ∨ r.shape = 4 ∨ r.shape = 5 ∨ r.shape = 6 ∨ r.shape = 7 := by omega
        rcases h8 with h | h | h | h | h | h | h | h
        all_goals rw [h] at h0 ⊢
        all_goals simp [word] at h0
        · show 1 + 0 ≤ _; omega
        · show 1 + 1 ≤ _; omega
        · have := putU_small (n := a) (by omega) (by omega); show 1 + (putU a).length ≤ _; omega
        · have h1 := putU_small (n := a) (by omega) (by omega)
          have h2 := putU_small (n := (ls.length : Int)) (by omega) (by omega)
          have h3 := flat_most (f := putU) (k := 5) (l := ls) fun y hy => putU_small (h0.1.1 y hy).1 (h0.1.1 y hy).2
          show 1 + (putU ls.length ++ ls.flatMap putU ++ putU a).length ≤ _
          rw [List.length_append, List.length_append]
          have := h0.1.2
          omega
        · have := putU_small (n := a) (by omega) (by omega); show 1 + (putU a).length ≤ _; omega
        · have h1 := putU_small (n := a) (by omega) (by omega)
          have h2 := putU_small (n := b) (by omega) (by omega)
          show 1 + (putU a ++ putU b).length ≤ _
          rw [List.length_append]; omega
        · show 1 + 1 ≤ _; omega
        · have h7 : -9223372036854775808 ≤ a ∧ a ≤ 9223372036854775807 := ha
          have := putS_len10 h7.1 h7.2
          show 1 + (putS a).length ≤ _; omega
end Go.Proofs.YthfipknfdnfalaaGreatDoor
