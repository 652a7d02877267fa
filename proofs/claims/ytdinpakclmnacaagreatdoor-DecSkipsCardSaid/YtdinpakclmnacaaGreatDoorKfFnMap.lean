/-
  Facts and contracts that the proof calls.
-/
import Derived.Maps.OwnSet
namespace Go.Proofs.YtdinpakclmnacaaGreatDoor
set_option maxRecDepth 100000
set_option maxHeartbeats 16000000
open Go.Maps
def fnRead {H : Type} : Value → Option (DataW H × List MemPlace)
  | .func (.func n) ⟨[]⟩ ⟨[]⟩ => some (.lit (.int .i64 n), [])
  | .nilFunc => some (.nil, [])
  | _ => none
theorem fnRead_mk {H : Type} (n : Nat) : fnRead (H := H) (.func (.func n) #[] #[]) = some (.lit (.int .i64 n), []) := rfl
theorem fnRead_nil {H : Type} : fnRead (H := H) .nilFunc = some (.nil, []) := rfl
theorem fnRead_fn {H : Type} {v : Value} {n : Nat} {ps : List MemPlace} (h : fnRead (H := H) v = some (.lit (.int .i64 n), ps)) : v = .func (.func n) #[] #[] := by
  unfold fnRead at h
  split at h
  · simp only [Option.some.injEq, Prod.mk.injEq, DataW.lit.injEq, Lit.int.injEq, true_and] at h
    rw [show _ = n from Int.ofNat.inj h.1]
  · simp at h
  · simp at h
theorem fnRead_none {H : Type} {v : Value} {ps : List MemPlace} (h : fnRead (H := H) v = some (.nil, ps)) : v = .nilFunc := by
  unfold fnRead at h
  split at h
  · simp at h
  · rfl
  · simp at h
end Go.Proofs.YtdinpakclmnacaaGreatDoor
