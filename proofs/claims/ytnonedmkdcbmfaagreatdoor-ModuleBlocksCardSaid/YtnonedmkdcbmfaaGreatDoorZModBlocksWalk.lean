/-
  The statement on blocks, walked. Only its frame proves it.
-/
import Derived.Test.YtnonedmkdcbmfaaGreatDoorZModHead
import Derived.Test.YtnonedmkdcbmfaaGreatDoorZModBlocksA
namespace Go.Proofs.YtnonedmkdcbmfaaGreatDoor
open Go.RowKit
theorem ins_small {W : World} {x : PI} (h : (0 ≤ x.op ∧ x.op ≤ 64) ∧ (0 ≤ x.a ∧ x.a ≤ 64) ∧ x.b = 0) : InsAt W (insOf x) :=
  ⟨fun j hj => absurd hj (by simp [insOf]), by simp [insOf], by unfold inI64; show _ ≤ x.op ∧ x.op ≤ _; omega, by unfold inI64; show _ ≤ x.a ∧ x.a ≤ _; omega, by unfold inI64; show _ ≤ x.b ∧ x.b ≤ _; omega, fun n hn => by simp [insOf] at hn⟩
theorem moduleBlocks_walk (p : Option Addr) (c : Nat) (l : List Int) (w : World) (hLaid : Laid w) (hS : BytesAt w p l) :
    Calls Tryz.prog 7 #[.slice p l.length c] w fun e w' => e = .returned (.bool true) ∧ Below w.heap.size w w' :=
  blocks_go p c l w hS (head_mod w hLaid) fun W lo pc cc code _ hown hsm hlen => by
    have h := mod_structured pc code.length cc (code.map insOf) (by simp) W ⟨rows_own (by rw [code_cells]; exact hown) (by simp) (fun _ _ => rfl), fun x hx => by
      obtain ⟨y, hy, rfl⟩ := List.mem_map.1 hx
      exact ins_small (hsm y hy), by simp; omega⟩
    have e : opsOf (code.map insOf) = code.map PI.op := by simp [opsOf, insOf]
    rwa [e] at h
end Go.Proofs.YtnonedmkdcbmfaaGreatDoor
