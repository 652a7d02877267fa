/-
  Facts and contracts that the proof calls.
-/
import Derived.Test.YtdinpakclmnacaaGreatDoorKfDecSame
import Derived.Test.YtdinpakclmnacaaGreatDoorKfEncHead
namespace Go.Proofs.YtdinpakclmnacaaGreatDoor
set_option maxRecDepth 100000
set_option maxHeartbeats 16000000
open Go.RowKit
set_option linter.unusedVariables false
theorem madeV_val6 (H : Nat) (pc : Option Addr) (cc : Nat) (code : List PI) (mx i0 i1 ix st : Int) : (madeV H pc cc code mx i0 i1 ix st).val = .agg #[.slice (some ⟨H, 0, none⟩) 1 1, .slice (some ⟨H + 1, 0, none⟩) 1 1, .slice (some ⟨H + 2, 0, none⟩) 1 1, .slice (some ⟨H + 3, 0, none⟩) 2 2, .slice (some ⟨H + 4, 0, none⟩) 1 1, .int .i64 st, .slice (some ⟨H + 5, 0, none⟩) 1 1] := rfl
def progB (code : List PI) : List UInt8 := head47 ++ codeB (allB code) ++ tailB
structure Prog6 (code : List PI) (V : MoV) : Prop where
  ans : ans5 V = (progB code, 0)
  bytes : mod5 V = progB code
  back : mod6 (progB code) = .ok V.bare []
  few : (allB code).length ≤ 220000
  lo : 75 ≤ (progB code).length
  hi : (progB code).length ≤ 230000
theorem made_prog {w : World} {lo H : Nat} {pc : Option Addr} {cc : Nat} {code : List PI} (h : MadeAt w lo H pc cc code 2 5 (-5) 0) : Prog6 code (madeV H pc cc code 2 5 (-5) 0 (-1)) := by
  have hA : (allB code).length ≤ 220000 := by
    have h1 := all_small h.right
    have h2 := h.most
    omega
  have hm : mod5 (madeV H pc cc code 2 5 (-5) 0 (-1)) = progB code := made_bytes _ _ _ _ _ _ _ _
  obtain ⟨P, Q, h1, h2, rfl⟩ := code_in (allB code) (by omega)
  have h3 := head47_len
  have h4 := code_least (A := allB code)
  have ht : tailB.length = 19 := by decide +kernel
  have h5 : (codeB (allB code)).length ≤ 220100 := by rw [h1]; simp only [List.length_append, List.length_nil]; omega
  have hlen : (progB code).length = 66 + (codeB (allB code)).length := by unfold progB; simp only [List.length_append]; omega
  have hr : rightMod (madeV H pc cc code 2 5 (-5) 0 (-1)) = true := by rw [h.rights]; decide
  refine ⟨?_, hm, ?_, hA, by omega, by omega⟩
  · unfold ans5
    rw [if_pos hr, if_neg (by rw [hm]; omega), hm]
  · rw [← hm]
    exact mod6_put hr (h.modAt ⟨by decide, by decide⟩ ⟨by decide, by decide⟩ ⟨by decide, by decide⟩ ⟨by decide, by decide⟩ ⟨by decide, by decide⟩).fits (by rw [hm]; omega)
theorem bs_take (S : List UInt8) (k : Nat) : (bs S).extract 0 k = bs (S.take k) := by
  apply ByteArray.ext
  apply Array.toList_inj.1
  rw [ByteArray.data_extract, Array.toList_extract, List.extract_eq_take_drop, bs_list9, bs_list9]
  simp
theorem bs_size6 (l : List UInt8) : (bs l).size = l.length := by simp [bs, ByteArray.size]
theorem reads_six {w : World} {B : Nat} {u0 u1 u2 u3 u4 u5 u6 : Value} {t : TypeId} (h : w.heap[B]? = some (.cells #[u0, u1, u2, u3, u4, u5, u6] t)) :
    w.cell? ⟨B, 0, none⟩ = some u0 ∧ w.cell? ⟨B, 1, none⟩ = some u1 ∧ w.cell? ⟨B, 2, none⟩ = some u2 ∧ w.cell? ⟨B, 3, none⟩ = some u3 ∧ w.cell? ⟨B, 4, none⟩ = some u4 ∧ w.cell? ⟨B, 5, none⟩ = some u5 ∧ w.cell? ⟨B, 6, none⟩ = some u6 ∧ B < w.heap.size := by
  have c : ∀ j, w.cell? ⟨B, j, none⟩ = (#[u0, u1, u2, u3, u4, u5, u6] : Array Value)[j]? := fun j => by rw [World.cell?, h]; rfl
  exact ⟨c 0, c 1, c 2, c 3, c 4, c 5, c 6, in_heap6 h⟩
theorem dec_any (S : List UInt8) (W : World) (hL : Laid W) : Calls Tryz.prog 13 #[.string (bs S)] W fun e w' => ∃ n : MoV, e = .returned (.tuple #[n.val, .int .i64 (modAns S).2]) ∧ n.bare = (modAns S).1 ∧ ModAt w' n ∧ Below W.heap.size W w' := by
  refine (dec_mod (bs S) W hL).mono ?_
  rintro e w' ⟨n, rfl, h1, h2, h3⟩
  rw [bs_list9] at h1 ⊢
  exact ⟨n, rfl, h1, h2.at7, h3⟩
end Go.Proofs.YtdinpakclmnacaaGreatDoor
