/-
  Facts and contracts that the proof calls.
-/
import Derived.Test.YtdinpakclmnacaaGreatDoorKfDrawInv
namespace Go.Proofs.YtdinpakclmnacaaGreatDoor
set_option maxRecDepth 100000
set_option maxHeartbeats 16000000
open Go.RowKit
set_option linter.unusedVariables false
theorem belt {B : Nat} {w W W' : World} (h : Below B w W) (hB : B ≤ w.heap.size) (h2 : Below W.heap.size W W') : Below B w W' := h.trans (h2.mono (Nat.le_trans hB h.size))
theorem bs_list9 (l : List UInt8) : (bs l).data.toList = l := by simp [bs]
theorem ins_small {x : InsV} (h : rightIns x = true) (hl : x.ls = []) (ha : inI64 x.a) : (ins5 x).length ≤ 22 := by
  obtain ⟨op, a, b, lp, lc, ls⟩ := x
  simp only at hl
  subst hl
  have h0 : rightOf (byCode op) op a b [] = true := h
  cases hby : byCode op with
  | none => rw [hby] at h0; cases h0
  | some r =>
    have hi : ins5 ⟨op, a, b, lp, lc, []⟩ = one5 op ++ tail5 r.shape ⟨op, a, b, lp, lc, []⟩ := by
      unfold ins5; simp only [hby]; rw [h]; rfl
    rw [hi, List.length_append]
    show 1 + _ ≤ _
    rw [hby] at h0
    unfold rightOf at h0
    simp only at h0
    unfold inI64 at ha
    have hbd := byCode_bd hby
    split at h0
    · cases h0
    · split at h0
      · cases h0
      · have h8 : r.shape = 0 ∨ r.shape = 1 ∨ r.shape = 2 ∨ r.shape = 3 ∨ r.shape = 4 ∨ r.shape = 5 ∨ r.shape = 6 ∨ r.shape = 7 := by omega
        rcases h8 with h | h | h | h | h | h | h | h
        all_goals rw [h] at h0 ⊢
        all_goals simp [word] at h0
        · show 1 + 0 ≤ _; omega
        · show 1 + 1 ≤ _; omega
        · have := putU_small (n := a) (by omega) (by omega); show 1 + (putU a).length ≤ _; omega
        · have h1 := putU_small (n := a) (by omega) (by omega)
          have h2 := putU_small (n := 0) (by omega) (by omega)
          show 1 + (putU 0 ++ [] ++ putU a).length ≤ _
          rw [List.length_append, List.length_append, List.length_nil]
          omega
        · have := putU_small (n := a) (by omega) (by omega); show 1 + (putU a).length ≤ _; omega
        · have h1 := putU_small (n := a) (by omega) (by omega)
          have h2 := putU_small (n := b) (by omega) (by omega)
          show 1 + (putU a ++ putU b).length ≤ _
          rw [List.length_append]; omega
        · show 1 + 1 ≤ _; omega
        · have h7 : -9223372036854775808 ≤ a ∧ a ≤ 9223372036854775807 := ha
          have := putS_len10 h7.1 h7.2
          show 1 + (putS a).length ≤ _; omega
def allB (code : List PI) : List UInt8 := (code.map insOf).flatMap ins5
theorem rightPI_ins {x : PI} (h : rightPI x = true) : rightIns (insOf x) = true ∧ inI64 x.a := by
  unfold rightPI at h
  simp only [Bool.and_eq_true, decide_eq_true_eq] at h
  exact ⟨h.1, h.2⟩
theorem all_small {code : List PI} (h : ∀ x ∈ code, rightPI x = true) : (allB code).length ≤ code.length * 22 := by
  unfold allB
  have := flat_most (f := ins5) (k := 22) (l := code.map insOf) fun y hy => by
    obtain ⟨x, hx, rfl⟩ := List.mem_map.1 hy
    exact ins_small (rightPI_ins (h x hx)).1 rfl (rightPI_ins (h x hx)).2
  simpa using this
def headB (mx i0 i1 ix : Int) : List UInt8 := [0, 97, 115, 109, 1, 0, 0, 0] ++ sect5 1 1 (ty5 ⟨⟨#[126, 127]⟩, ⟨#[126]⟩⟩) ++ sect5 3 1 (putU 0) ++ sect5 5 1 (mem5 ⟨1, mx⟩) ++ sect5 6 2 (glob5 ⟨127, true, i0⟩ ++ glob5 ⟨126, true, i1⟩) ++ sect5 7 1 (exp5 ⟨⟨#[102]⟩, 0, ix⟩) ++ []
def tailB : List UInt8 := sect5 11 1 (dat5 ⟨100, someBytes⟩)
def codeB (A : List UInt8) : List UInt8 := one5 10 ++ txt5 (putU 1 ++ txt5 (runs5 [127, 126] ++ A))
theorem made_bytes (H : Nat) (pc : Option Addr) (cc : Nat) (code : List PI) (mx i0 i1 ix : Int) : mod5 (madeV H pc cc code mx i0 i1 ix (-1)) = headB mx i0 i1 ix ++ codeB (allB code) ++ tailB := by
  have e1 : start5 (-1) = [] := if_pos rfl
  have e2 : ∀ l : List UInt8, sect5 10 1 l = one5 10 ++ txt5 (putU 1 ++ l) := fun l => if_neg (by decide)
  unfold mod5 madeV headB codeB tailB
  simp only [List.length_cons, List.length_nil, List.flatMap_cons, List.flatMap_nil, List.append_nil, e1]
  rw [show (0 + 1 : Nat) = 1 from rfl, show (1 + 1 : Nat) = 2 from rfl]
  simp only [e2]
  rfl
theorem code_in (A : List UInt8) (hA : A.length ≤ 1000000) : ∃ P Q, codeB A = P ++ A ++ Q ∧ P.length ≤ 100 ∧ Q = [] := by
  refine ⟨one5 10 ++ putU (putU 1 ++ txt5 (runs5 [127, 126] ++ A)).length ++ putU 1 ++ putU (runs5 [127, 126] ++ A).length ++ runs5 [127, 126], [], ?_, ?_, rfl⟩
  · unfold codeB txt5
    simp only [List.append_assoc, List.append_nil]
  · have h0 : (runs5 [127, 126]).length = 5 := by decide +kernel
    have h1 : (runs5 [127, 126] ++ A).length ≤ 1000005 := by rw [List.length_append]; omega
    have h2 := putU_len10 (n := ((runs5 [127, 126] ++ A).length : Int)) (by omega) (by omega)
    have h3 : (putU 1).length = 1 := by decide +kernel
    have h4 := txt5_len (s := runs5 [127, 126] ++ A) (by omega)
    have h5 : (putU 1 ++ txt5 (runs5 [127, 126] ++ A)).length ≤ 1000100 := by rw [List.length_append]; omega
    have h6 := putU_len10 (n := ((putU 1 ++ txt5 (runs5 [127, 126] ++ A)).length : Int)) (by omega) (by omega)
    simp only [List.length_append (bs := _), one5_len] at *
    omega
theorem headB_len : (headB 2 5 (-5) 0).length ≤ 1000 := by decide +kernel
theorem tailB_len : tailB.length ≤ 100 := by decide +kernel
theorem made_ans {w : World} {lo H : Nat} {pc : Option Addr} {cc : Nat} {code : List PI} (h : MadeAt w lo H pc cc code 2 5 (-5) 0) :
    ∃ S P Q, S = P ++ allB code ++ Q ∧ P.length ≤ 2000 ∧ Q.length ≤ 100 ∧ (allB code).length ≤ 220000 ∧ ans5 (madeV H pc cc code 2 5 (-5) 0 (-1)) = (S, 0) := by
  have hA : (allB code).length ≤ 220000 := by
    have h1 := all_small h.right
    have h2 := h.most
    omega
  obtain ⟨P, Q, h1, h2, rfl⟩ := code_in (allB code) (by omega)
  have hm : mod5 (madeV H pc cc code 2 5 (-5) 0 (-1)) = (headB 2 5 (-5) 0 ++ P) ++ allB code ++ tailB := by
    rw [made_bytes, h1]
    simp only [List.append_assoc, List.append_nil]
  have h3 := headB_len
  have h4 := tailB_len
  refine ⟨_, _, _, hm, by rw [List.length_append]; omega, h4, hA, ?_⟩
  unfold ans5
  rw [if_pos (by rw [h.rights]; decide), if_neg]
  rw [hm]
  simp only [List.length_append]
  omega
def head47 : List UInt8 := headB 2 5 (-5) 0
theorem head47_len : head47.length = 47 := by decide +kernel
theorem code_least {A : List UInt8} : 9 ≤ (codeB A).length := by
  unfold codeB txt5
  have h0 : (runs5 [127, 126]).length = 5 := by decide +kernel
  have h3 : (putU 1).length = 1 := by decide +kernel
  have a := List.length_pos_iff.2 (putU_ne (putU 1 ++ (putU (runs5 [127, 126] ++ A).length ++ (runs5 [127, 126] ++ A))).length)
  have b := List.length_pos_iff.2 (putU_ne (runs5 [127, 126] ++ A).length)
  simp only [List.length_append, one5_len] at *
  omega
end Go.Proofs.YtdinpakclmnacaaGreatDoor
