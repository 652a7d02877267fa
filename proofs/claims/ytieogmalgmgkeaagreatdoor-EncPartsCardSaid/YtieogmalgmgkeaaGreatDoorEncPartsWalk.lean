/-
  The statement on a function's instructions in a module's bytes, walked. Only its frame proves it.
-/
import Derived.Test.YtieogmalgmgkeaaGreatDoorDrawInv
import Derived.Test.YtieogmalgmgkeaaGreatDoorModMadeAt
namespace Go.Proofs.YtieogmalgmgkeaaGreatDoor
open Go.RowKit
set_option linter.unusedVariables false

theorem bs_list9 (l : List UInt8) : (bs l).data.toList = l := by simp [bs]
/-- An instruction without labels has few bytes. -/
theorem ins_small {x : InsV} (h : rightIns x = true) (hl : x.ls = []) (ha : inI64 x.a) : (ins5 x).length ≤ 22 := by
  obtain ⟨op, a, b, lp, lc, ls⟩ := x
  simp only at hl
  subst hl
  have h0 : rightOf (byCode op) op a b [] = true := h
  cases hby : byCode op with
  | none => rw [hby] at h0; cases h0
  | some r =>
    have hi : ins5 ⟨op, a, b, lp, lc, []⟩ = one5 op ++ tail5 r.shape ⟨op, a, b, lp, lc, []⟩ := by
      unfold ins5; simp only [hby]; rw [h]; rfl
    rw [hi, List.length_append]
    show 1 + _ ≤ _
    rw [hby] at h0
    unfold rightOf at h0
    simp only at h0
    unfold inI64 at ha
    have hbd := byCode_bd hby
    split at h0
    · cases h0
    · split at h0
      · cases h0
      · have h8 : r.shape = 0 ∨ r.shape = 1 ∨ r.shape = 2 ∨ r.shape = 3 ∨ r.shape = 4 ∨ r.shape = 5 ∨ r.shape = 6 ∨ r.shape = 7 := by omega
        rcases h8 with h | h | h | h | h | h | h | h
        all_goals rw [h] at h0 ⊢
        all_goals simp [word] at h0
        · show 1 + 0 ≤ _; omega
        · show 1 + 1 ≤ _; omega
        · have := putU_small (n := a) (by omega) (by omega); show 1 + (putU a).length ≤ _; omega
        · have h1 := putU_small (n := a) (by omega) (by omega)
          have h2 := putU_small (n := 0) (by omega) (by omega)
          show 1 + (putU 0 ++ [] ++ putU a).length ≤ _
          rw [List.length_append, List.length_append, List.length_nil]
          omega
        · have := putU_small (n := a) (by omega) (by omega); show 1 + (putU a).length ≤ _; omega
        · have h1 := putU_small (n := a) (by omega) (by omega)
          have h2 := putU_small (n := b) (by omega) (by omega)
          show 1 + (putU a ++ putU b).length ≤ _
          rw [List.length_append]; omega
        · show 1 + 1 ≤ _; omega
        · have h7 : -9223372036854775808 ≤ a ∧ a ≤ 9223372036854775807 := ha
          have := putS_len10 h7.1 h7.2
          show 1 + (putS a).length ≤ _; omega
/-- The instructions' bytes. -/
def allB (code : List PI) : List UInt8 := (code.map insOf).flatMap ins5
theorem rightPI_ins {x : PI} (h : rightPI x = true) : rightIns (insOf x) = true ∧ inI64 x.a := by
  unfold rightPI at h
  simp only [Bool.and_eq_true, decide_eq_true_eq] at h
  exact ⟨h.1, h.2⟩
theorem all_small {code : List PI} (h : ∀ x ∈ code, rightPI x = true) : (allB code).length ≤ code.length * 22 := by
  unfold allB
  have := flat_most (f := ins5) (k := 22) (l := code.map insOf) fun y hy => by
    obtain ⟨x, hx, rfl⟩ := List.mem_map.1 hy
    exact ins_small (rightPI_ins (h x hx)).1 rfl (rightPI_ins (h x hx)).2
  simpa using this
/-- What stands ahead of a made program's code, and behind it. -/
def headB (mx i0 i1 ix : Int) : List UInt8 := [0, 97, 115, 109, 1, 0, 0, 0] ++ sect5 1 1 (ty5 ⟨⟨#[126, 127]⟩, ⟨#[126]⟩⟩) ++ sect5 3 1 (putU 0) ++ sect5 5 1 (mem5 ⟨1, mx⟩) ++ sect5 6 2 (glob5 ⟨127, true, i0⟩ ++ glob5 ⟨126, true, i1⟩) ++ sect5 7 1 (exp5 ⟨⟨#[102]⟩, 0, ix⟩) ++ []
def tailB : List UInt8 := sect5 11 1 (dat5 ⟨100, someBytes⟩)
def codeB (A : List UInt8) : List UInt8 := one5 10 ++ txt5 (putU 1 ++ txt5 (runs5 [127, 126] ++ A))
theorem made_bytes (H : Nat) (pc : Option Addr) (cc : Nat) (code : List PI) (mx i0 i1 ix : Int) : mod5 (madeV H pc cc code mx i0 i1 ix (-1)) = headB mx i0 i1 ix ++ codeB (allB code) ++ tailB := by
  have e1 : start5 (-1) = [] := if_pos rfl
  have e2 : ∀ l : List UInt8, sect5 10 1 l = one5 10 ++ txt5 (putU 1 ++ l) := fun l => if_neg (by decide)
  unfold mod5 madeV headB codeB tailB
  simp only [List.length_cons, List.length_nil, List.flatMap_cons, List.flatMap_nil, List.append_nil, e1]
  rw [show (0 + 1 : Nat) = 1 from rfl, show (1 + 1 : Nat) = 2 from rfl]
  simp only [e2]
  rfl
/-- The code's bytes stand in it. -/
theorem code_in (A : List UInt8) (hA : A.length ≤ 1000000) : ∃ P Q, codeB A = P ++ A ++ Q ∧ P.length ≤ 100 ∧ Q = [] := by
  refine ⟨one5 10 ++ putU (putU 1 ++ txt5 (runs5 [127, 126] ++ A)).length ++ putU 1 ++ putU (runs5 [127, 126] ++ A).length ++ runs5 [127, 126], [], ?_, ?_, rfl⟩
  · unfold codeB txt5
    simp only [List.append_assoc, List.append_nil]
  · have h0 : (runs5 [127, 126]).length = 5 := by decide +kernel
    have h1 : (runs5 [127, 126] ++ A).length ≤ 1000005 := by rw [List.length_append]; omega
    have h2 := putU_len10 (n := ((runs5 [127, 126] ++ A).length : Int)) (by omega) (by omega)
    have h3 : (putU 1).length = 1 := by decide +kernel
    have h4 := txt5_len (s := runs5 [127, 126] ++ A) (by omega)
    have h5 : (putU 1 ++ txt5 (runs5 [127, 126] ++ A)).length ≤ 1000100 := by rw [List.length_append]; omega
    have h6 := putU_len10 (n := ((putU 1 ++ txt5 (runs5 [127, 126] ++ A)).length : Int)) (by omega) (by omega)
    simp only [List.length_append (bs := _), one5_len] at *
    omega

theorem headB_len : (headB 2 5 (-5) 0).length ≤ 1000 := by decide +kernel
theorem tailB_len : tailB.length ≤ 100 := by decide +kernel
/-- What a made program's module has. -/
theorem made_ans {w : World} {lo H : Nat} {pc : Option Addr} {cc : Nat} {code : List PI} (h : MadeAt w lo H pc cc code 2 5 (-5) 0) :
    ∃ S P Q, S = P ++ allB code ++ Q ∧ P.length ≤ 2000 ∧ Q.length ≤ 100 ∧ (allB code).length ≤ 220000 ∧ ans5 (madeV H pc cc code 2 5 (-5) 0 (-1)) = (S, 0) := by
  have hA : (allB code).length ≤ 220000 := by
    have h1 := all_small h.right
    have h2 := h.most
    omega
  obtain ⟨P, Q, h1, h2, rfl⟩ := code_in (allB code) (by omega)
  have hm : mod5 (madeV H pc cc code 2 5 (-5) 0 (-1)) = (headB 2 5 (-5) 0 ++ P) ++ allB code ++ tailB := by
    rw [made_bytes, h1]
    simp only [List.append_assoc, List.append_nil]
  have h3 := headB_len
  have h4 := tailB_len
  refine ⟨_, _, _, hm, by rw [List.length_append]; omega, h4, hA, ?_⟩
  unfold ans5
  rw [if_pos (by rw [h.rights]; decide), if_neg]
  rw [hm]
  simp only [List.length_append]
  omega

set_option maxRecDepth 100000 in
set_option maxHeartbeats 8000000 in
theorem encParts_walk (p : Option Addr) (c : Nat) (l : List StepV) (w : World) (hLaid : Laid w) (hS : StepsAt w p l) :
    Calls Tryz.prog 6 #[.slice p l.length c] w fun e w' => e = .returned (.bool true) ∧ Below w.heap.size w w' := by
  have cH := head5 w hLaid
  have cM := fun W (hW : Below w.heap.size w W) => made_of p c l W (hS.below hW (Nat.le_refl _))
  clear hS
  generalize l.length = ln at *
  have hv : ∀ H pc cc code, (madeV H pc cc code 2 5 (-5) 0 (-1)).val = .agg #[.slice (some ⟨H, 0, none⟩) 1 1, .slice (some ⟨H + 1, 0, none⟩) 1 1, .slice (some ⟨H + 2, 0, none⟩) 1 1, .slice (some ⟨H + 3, 0, none⟩) 2 2, .slice (some ⟨H + 4, 0, none⟩) 1 1, .int .i64 (-1), .slice (some ⟨H + 5, 0, none⟩) 1 1] := fun _ _ _ _ => rfl
  simp only [hv] at cM
  go_enter Tryz.func6, Tryz.ntmps6
  go_wp2_with (first
    | (go_at_call 7; (with_reducible refine cH.mono ?_); rintro e w1 ⟨rfl, hB1⟩)
    | (go_at_call 8; (with_reducible refine (cM _ hB1).mono ?_); rintro e w2 ⟨H, pc, cc, code, rfl, hM, hne, hb2⟩; have hB2 := belt hB1 (Nat.le_refl _) hb2; obtain ⟨S, P, Q, hSP, hP, hQ, hA, hans⟩ := made_ans hM; have cE := fun W (hW : Below w2.heap.size w2 W) => enc_mod (madeV H pc cc code 2 5 (-5) 0 (-1)) W ((hLaid.below hB2).below hW) ((hM.below hW).modAt ⟨by decide, by decide⟩ ⟨by decide, by decide⟩ ⟨by decide, by decide⟩ ⟨by decide, by decide⟩ ⟨by decide, by decide⟩); rw [hans, hv] at cE; clear hans cM; have HSP := Lib.hid hSP; clear hSP)
    | (go_at_call 9; (with_reducible refine (cE _ ((Below.refl _ w2).alloc (Nat.le_refl _) _)).mono ?_); rintro e w3 ⟨rfl, hb3⟩))
  have hbx := (hb3.block w2.heap.size (by simp)).trans (heap_alloc_new _ _)
  have hB3 : Below w.heap.size w w3 := (hB2.alloc hB2.size _).trans (hb3.mono (by have := hB2.size; simp; omega))
  have hM3 : Below w2.heap.size w2 w3 := ((Below.refl _ w2).alloc (Nat.le_refl _) _).trans (hb3.mono (by simp))
  have hM3' := hM.below hM3
  have hL3 := hLaid.below hB3
  have HA : Hid (allB code = (code.map insOf).flatMap ins5) := Lib.hid rfl
  have hn := hM.most
  obtain ⟨n, hcn⟩ : ∃ n, code.length = n := ⟨_, rfl⟩
  have HN := Lib.hid hcn
  have hfun := hM3'.funcs
  rw [hcn] at hfun hn
  have hI := fun (x : PI) (hx : x ∈ code) (W : World) (hW : Below w3.heap.size w3 W) => enc_instr (insOf x) W (hL3.below hW).spaces (MadeAt.insAt (w := W) (hM.right x hx))
  have hRI := fun (x : PI) (hx : x ∈ code) => rightPI_ins (hM.right x hx)
  have hrow := hM3'.codeAt.1
  have hsm := fun (x : PI) (hx : x ∈ code) => ins_small (hRI x hx).1 rfl (hRI x hx).2
  generalize allB code = A at *
  clear hM hM3' cE hb3 hM3 hb2 hB2 hB1 hcn cH hv
  go_loopw [7, 8] (fun s i wr => ∃ (k : Nat) (d : List UInt8), k ≤ n ∧ i = .int .i64 k ∧ s = .string (bs d) ∧ d.length ≤ 22 * k ∧ Hid (d = ((code.map insOf).take k).flatMap ins5) ∧ Below w3.heap.size w3 wr) (fun _ i _ => n - (intOf i).toNat)
  case atStart => exact ⟨0, [], by omega, rfl, rfl, by simp, Lib.hid (by simp), Below.refl _ _⟩
  case round =>
    obtain ⟨k, d, hk, rfl, rfl, hd, HD, hB⟩ := hrel
    have q1 : wr.cell? ⟨w2.heap.size, 1, none⟩ = some (.slice (some ⟨H + 1, 0, none⟩) 1 1) := by rw [World.cell?, (hB.block _ (heap_in hbx)).trans hbx]; rfl
    have q2 : wr.cell? ⟨H + 1, 2, none⟩ = some (.slice pc n cc) := by rw [World.cell?, (hB.block _ (heap_in hfun)).trans hfun]; rfl
    by_cases hlt : k < n
    · have hlt' : k < code.length := by have := HN.out; omega
      have hltm : k < (code.map insOf).length := by simpa using hlt'
      obtain ⟨b, o, hp1, hb1, e0⟩ := (hrow.below hB (Nat.le_refl _)) k hltm 0 _ rfl
      subst hp1
      have e1 := (hrow.below hB (Nat.le_refl _)).cell hltm 1 rfl
      have e2 := (hrow.below hB (Nat.le_refl _)).cell hltm 2 rfl
      have e3 := (hrow.below hB (Nat.le_refl _)).cell hltm 3 rfl
      have hget : (code.map insOf)[k] = insOf code[k] := List.getElem_map ..
      have HX : Hid ((code.map insOf).take (k + 1) = (code.map insOf).take k ++ [insOf code[k]]) := Lib.hid (by rw [List.take_succ_eq_append_getElem hltm, hget])
      rw [hget] at e0 e1 e2 e3
      have cI := hI code[k] (List.getElem_mem hlt')
      have hs1 := hsm code[k] (List.getElem_mem hlt')
      rw [(hRI code[k] (List.getElem_mem hlt')).1] at cI
      generalize code[k] = x at *
      obtain ⟨l5, hl5⟩ : ∃ l5, l5 = ins5 (insOf x) := ⟨_, rfl⟩
      rw [← hl5] at cI hs1
      have HL5 := Lib.hid hl5
      obtain ⟨xo, xa, xb⟩ := x
      simp only [insOf, InsV.val, Nat.add_zero, List.length_nil] at cI e0 e1 e2 e3
      have s1 : ¬ 9223372036854775807 < (bs d).size + (bs l5).size := by rw [bs_size, bs_size]; omega
      clear hget hl5 hrow hI hRI hsm hbx hfun
      go_wp2_with (go_at_call 11; (with_reducible refine (cI _ hB).mono ?_); rintro e w4 ⟨rfl, hb4⟩)
      go_roundw
      case rel => exact ⟨k + 1, d ++ l5, by omega, by go_num, congrArg Value.string (bs_app _ _), by rw [List.length_append]; omega, Lib.hid (by rw [HX.out, List.flatMap_append, ← HD.out, HL5.out]; simp), belt hB (Nat.le_refl _) hb4⟩
      case measure => simp [intOf]; omega
    · obtain rfl : n = k := by omega
      have hdA : d = A := by
        rw [HD.out, HA.out, List.take_of_length_le (by have := HN.out; simp; omega)]
      subst hdA
      have hSl : S.length = P.length + d.length + Q.length := by rw [HSP.out]; simp only [List.length_append]
      have hq : ¬ (((bs S).size : Int) < ((bs d).size : Nat)) := by rw [bs_size, bs_size]; omega
      have hq2 : ¬ (bs S).size < (bs d).size := by omega
      clear hI hRI hsm hrow hbx hfun HN HA HD hd
      go_wp2
      clear q1 q2 hq hq2
      go_loopw [11] (fun i wz => ∃ j : Nat, j ≤ P.length ∧ i = .int .i64 j ∧ wr = wz) (fun i _ => P.length + 1 - (intOf i).toNat)
      case atStart => exact ⟨0, by omega, rfl, rfl⟩
      case round =>
        obtain ⟨j, hj, rfl, rfl⟩ := hrel
        have z1 : (bs S).size ≤ 300000 := by rw [bs_size]; omega
        have z2 : (bs d).size ≤ 220000 := by rw [bs_size]; exact hA
        have z3 : j + (bs d).size ≤ (bs S).size := by rw [bs_size, bs_size]; omega
        have z4 : (j : Int) + ((bs d).size : Nat) ≤ ((bs S).size : Nat) := by omega
        have z5 : IntKind.i64.wrap ((j : Int) + ((bs d).size : Nat)) = (j : Int) + ((bs d).size : Nat) := by rw [IntKind.wrap_i64]; omega
        have z6 : (j : Int) ≤ (j : Int) + ((bs d).size : Nat) := by omega
        have z7 : (0 : Int) ≤ (j : Int) + ((bs d).size : Nat) := by omega
        have hex : (bs S).extract j (j + (bs d).size) = bs ((S.drop j).take d.length) := by
          apply ByteArray.ext
          rw [ByteArray.data_extract]
          apply Array.toList_inj.1
          rw [Array.toList_extract, List.extract_eq_take_drop, bs_list9, bs_list9, bs_size]
          simp
        by_cases he : (S.drop j).take d.length = d
        · rw [he] at hex
          go_wp2
          go_ret
          exact ⟨rfl, hB3.trans (hB.mono hB3.size)⟩
        · have hjlt : j < P.length := by
            refine Nat.lt_of_le_of_ne hj fun e => he ?_
            rw [HSP.out, e, List.append_assoc, List.drop_left, List.take_left]
          have hx : ((bs ((S.drop j).take d.length)).toList == (bs d).toList) = false := name_ne (by
            intro e
            have := congrArg (fun b : ByteArray => b.data.toList) e
            simp only [bs_list9] at this
            exact he this)
          go_wp2
          go_roundw
          case rel => exact ⟨j + 1, by omega, by go_num, by first | rfl | trivial⟩
          case measure => simp [intOf]; omega
end Go.Proofs.YtieogmalgmgkeaaGreatDoor
