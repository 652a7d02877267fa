/-
  What holds of two calls, one behind the other. Plain facts that the proofs call; no statement is proved here.
-/
import Derived.Test.YthfipknfdnfalaaGreatDoorKbDrawInv
namespace Go.Proofs.YthfipknfdnfalaaGreatDoor
set_option maxRecDepth 100000
set_option maxHeartbeats 16000000
open Go.RowKit
set_option linter.unusedVariables false
theorem belt {B : Nat} {w W W' : World} (h : Below B w W) (hB : B ≤ w.heap.size) (h2 : Below W.heap.size W W') : Below B w W' := h.trans (h2.mono (Nat.le_trans hB h.size))
theorem bs_list9 (l : List UInt8) : (bs l).data.toList = l := by simp [bs]
theorem ins_small {x : InsV} (h : rightIns x = true) (hl : x.ls = []) (ha : inI64 x.a) : (ins5 x).length ≤ 22 := by
  obtain ⟨op, a, b, lp, lc, ls⟩ := x
  simp only at hl
  subst hl
  have h0 : rightOf (byCode op) op a b [] = true := h
  cases hby : byCode op with
  | none => rw [hby] at h0; cases h0
  | some r =>
    have hi : ins5 ⟨op, a, b, lp, lc, []⟩ = one5 op ++ tail5 r.shape ⟨op, a, b, lp, lc, []⟩ := by
      unfold ins5; simp only [hby]; rw [h]; rfl
    rw [hi, List.length_append]
    show 1 + _ ≤ _
    rw [hby] at h0
    unfold rightOf at h0
    simp only at h0
    unfold inI64 at ha
    have hbd := byCode_bd hby
    split at h0
    · cases h0
    · split at h0
      · cases h0
      · have h8 : r.shape = 0 ∨ r.shape = 1 ∨ r.shape = 2 ∨ r.shape = 3 ∨ r.shape = 4 ∨ r.shape = 5 ∨ r.shape = 6 ∨ r.shape = 7 := by omega
        rcases h8 with h | h | h | h | h | h | h | h
        all_goals rw [h] at h0 ⊢
        all_goals simp [word] at h0
        · show 1 + 0 ≤ _; omega
        · show 1 + 1 ≤ _; omega
        · have := putU_small (n := a) (by omega) (by omega); show 1 + (putU a).length ≤ _; omega
        · have h1 := putU_small (n := a) (by omega) (by omega)
          have h2 := putU_small (n := 0) (by omega) (by omega)
          show 1 + (putU 0 ++ [] ++ putU a).length ≤ _
          rw [List.length_append, List.length_append, List.length_nil]
          omega
        · have := putU_small (n := a) (by omega) (by omega); show 1 + (putU a).length ≤ _; omega
        · have h1 := putU_small (n := a) (by omega) (by omega)
          have h2 := putU_small (n := b) (by omega) (by omega)
          show 1 + (putU a ++ putU b).length ≤ _
          rw [List.length_append]; omega
        · show 1 + 1 ≤ _; omega
        · have h7 : -9223372036854775808 ≤ a ∧ a ≤ 9223372036854775807 := ha
          have := putS_len10 h7.1 h7.2
          show 1 + (putS a).length ≤ _; omega
def allB (code : List PI) : List UInt8 := (code.map insOf).flatMap ins5
theorem rightPI_ins {x : PI} (h : rightPI x = true) : rightIns (insOf x) = true ∧ inI64 x.a := by
  unfold rightPI at h
  simp only [Bool.and_eq_true, decide_eq_true_eq] at h
  exact ⟨h.1, h.2⟩
theorem all_small {code : List PI} (h : ∀ x ∈ code, rightPI x = true) : (allB code).length ≤ code.length * 22 := by
  unfold allB
  have := flat_most (f := ins5) (k := 22) (l := code.map insOf) fun y hy => by
    obtain ⟨x, hx, rfl⟩ := List.mem_map.1 hy
    exact ins_small (rightPI_ins (h x hx)).1 rfl (rightPI_ins (h x hx)).2
  simpa using this
def headB (mx i0 i1 ix : Int) : List UInt8 := [0, 97, 115, 109, 1, 0, 0, 0] ++ sect5 1 1 (ty5 ⟨⟨#[126, 127]⟩, ⟨#[126]⟩⟩) ++ sect5 3 1 (putU 0) ++ sect5 5 1 (mem5 ⟨1, mx⟩) ++ sect5 6 2 (glob5 ⟨127, true, i0⟩ ++ glob5 ⟨126, true, i1⟩) ++ sect5 7 1 (exp5 ⟨⟨#[102]⟩, 0, ix⟩) ++ []
def tailB : List UInt8 := sect5 11 1 (dat5 ⟨100, someBytes⟩)
def codeB (A : List UInt8) : List UInt8 := one5 10 ++ txt5 (putU 1 ++ txt5 (runs5 [127, 126] ++ A))
theorem made_bytes (H : Nat) (pc : Option Addr) (cc : Nat) (code : List PI) (mx i0 i1 ix : Int) : mod5 (madeV H pc cc code mx i0 i1 ix (-1)) = headB mx i0 i1 ix ++ codeB (allB code) ++ tailB := by
  have e1 : start5 (-1) = [] := if_pos rfl
  have e2 : ∀ l : List UInt8, sect5 10 1 l = one5 10 ++ txt5 (putU 1 ++ l) := fun l => if_neg (by decide)
  unfold mod5 madeV headB codeB tailB
  simp only [List.length_cons, List.length_nil, List.flatMap_cons, List.flatMap_nil, List.append_nil, e1]
  rw [show (0 + 1 : Nat) = 1 from rfl, show (1 + 1 : Nat) = 2 from rfl]
  simp only [e2]
  rfl
theorem code_in (A : List UInt8) (hA : A.length ≤ 1000000) : ∃ P Q, codeB A = P ++ A ++ Q ∧ P.length ≤ 100 ∧ Q = [] := by
  refine ⟨one5 10 ++ putU (putU 1 ++ txt5 (runs5 [127, 126] ++ A)).length ++ putU 1 ++ putU (runs5 [127, 126] ++ A).length ++ runs5 [127, 126], [], ?_, ?_, rfl⟩
  · unfold codeB txt5
    simp only [List.append_assoc, List.append_nil]
  · have h0 : (runs5 [127, 126]).length = 5 := by decide +kernel
    have h1 : (runs5 [127, 126] ++ A).length ≤ 1000005 := by rw [List.length_append]; omega
    have h2 := putU_len10 (n := ((runs5 [127, 126] ++ A).length : Int)) (by omega) (by omega)
    have h3 : (putU 1).length = 1 := by decide +kernel
    have h4 := txt5_len (s := runs5 [127, 126] ++ A) (by omega)
    have h5 : (putU 1 ++ txt5 (runs5 [127, 126] ++ A)).length ≤ 1000100 := by rw [List.length_append]; omega
    have h6 := putU_len10 (n := ((putU 1 ++ txt5 (runs5 [127, 126] ++ A)).length : Int)) (by omega) (by omega)
    simp only [List.length_append (bs := _), one5_len] at *
    omega
theorem pNum_cut {n : Int} (h0 : 0 ≤ n) {k : Nat} (hk : k < (putU n).length) : pNum ((putU n).take k) = .bad 2 := by
  have h : dec usg ((putU n).take k) = none := dec_open usg _ fun b hb => by
    refine putU_cut n h0 b ?_
    rw [List.dropLast_eq_take]
    have e : (putU n).take k = ((putU n).take ((putU n).length - 1)).take k := by rw [List.take_take, Nat.min_eq_left (by omega)]
    rw [e] at hb
    exact List.mem_of_mem_take hb
  unfold pNum pFit
  rw [h]
  rfl
theorem pText_cut {s : List UInt8} (hs : s.length < 4294967296) {k : Nat} (hk : k < (txt5 s).length) : pText ((txt5 s).take k) = .bad 2 := by
  unfold txt5 at hk ⊢
  unfold pText
  by_cases h : k < (putU s.length).length
  · rw [List.take_append_of_le_length (by omega)]
    exact and_bad (pNum_cut (by omega) h)
  · obtain ⟨j, rfl⟩ : ∃ j, k = (putU s.length).length + j := ⟨k - (putU s.length).length, by omega⟩
    rw [List.length_append] at hk
    rw [List.take_length_add_append, and_ok (pNum_put (by omega) (by omega) _), if_pos (by rw [List.length_take]; omega)]
theorem pSect_cut {id : Int} {p : Pts} {body : List UInt8} (hid : known6 id) (hl : p.last < id) (hs : body.length < 4294967296) {k : Nat} (h0 : 0 < k) (hk : k < (one5 id ++ txt5 body).length) : pSect p ((one5 id ++ txt5 body).take k) = .bad 2 := by
  unfold known6 at hid
  obtain ⟨j, rfl⟩ : ∃ j, k = j + 1 := ⟨k - 1, by omega⟩
  rw [List.length_append, one5_len] at hk
  have e : (one5 id ++ txt5 body).take (j + 1) = one5 id ++ (txt5 body).take j := by simp [one5]
  rw [e]
  unfold pSect
  rw [and_ok (pOne_one (by omega) (by omega) _), if_neg (by omega), if_neg (by omega)]
  unfold pWhole
  rw [and_bad (pText_cut hs (by omega))]
theorem pSects_bad {p : Pts} {l : List UInt8} {e : Int} (h : pSect p l = .bad e) (hl : l ≠ []) (f : Nat) : pSects (f + 1) p l = .bad e := by
  cases l with
  | nil => exact absurd rfl hl
  | cons b r => show ((pSect p).and (pSects f)) (b :: r) = _; rw [and_bad h]
def badOut {α : Type} : Out α → Bool
  | .bad e => decide (e = 2)
  | .ok _ _ => false
theorem badOut_is {α : Type} {o : Out α} (h : badOut o = true) : o = .bad 2 := by
  cases o with
  | bad e => simp only [badOut, decide_eq_true_eq] at h; rw [h]
  | ok v r => cases h
def head47 : List UInt8 := headB 2 5 (-5) 0
theorem head47_len : head47.length = 47 := by decide +kernel
theorem head47_cut : (List.range 48).all (fun k => decide (k = 8) || decide (k = 17) || badOut (mod6 (head47.take k))) = true := by decide +kernel
theorem head47_bad {k : Nat} (h : k ≤ 47) (h8 : k ≠ 8) (h17 : k ≠ 17) : mod6 (head47.take k) = .bad 2 := by
  have := List.all_eq_true.1 head47_cut k (List.mem_range.2 (by omega))
  simp only [Bool.or_eq_true, decide_eq_true_eq] at this
  exact badOut_is ((this.resolve_left (by omega)))
theorem head47_reads : ∃ p : Pts, p.last = 7 ∧ ∀ (f : Nat) (t : List UInt8), pSects (f + 5) pts0 (head47.drop 8 ++ t) = pSects f p t := by
  have s1 : ∀ t : List UInt8, pSect pts0 (sect5 1 1 (ty5 ⟨⟨#[126, 127]⟩, ⟨#[126]⟩⟩) ++ t) = .ok ⟨[⟨⟨#[126, 127]⟩, ⟨#[126]⟩⟩], [], [], [], [], -1, [], 1, []⟩ t := fun t => by
    rw [show sect5 1 1 (ty5 ⟨⟨#[126, 127]⟩, ⟨#[126]⟩⟩) = one5 1 ++ txt5 (putU 1 ++ ty5 ⟨⟨#[126, 127]⟩, ⟨#[126]⟩⟩) from if_neg (by decide), List.append_assoc]
    refine pSect_put (by unfold known6; omega) (by decide) ?_ (by decide +kernel) t
    have e := pList_put' (p := pTy) (F := ty5) (g := id) (l := [⟨⟨#[126, 127]⟩, ⟨#[126]⟩⟩]) (fun x hx r => by rw [List.mem_singleton.1 hx]; exact pTy_put (by decide) r) (by decide)
    simp only [List.flatMap_cons, List.flatMap_nil, List.append_nil, List.map_id, List.length_cons, List.length_nil] at e
    unfold pPart
    rw [if_neg (by decide), if_pos rfl]
    exact (and_ok e).trans rfl
  have s3 : ∀ t : List UInt8, pSect ⟨[⟨⟨#[126, 127]⟩, ⟨#[126]⟩⟩], [], [], [], [], -1, [], 1, []⟩ (sect5 3 1 (putU 0) ++ t) = .ok ⟨[⟨⟨#[126, 127]⟩, ⟨#[126]⟩⟩], [⟨0, bs [], none, 0, []⟩], [], [], [], -1, [], 3, []⟩ t := fun t => by
    rw [show sect5 3 1 (putU 0) = one5 3 ++ txt5 (putU 1 ++ putU 0) from if_neg (by decide), List.append_assoc]
    refine pSect_put (by unfold known6; omega) (by decide) ?_ (by decide +kernel) t
    have e := pList_put' (p := pFn) (F := fun f : FnV => putU f.type) (g := fun f => (⟨f.type, bs [], none, 0, []⟩ : FnV)) (l := [⟨0, bs [], none, 0, []⟩]) (fun x hx r => by rw [List.mem_singleton.1 hx]; exact pFn_put (by decide) r) (by decide)
    simp only [List.flatMap_cons, List.flatMap_nil, List.append_nil, List.map_cons, List.map_nil, List.length_cons, List.length_nil] at e
    unfold pPart
    rw [if_neg (by decide), if_neg (by decide), if_pos rfl]
    exact (and_ok e).trans rfl
  have s5 : ∀ t : List UInt8, pSect ⟨[⟨⟨#[126, 127]⟩, ⟨#[126]⟩⟩], [⟨0, bs [], none, 0, []⟩], [], [], [], -1, [], 3, []⟩ (sect5 5 1 (mem5 ⟨1, 2⟩) ++ t) = .ok ⟨[⟨⟨#[126, 127]⟩, ⟨#[126]⟩⟩], [⟨0, bs [], none, 0, []⟩], [⟨1, 2⟩], [], [], -1, [], 5, []⟩ t := fun t => by
    rw [show sect5 5 1 (mem5 ⟨1, 2⟩) = one5 5 ++ txt5 (putU 1 ++ mem5 ⟨1, 2⟩) from if_neg (by decide), List.append_assoc]
    refine pSect_put (by unfold known6; omega) (by decide) ?_ (by decide +kernel) t
    have e := pList_put' (p := pMem) (F := mem5) (g := id) (l := [⟨1, 2⟩]) (fun x hx r => by rw [List.mem_singleton.1 hx]; exact pMem_put (by decide) r) (by decide)
    simp only [List.flatMap_cons, List.flatMap_nil, List.append_nil, List.map_id, List.length_cons, List.length_nil] at e
    unfold pPart
    rw [if_neg (by decide), if_neg (by decide), if_neg (by decide), if_pos rfl]
    exact (and_ok e).trans rfl
  have s6 : ∀ t : List UInt8, pSect ⟨[⟨⟨#[126, 127]⟩, ⟨#[126]⟩⟩], [⟨0, bs [], none, 0, []⟩], [⟨1, 2⟩], [], [], -1, [], 5, []⟩ (sect5 6 2 (glob5 ⟨127, true, 5⟩ ++ glob5 ⟨126, true, -5⟩) ++ t) = .ok ⟨[⟨⟨#[126, 127]⟩, ⟨#[126]⟩⟩], [⟨0, bs [], none, 0, []⟩], [⟨1, 2⟩], [⟨127, true, 5⟩, ⟨126, true, -5⟩], [], -1, [], 6, []⟩ t := fun t => by
    rw [show sect5 6 2 (glob5 ⟨127, true, 5⟩ ++ glob5 ⟨126, true, -5⟩) = one5 6 ++ txt5 (putU 2 ++ (glob5 ⟨127, true, 5⟩ ++ glob5 ⟨126, true, -5⟩)) from if_neg (by decide), List.append_assoc]
    refine pSect_put (by unfold known6; omega) (by decide) ?_ (by decide +kernel) t
    have e := pList_put' (p := pGlob) (F := glob5) (g := id) (l := [⟨127, true, 5⟩, ⟨126, true, -5⟩]) (fun x hx r => by
      rcases List.mem_cons.1 hx with rfl | hx
      · exact pGlob_put (by decide) (by show inI64 5; unfold inI64; decide) r
      · rw [List.mem_singleton.1 hx]; exact pGlob_put (by decide) (by show inI64 (-5); unfold inI64; decide) r) (by decide)
    simp only [List.flatMap_cons, List.flatMap_nil, List.append_nil, List.map_id, List.length_cons, List.length_nil] at e
    unfold pPart
    rw [if_neg (by decide), if_neg (by decide), if_neg (by decide), if_neg (by decide), if_pos rfl]
    exact (and_ok e).trans rfl
  have s7 : ∀ t : List UInt8, pSect ⟨[⟨⟨#[126, 127]⟩, ⟨#[126]⟩⟩], [⟨0, bs [], none, 0, []⟩], [⟨1, 2⟩], [⟨127, true, 5⟩, ⟨126, true, -5⟩], [], -1, [], 6, []⟩ (sect5 7 1 (exp5 ⟨⟨#[102]⟩, 0, 0⟩) ++ t) = .ok ⟨[⟨⟨#[126, 127]⟩, ⟨#[126]⟩⟩], [⟨0, bs [], none, 0, []⟩], [⟨1, 2⟩], [⟨127, true, 5⟩, ⟨126, true, -5⟩], [⟨⟨#[102]⟩, 0, 0⟩], -1, [], 7, []⟩ t := fun t => by
    rw [show sect5 7 1 (exp5 ⟨⟨#[102]⟩, 0, 0⟩) = one5 7 ++ txt5 (putU 1 ++ exp5 ⟨⟨#[102]⟩, 0, 0⟩) from if_neg (by decide), List.append_assoc]
    refine pSect_put (by unfold known6; omega) (by decide) ?_ (by decide +kernel) t
    have e := pList_put' (p := pExp) (F := exp5) (g := id) (l := [⟨⟨#[102]⟩, 0, 0⟩]) (fun x hx r => by rw [List.mem_singleton.1 hx]; exact pExp_put (by decide) (by decide) r) (by decide)
    simp only [List.flatMap_cons, List.flatMap_nil, List.append_nil, List.map_id, List.length_cons, List.length_nil] at e
    unfold pPart
    rw [if_neg (by decide), if_neg (by decide), if_neg (by decide), if_neg (by decide), if_neg (by decide), if_pos rfl]
    exact (and_ok e).trans rfl
  refine ⟨⟨[⟨⟨#[126, 127]⟩, ⟨#[126]⟩⟩], [⟨0, bs [], none, 0, []⟩], [⟨1, 2⟩], [⟨127, true, 5⟩, ⟨126, true, -5⟩], [⟨⟨#[102]⟩, 0, 0⟩], -1, [], 7, []⟩, rfl, fun f t => ?_⟩
  · have hd0 : head47.drop 8 = sect5 1 1 (ty5 ⟨⟨#[126, 127]⟩, ⟨#[126]⟩⟩) ++ (sect5 3 1 (putU 0) ++ (sect5 5 1 (mem5 ⟨1, 2⟩) ++ (sect5 6 2 (glob5 ⟨127, true, 5⟩ ++ glob5 ⟨126, true, -5⟩) ++ sect5 7 1 (exp5 ⟨⟨#[102]⟩, 0, 0⟩)))) := by
      unfold head47 headB
      rw [List.append_nil]
      simp only [List.append_assoc]
      exact List.drop_left (l₁ := [0, 97, 115, 109, 1, 0, 0, 0])
    have hd : head47.drop 8 ++ t = sect5 1 1 (ty5 ⟨⟨#[126, 127]⟩, ⟨#[126]⟩⟩) ++ (sect5 3 1 (putU 0) ++ (sect5 5 1 (mem5 ⟨1, 2⟩) ++ (sect5 6 2 (glob5 ⟨127, true, 5⟩ ++ glob5 ⟨126, true, -5⟩) ++ (sect5 7 1 (exp5 ⟨⟨#[102]⟩, 0, 0⟩) ++ t)))) := by
      rw [hd0]
      simp only [List.append_assoc]
    have ne : ∀ (i : Int) (n : Nat) (s t : List UInt8), n ≠ 0 → sect5 i n s ++ t ≠ [] := fun i n s t hn => by
      unfold sect5
      rw [if_neg hn]
      simp [one5]
    rw [hd, pSects_step (s1 _) (ne _ _ _ _ (by decide)), pSects_step (s3 _) (ne _ _ _ _ (by decide)), pSects_step (s5 _) (ne _ _ _ _ (by decide)), pSects_step (s6 _) (ne _ _ _ _ (by decide)), pSects_step (s7 _) (ne _ _ _ _ (by decide))]
theorem cut_ans {A : List UInt8} (hA : A.length ≤ 250000) {k : Nat} (hk : k < (head47 ++ codeB A ++ tailB).length) (h8 : k ≠ 8) (h17 : k ≠ 17) (hb : 40 ≤ (head47 ++ codeB A ++ tailB).length - k) : mod6 ((head47 ++ codeB A ++ tailB).take k) = .bad 2 := by
  have hl := head47_len
  have ht : tailB.length = 19 := by decide +kernel
  rw [List.length_append, List.length_append] at hk hb
  rw [List.append_assoc]
  by_cases h47 : k ≤ 47
  · rw [List.take_append_of_le_length (by omega)]
    exact head47_bad h47 h8 h17
  · obtain ⟨j, rfl⟩ : ∃ j, k = head47.length + j := ⟨k - 47, by omega⟩
    rw [List.take_length_add_append, List.take_append_of_le_length (by omega)]
    obtain ⟨p, hp, hs⟩ := head47_reads
    have hin : (putU 1 ++ txt5 (runs5 [127, 126] ++ A)).length < 4294967296 := by
      have h0 : (runs5 [127, 126]).length = 5 := by decide +kernel
      have h3 : (putU 1).length = 1 := by decide +kernel
      have h4 := txt5_len (s := runs5 [127, 126] ++ A) (by rw [List.length_append]; omega)
      rw [List.length_append] at h4 ⊢
      omega
    have hc : pSect p ((codeB A).take j) = .bad 2 := pSect_cut (by unfold known6; omega) (by rw [hp]; decide) hin (by omega) (by show j < (codeB A).length; omega)
    have hne : (codeB A).take j ≠ [] := fun e => by
      have := congrArg List.length e
      rw [List.length_take, List.length_nil] at this
      omega
    have hcl : (codeB A).length ≤ 1000000 := by
      obtain ⟨P, Q, h1, h2, rfl⟩ := code_in A (by omega)
      rw [h1]
      simp only [List.length_append, List.length_nil]
      omega
    unfold mod6
    rw [if_neg (by rw [List.length_append, List.length_take]; omega), if_neg (by
      rw [List.take_append_of_le_length (by omega)]
      exact fun h => h (by decide +kernel))]
    rw [List.drop_append_of_le_length (by omega)]
    obtain ⟨f, hf⟩ : ∃ f, (head47 ++ (codeB A).take j).length = f + 1 + 5 := ⟨(head47 ++ (codeB A).take j).length - 6, by rw [List.length_append]; omega⟩
    rw [hf, hs, pSects_bad hc hne]
theorem code_least {A : List UInt8} : 9 ≤ (codeB A).length := by
  unfold codeB txt5
  have h0 : (runs5 [127, 126]).length = 5 := by decide +kernel
  have h3 : (putU 1).length = 1 := by decide +kernel
  have a := List.length_pos_iff.2 (putU_ne (putU 1 ++ (putU (runs5 [127, 126] ++ A).length ++ (runs5 [127, 126] ++ A))).length)
  have b := List.length_pos_iff.2 (putU_ne (runs5 [127, 126] ++ A).length)
  simp only [List.length_append, one5_len] at *
  omega
end Go.Proofs.YthfipknfdnfalaaGreatDoor
