/-
  A region that draws its order and whose last operations wait for all the others: the others first, at every order; then the last ones. (The store of 'x.f = append(x.f ..)' hits a cell that the others load.) No program is looked at; no statement is proved here.
-/
import Derived.Test.YtpamchagidnijaaGreatDoorDrawInv
import Derived.Deep.RegionHeld3
import Derived.Test.YtpamchagidnijaaGreatDoorEncHead
import Derived.Maps.AppendAt
import Derived.Deep.Cut
namespace Go.Proofs.YtpamchagidnijaaGreatDoor
open Go
section
variable {P : Program} {md : Region.Mode} {ops : Array Oper} {Q : Exit → Act → World → Prop} {m k : Nat}
def frontOf (m : Nat) (ops : Array Oper) : Array Oper := (ops.toList.take m).toArray
theorem frontOf_get {i : Nat} (hi : i < m) : (frontOf m ops)[i]? = ops[i]? := by
  simp [frontOf, hi]
def lastOf (m n : Nat) : Array Bool := (List.replicate m true ++ List.replicate (n - m) false).toArray
theorem left_none {l : List Bool} (h : ∀ i, i < l.length → l[i]? = some true) : left l = 0 := by
  unfold left
  rw [List.countP_eq_zero]
  intro b hb
  obtain ⟨i, hi, rfl⟩ := List.mem_iff_getElem.1 hb
  have := h i hi
  rw [List.getElem?_eq_getElem hi] at this
  simpa using this
theorem wpOp_front {T : Act → World → Prop} {i : Nat} {K : Act → World → Prop} {a : Act} {w : World} (hi : i < m) (hg : (ops[i]?.map fun o => o.guard.isNone) = some true) (h : wpOp P (frontOf m ops) (Exit.then T Q) i K a w) : wpOp P ops Q i K a w := by
  unfold wpOp at *
  rw [frontOf_get hi] at h
  cases ho : ops[i]? with
  | none => rw [ho] at h; exact h
  | some o =>
    rw [ho] at h hg
    have hn : o.guard = none := by simpa using hg
    have hw : ∀ y, Region.wanted o y = true := fun y => by simp [Region.wanted, hn]
    simp only [hw, if_true] at h ⊢
    rcases h with h | ⟨h1, a', w', h2⟩
    · left
      unfold Oper.wp at *
      generalize (execOp a.eval o).run P w = r at *
      cases r with
      | ok n w' => cases n <;> simp only [Oper.upon] at h ⊢ <;> first | exact h | (exact Calls.mono h fun e w'' he => by cases e <;> exact he)
      | halt x w' => cases x <;> simp only [Oper.upon] at h ⊢ <;> exact h
    · exact .inr ⟨h1, a', w', h2⟩
theorem wpAny_front (hmn : m ≤ ops.size) (hg : ((List.range m).all fun i => (ops[i]?.map fun o => o.guard.isNone) == some true) = true)
    (hd : ((List.range ops.size).all fun i => (ops[i]?.map fun o => o.after.all fun e => decide (e.on < i)).getD false) = true)
    (hw : ((List.range ops.size).all fun i => decide (i < m) || (List.range m).all fun j => (ops[i]?.map fun o => o.after.any fun e => e.on == j && Region.binds md e) == some true) = true) :
    ∀ (fuel : Nat) (l : Array Bool) (a : Act) (w : World), l.size = ops.size → (∀ i, m ≤ i → i < ops.size → l[i]? = some false) → left (l.toList.take m) = fuel →
      wpAny P md (frontOf m ops) (Exit.then (wpAny P md ops Q k (lastOf m ops.size)) Q) fuel (l.toList.take m).toArray a w → wpAny P md ops Q (fuel + k) l a w
  | 0, l, a, w, hs, ht, hl, h => by
    have h1 := left_zero _ hl
    have hL : l = lastOf m ops.size := by
      apply Array.toList_inj.1
      apply List.ext_getElem?
      intro i
      show l.toList[i]? = (List.replicate m true ++ List.replicate (ops.size - m) false)[i]?
      rw [Array.getElem?_toList]
      by_cases him : i < m
      · have := h1 i (by simp; omega)
        rw [List.getElem?_take, if_pos him, Array.getElem?_toList] at this
        rw [this, List.getElem?_append_left (by simpa using him)]
        simp [him]
      · by_cases hin : i < ops.size
        · rw [ht i (by omega) hin, List.getElem?_append_right (by simp; omega)]
          simp [List.getElem?_replicate]
          omega
        · rw [Array.getElem?_eq_none_iff.2 (by omega), List.getElem?_eq_none_iff.2 (by simp; omega)]
    rw [Nat.zero_add, hL]
    exact h.2
  | fuel + 1, l, a, w, hs, ht, hl, h => by
    rw [show fuel + 1 + k = (fuel + k) + 1 by omega]
    have hex : ¬ ∀ j, j < m → l.getD j false = true := fun hall => by
      have : left (l.toList.take m) = 0 := left_none fun i hi => by
        have hi' : i < m := by simp at hi; omega
        have h2 := hall i hi'
        rw [List.getElem?_take, if_pos hi', Array.getElem?_toList]
        rw [Array.getD_eq_getD_getElem?] at h2
        cases hv : l[i]? with
        | none => rw [hv] at h2; cases h2
        | some b => rw [hv] at h2; simp at h2; rw [h2]
      omega
    refine ⟨fun h0 => absurd (fun j hj => all_listed hs hd h0 j (by omega)) hex, fun i hi => ?_⟩
    have hin := (ready_dep hi).1
    by_cases him : i < m
    · have hiR : i ∈ Region.ready md (frontOf m ops) (l.toList.take m).toArray := by
        obtain ⟨h1, o, ho, h2⟩ := mem_ready.1 hi
        refine mem_ready.2 ⟨?_, o, by rw [frontOf_get him]; exact ho, fun e he hb => ?_⟩
        · rw [Array.getD_eq_getD_getElem?] at h1 ⊢
          simp only [List.getElem?_toArray, List.getElem?_take, him, if_true, Array.getElem?_toList]
          exact h1
        · have h3 := h2 e he hb
          have h4 := List.all_eq_true.1 hd i (List.mem_range.2 hin)
          rw [ho] at h4
          simp only [Option.map_some, Option.getD_some] at h4
          have h5 := of_decide_eq_true (Array.all_eq_true_iff_forall_mem.1 h4 e he)
          rw [Array.getD_eq_getD_getElem?] at h3 ⊢
          simp only [List.getElem?_toArray, List.getElem?_take, show e.on < m by omega, if_true, Array.getElem?_toList]
          exact h3
      have hgi : (ops[i]?.map fun o => o.guard.isNone) = some true := by
        have := List.all_eq_true.1 hg i (List.mem_range.2 him)
        simpa using this
      have h6 := wpOp_front him hgi (h.2 i hiR)
      have hli : l[i]? = some false := by
        have h1 := (ready_dep hi).2.1
        rw [Array.getD_eq_getD_getElem?] at h1
        cases hv : l[i]? with
        | none => rw [Array.getElem?_eq_none_iff] at hv; omega
        | some b => rw [hv] at h1; simp at h1; rw [h1]
      have hset : ((l.setIfInBounds i true).toList.take m) = (l.toList.take m).set i true := by
        rw [Array.toList_setIfInBounds, List.take_set]
      refine wpOp_mono (fun a' w' h' => wpAny_front hmn hg hd hw fuel _ a' w' (by simp [hs]) (fun j hj hjn => ?_) ?_ ?_) h6
      · rw [Array.getElem?_setIfInBounds_ne (by omega)]; exact ht j hj hjn
      · have := left_set (l.toList.take m) i (by rw [List.getElem?_take, if_pos him, Array.getElem?_toList]; exact hli)
        rw [hset]
        omega
      · rw [hset]
        have : (l.toList.take m).toArray.setIfInBounds i true = ((l.toList.take m).set i true).toArray := by simp
        rw [this] at h'
        exact h'
    · refine absurd (fun j hj => ?_) hex
      have h4 := List.all_eq_true.1 hw i (List.mem_range.2 hin)
      rw [decide_eq_false him, Bool.false_or] at h4
      have h5 := List.all_eq_true.1 h4 j (List.mem_range.2 hj)
      exact ready_on hi (by simpa using h5)
/-- An operation that is taken first, by where its value goes. -/
theorem take_dst {S : World → Prop} {i d : Nat} {oi : Oper} {v : Value} {fuel : Nat} {listed : Array Bool} {a : Act} {w : World} (hi : ops[i]? = some oi) (hd : oi.dst = some d)
    (hs : Region.noSelect ops = true) (hf : Region.free md ops listed i = true) (hr : (Region.ready md ops listed).contains i = true)
    (hQ : ∀ c a w, Q (.panic c) (a.put oi.dst v) w → Q (.panic c) a w) (hy : YieldsIf P ops S oi v a) (hS : S w)
    (h : wpAnyH P md ops Q S fuel (listed.setIfInBounds i true) (a.put (some d) v) w) : wpAnyH P md ops Q S (fuel + 1) listed a w :=
  wpAnyH_take hi hs hf hr hQ hy hS (hd ▸ h)
theorem takeAny_dst {i d : Nat} {oi : Oper} {v : Value} {fuel : Nat} {listed : Array Bool} {a : Act} {w : World} (hi : ops[i]? = some oi) (hd : oi.dst = some d)
    (hs : Region.noSelect ops = true) (hf : Region.free md ops listed i = true) (hr : (Region.ready md ops listed).contains i = true)
    (hQ : ∀ c a w, Q (.panic c) (a.put oi.dst v) w → Q (.panic c) a w) (hy : Yields P ops oi v a)
    (h : wpAny P md ops Q fuel (listed.setIfInBounds i true) (a.put (some d) v) w) : wpAny P md ops Q (fuel + 1) listed a w :=
  wpAny_take hi hs hf hr hQ hy (hd ▸ h)
/-- One that comes up, by where its value goes. -/
theorem step_dst {S : World → Prop} {fuel : Nat} {listed : Array Bool} {a : Act} {w : World} {i d : Nat} {op : Op} {ty : TypeId} {rs : List Nat} (ho : (ops[i]?.map fun o => (o.dst, o.op, o.type, o.guard)) = some (some d, op, ty, none))
    (h : ∀ K' : Act → World → Prop, Shut (∀ a w, S w → (S w → wpAnyH P md ops Q S fuel (listed.setIfInBounds i true) a w) → K' a w) → ∀ o : Oper, o.dst = some d → o.op = op → o.type = ty → o.guard = none → if Region.wanted o (yielded ops a.tmps) = true then Oper.wp P o a w K' Q else K' (a.put o.dst undef) w)
    (hs : AllReadyH P md ops Q S fuel listed a w rs) : AllReadyH P md ops Q S fuel listed a w (i :: rs) := by
  cases hv : ops[i]? with
  | none => rw [hv] at ho; cases ho
  | some o =>
    rw [hv] at ho
    simp only [Option.map_some, Option.some.injEq, Prod.mk.injEq] at ho
    exact AllReadyH.cons hv (fun K' hK => h K' hK o ho.1 ho.2.1 ho.2.2.1 ho.2.2.2) hs
/-- THE RULE: S holds of every world until the last operations. -/
theorem wp_region_front {id : Nat} {a : Act} {w : World} (m : Nat) (S : World → Prop) (hm : P.follows .mixedOrders = true) (hmn : m ≤ ops.size) (hg : ((List.range m).all fun i => (ops[i]?.map fun o => o.guard.isNone) == some true) = true)
    (hd : ((List.range ops.size).all fun i => (ops[i]?.map fun o => o.after.all fun e => decide (e.on < i)).getD false) = true)
    (hw : ((List.range ops.size).all fun i => decide (i < m) || (List.range m).all fun j => (ops[i]?.map fun o => o.after.any fun e => e.on == j && Region.binds .any e) == some true) = true)
    (h : wpAnyH P .any (frontOf m ops) (Exit.then (wpAny P .any ops Q (ops.size - m) (lastOf m ops.size)) Q) S m (Array.replicate m false) a w.drew) : (Code.region id ops true).wp P Q a w := by
  refine wp_region_any hm ?_
  have h1 := wpAny_of_held _ _ _ _ h
  have h2 := wpAny_front (k := ops.size - m) hmn hg hd hw m (Array.replicate ops.size false) a w.drew (by simp) (fun i _ hi => by simp [hi]) (by simp [left, List.take_replicate, Nat.min_eq_left hmn, List.countP_replicate]) (by
    have e : ((Array.replicate ops.size false).toList.take m).toArray = Array.replicate m false := by
      apply Array.toList_inj.1
      simp [List.take_replicate, Nat.min_eq_left hmn]
    rw [e]; exact h1)
  rw [show m + (ops.size - m) = ops.size by omega] at h2
  exact h2
end
end Go.Proofs.YtpamchagidnijaaGreatDoor

namespace Go.Proofs.YtpamchagidnijaaGreatDoor
open Go.RowKit
set_option linter.unusedVariables false
theorem bs_size6 (l : List UInt8) : (bs l).size = l.length := by simp [bs, ByteArray.size]

set_option maxRecDepth 100000 in
set_option maxHeartbeats 16000000 in
theorem encApart_go (p : Option Addr) (c ln : Nat) (L : List PI) (at0 : Int) (hat : 0 ≤ at0 ∧ at0 < 256) (nm : ByteArray) (hnm : nm.size ≤ 140737488351232) (w : World) (hLaid : Laid w) (hne : L ≠ [])
    (cM : ∀ W, Below w.heap.size w W → Calls Tryz.prog 11 #[.slice p ln c] W fun e w' => ∃ H pc cc, e = .returned (madeV H pc cc L 2 5 (-5) 0 (-1)).val ∧ MadeAt w' (W.heap.size + 2) H pc cc L 2 5 (-5) 0 ∧ Below W.heap.size W w') :
    Calls Tryz.prog 3 #[.slice p ln c, .int .u8 at0, .string nm] w fun e w' => e = .returned (.bool true) ∧ Below w.heap.size w w' := by
  have cH := head5 w hLaid
  have hv : ∀ H pc cc code, (madeV H pc cc code 2 5 (-5) 0 (-1)).val = .agg #[.slice (some ⟨H, 0, none⟩) 1 1, .slice (some ⟨H + 1, 0, none⟩) 1 1, .slice (some ⟨H + 2, 0, none⟩) 1 1, .slice (some ⟨H + 3, 0, none⟩) 2 2, .slice (some ⟨H + 4, 0, none⟩) 1 1, .int .i64 (-1), .slice (some ⟨H + 5, 0, none⟩) 1 1] := fun _ _ _ _ => rfl
  simp only [hv] at cM
  obtain ⟨n, hn⟩ : ∃ n, L.length = n := ⟨_, rfl⟩
  have hn0 : 0 < n := by rw [← hn]; exact List.length_pos_iff.2 hne
  have hq : ((n : Int) == 0) = false := beq_eq_false_iff_ne.2 (by omega)
  have hnz : (n : Int) ≠ 0 := by omega
  obtain ⟨kk, hkk, hlt⟩ : ∃ kk : Nat, at0 % (n : Int) = kk ∧ kk < n := ⟨(at0 % (n : Int)).toNat, (by have := Int.emod_nonneg at0 hnz; omega), (by have := Int.emod_lt_of_pos at0 (show (0 : Int) < n by omega); omega)⟩
  have HN := Lib.hid hn
  obtain ⟨i0, hi, hz0, hz1, hz2⟩ := info_parts instr_info
  clear hn
  go_enter Tryz.func3, Tryz.ntmps3
  go_wp2_with (first
    | (go_at_call 10; (with_reducible refine cH.mono ?_); rintro e w1 ⟨rfl, hB1⟩)
    | (go_at_call 11; (with_reducible refine (cM _ hB1).mono ?_); rintro e w2 ⟨H, pc, cc, rfl, hM, hb2⟩; have hB2 := belt hB1 (Nat.le_refl _) hb2; have hans := (ap_ans (H := H) (pc := pc) (cc := cc) hM.right hM.runs0 (Nat.le_succ_of_le hM.most)).1; have cE := fun W (hW : Below w2.heap.size w2 W) => enc_mod (madeV H pc cc L 2 5 (-5) 0 (-1)) W ((hLaid.below hB2).below hW) ((hM.below hW).modAt ⟨by decide, by decide⟩ ⟨by decide, by decide⟩ ⟨by decide, by decide⟩ ⟨by decide, by decide⟩ ⟨by decide, by decide⟩); rw [← apV_made, hans, apV_made, hv] at cE; clear hans)
    | (go_at_call 12; (with_reducible refine (cE _ ((Below.refl _ w2).alloc (Nat.le_refl _) _)).mono ?_); rintro e w3 ⟨rfl, hb3⟩; have hB3 : Below w.heap.size w w3 := (hB2.alloc hB2.size _).trans (hb3.mono (by have := hB2.size; simp; omega)); have hmost := hM.most; have hright := hM.right; have hruns := hM.runs0; obtain ⟨Sa, hSa⟩ : ∃ S, S = headN fName ++ codeB (allB L) ++ tailB := ⟨_, rfl⟩; rw [← hSa]; have HSA := Lib.hid hSa; clear hM hb2 hB2 hB1 cE hSa hb3)
    | (go_at_call 11; (with_reducible refine (cM _ hB3).mono ?_); rintro e w4 ⟨H2, p2, c2, rfl, hM, hb4⟩; have hB4 := belt hB3 (Nat.le_refl _) hb4; have hf4 := hM.funcs; rw [HN.out] at hf4; have hl4 : H2 + 1 < w4.heap.size := (by have := hM.size; omega); have q4 := fun o => (World.cell?_alloc_lt w4 o (⟨H2 + 1, 2, none⟩ : Addr) hl4).trans (by rw [World.cell?, hf4]; rfl : w4.cell? ⟨H2 + 1, 2, none⟩ = some (.slice p2 n c2))))
  have ho2 := hM.owned
  rw [HN.out] at ho2
  obtain ⟨g2, rfl⟩ := own_pos ho2 hn0
  have hcap : n ≤ c2 := by
    obtain ⟨n', rfl⟩ : ∃ n', n = n' + 1 := ⟨n - 1, by omega⟩
    obtain ⟨g, cp, e, _, _, hcp, _⟩ := own_block ho2
    cases e; exact hcp
  obtain ⟨V4, hV4⟩ : ∃ V : Array Value, V = #[.slice (some ⟨H2, 0, none⟩) 1 1, .slice (some ⟨H2 + 1, 0, none⟩) 1 1, .slice (some ⟨H2 + 2, 0, none⟩) 1 1, .slice (some ⟨H2 + 3, 0, none⟩) 2 2, .slice (some ⟨H2 + 4, 0, none⟩) 1 1, .int .i64 (-1), .slice (some ⟨H2 + 5, 0, none⟩) 1 1] := ⟨_, rfl⟩
  have hbX0 : Below w4.heap.size w4 (w4.alloc (.cells V4 31)) := (Below.refl _ _).alloc (Nat.le_refl _) _
  have hbox : (w4.alloc (.cells V4 31)).heap[w4.heap.size]? = some (.cells V4 31) := heap_alloc_new _ _
  rw [← hV4]
  have hsX : (w4.alloc (.cells V4 31)).heap.size = w4.heap.size + 1 := by simp
  generalize w4.alloc (.cells V4 31) = X0 at *
  have hM0 := hM.below hbX0
  have hR1 : ∀ W, Below X0.heap.size X0 W → W.cell? ⟨w4.heap.size, 1, none⟩ = some (.slice (some ⟨H2 + 1, 0, none⟩) 1 1) := fun W hW => by rw [World.cell?, (hW.block _ (by omega)).trans hbox, hV4]; rfl
  have hR2 : ∀ W, Below X0.heap.size X0 W → W.cell? ⟨H2 + 1, 2, none⟩ = some (.slice (some ⟨g2, 0, none⟩) n c2) := fun W hW => by rw [World.cell?, (hM0.below hW).funcs, HN.out]; rfl
  have k0 : (0 : Int) ≤ (kk : Int) := by omega
  have k1 : (kk : Int) ≤ (c2 : Int) := by omega
  have k2 : (kk : Int) ≤ (n : Int) := by omega
  have k3 : (n : Int) ≤ (c2 : Int) := by omega
  have hH : (fun W => Below X0.heap.size X0 W) X0.drew := (Below.refl _ _).drew
  have hH0 : Below X0.heap.size X0 X0.drew := (Below.refl _ _).drew
  have hOwn : ∀ W, Below X0.heap.size X0 W → W.ownsRow (w3.heap.size + 2) 41 4 (.slice (some ⟨g2, 0, none⟩) n c2) n (codeCells L) := fun W hW => by have := (hM0.below hW).owned; rwa [HN.out] at this
  have hmn : n ≤ 10000 := by rw [← HN.out]; exact hmost
  have HSX := Lib.hid hsX
  clear q4 hf4 hl4 hsX
  refine wp_region_front 21 (fun W => Below X0.heap.size X0 W) (by kernel_rfl) (by decide) (by kernel_rfl) (by kernel_rfl) (by kernel_rfl) ?_
  refine take_dst (i := 0) (d := 53) (v := ?_) ((frontOf_get (by decide)).trans rfl) rfl (by kernel_rfl) (by kernel_rfl) (by kernel_rfl) (fun _ _ _ h => h) (Or.inl ⟨by rfl, ?_⟩) hH ?_
  rotate_left
  · intro W hSw
    skip
    go_simp
    try with_reducible rfl
  simp only [Act.put, List.setIfInBounds_toArray, List.set_cons_zero, List.set_cons_succ]
  refine take_dst (i := 1) (d := 54) (v := ?_) ((frontOf_get (by decide)).trans rfl) rfl (by kernel_rfl) (by kernel_rfl) (by kernel_rfl) (fun _ _ _ h => h) (Or.inl ⟨by rfl, ?_⟩) hH ?_
  rotate_left
  · intro W hSw
    have r1 := hR1 W hSw; have r2 := hR2 W hSw
    go_simp
    try with_reducible rfl
  simp only [Act.put, List.setIfInBounds_toArray, List.set_cons_zero, List.set_cons_succ]
  refine take_dst (i := 2) (d := 55) (v := ?_) ((frontOf_get (by decide)).trans rfl) rfl (by kernel_rfl) (by kernel_rfl) (by kernel_rfl) (fun _ _ _ h => h) (Or.inl ⟨by rfl, ?_⟩) hH ?_
  rotate_left
  · intro W hSw
    skip
    go_simp
    try with_reducible rfl
  simp only [Act.put, List.setIfInBounds_toArray, List.set_cons_zero, List.set_cons_succ]
  refine take_dst (i := 3) (d := 56) (v := ?_) ((frontOf_get (by decide)).trans rfl) rfl (by kernel_rfl) (by kernel_rfl) (by kernel_rfl) (fun _ _ _ h => h) (Or.inl ⟨by rfl, ?_⟩) hH ?_
  rotate_left
  · intro W hSw
    have r1 := hR1 W hSw; have r2 := hR2 W hSw
    go_simp
    try with_reducible rfl
  simp only [Act.put, List.setIfInBounds_toArray, List.set_cons_zero, List.set_cons_succ]
  refine take_dst (i := 4) (d := 57) (v := ?_) ((frontOf_get (by decide)).trans rfl) rfl (by kernel_rfl) (by kernel_rfl) (by kernel_rfl) (fun _ _ _ h => h) (Or.inl ⟨by rfl, ?_⟩) hH ?_
  rotate_left
  · intro W hSw
    skip
    go_simp
    try with_reducible rfl
  simp only [Act.put, List.setIfInBounds_toArray, List.set_cons_zero, List.set_cons_succ]
  refine take_dst (i := 5) (d := 58) (v := ?_) ((frontOf_get (by decide)).trans rfl) rfl (by kernel_rfl) (by kernel_rfl) (by kernel_rfl) (fun _ _ _ h => h) (Or.inl ⟨by rfl, ?_⟩) hH ?_
  rotate_left
  · intro W hSw
    skip
    go_simp
    try with_reducible rfl
  simp only [Act.put, List.setIfInBounds_toArray, List.set_cons_zero, List.set_cons_succ]
  refine take_dst (i := 6) (d := 59) (v := ?_) ((frontOf_get (by decide)).trans rfl) rfl (by kernel_rfl) (by kernel_rfl) (by kernel_rfl) (fun _ _ _ h => h) (Or.inl ⟨by rfl, ?_⟩) hH ?_
  rotate_left
  · intro W hSw
    have r1 := hR1 W hSw; have r2 := hR2 W hSw
    go_simp
    try with_reducible rfl
  simp only [Act.put, List.setIfInBounds_toArray, List.set_cons_zero, List.set_cons_succ]
  refine take_dst (i := 7) (d := 60) (v := ?_) ((frontOf_get (by decide)).trans rfl) rfl (by kernel_rfl) (by kernel_rfl) (by kernel_rfl) (fun _ _ _ h => h) (Or.inl ⟨by rfl, ?_⟩) hH ?_
  rotate_left
  · intro W hSw
    skip
    go_simp
    try with_reducible rfl
  simp only [Act.put, List.setIfInBounds_toArray, List.set_cons_zero, List.set_cons_succ]
  refine take_dst (i := 8) (d := 61) (v := ?_) ((frontOf_get (by decide)).trans rfl) rfl (by kernel_rfl) (by kernel_rfl) (by kernel_rfl) (fun _ _ _ h => h) (Or.inl ⟨by rfl, ?_⟩) hH ?_
  rotate_left
  · intro W hSw
    skip
    go_simp
    try with_reducible rfl
  simp only [Act.put, List.setIfInBounds_toArray, List.set_cons_zero, List.set_cons_succ]
  refine take_dst (i := 10) (d := 63) (v := ?_) ((frontOf_get (by decide)).trans rfl) rfl (by kernel_rfl) (by kernel_rfl) (by kernel_rfl) (fun _ _ _ h => h) (Or.inl ⟨by rfl, ?_⟩) hH ?_
  rotate_left
  · intro W hSw
    skip
    go_simp
    try with_reducible rfl
  simp only [Act.put, List.setIfInBounds_toArray, List.set_cons_zero, List.set_cons_succ]
  refine take_dst (i := 13) (d := 66) (v := ?_) ((frontOf_get (by decide)).trans rfl) rfl (by kernel_rfl) (by kernel_rfl) (by kernel_rfl) (fun _ _ _ h => h) (Or.inl ⟨by rfl, ?_⟩) hH ?_
  rotate_left
  · intro W hSw
    skip
    go_simp
    try with_reducible rfl
  simp only [Act.put, List.setIfInBounds_toArray, List.set_cons_zero, List.set_cons_succ]
  refine take_dst (i := 14) (d := 67) (v := ?_) ((frontOf_get (by decide)).trans rfl) rfl (by kernel_rfl) (by kernel_rfl) (by kernel_rfl) (fun _ _ _ h => h) (Or.inl ⟨by rfl, ?_⟩) hH ?_
  rotate_left
  · intro W hSw
    have r1 := hR1 W hSw; have r2 := hR2 W hSw
    go_simp
    try with_reducible rfl
  simp only [Act.put, List.setIfInBounds_toArray, List.set_cons_zero, List.set_cons_succ]
  refine take_dst (i := 15) (d := 68) (v := ?_) ((frontOf_get (by decide)).trans rfl) rfl (by kernel_rfl) (by kernel_rfl) (by kernel_rfl) (fun _ _ _ h => h) (Or.inl ⟨by rfl, ?_⟩) hH ?_
  rotate_left
  · intro W hSw
    skip
    go_simp
    try with_reducible rfl
  simp only [Act.put, List.setIfInBounds_toArray, List.set_cons_zero, List.set_cons_succ]
  refine take_dst (i := 16) (d := 69) (v := ?_) ((frontOf_get (by decide)).trans rfl) rfl (by kernel_rfl) (by kernel_rfl) (by kernel_rfl) (fun _ _ _ h => h) (Or.inl ⟨by rfl, ?_⟩) hH ?_
  rotate_left
  · intro W hSw
    skip
    go_simp
    try with_reducible rfl
  simp only [Act.put, List.setIfInBounds_toArray, List.set_cons_zero, List.set_cons_succ]
  refine take_dst (i := 17) (d := 70) (v := ?_) ((frontOf_get (by decide)).trans rfl) rfl (by kernel_rfl) (by kernel_rfl) (by kernel_rfl) (fun _ _ _ h => h) (Or.inl ⟨by rfl, ?_⟩) hH ?_
  rotate_left
  · intro W hSw
    have r1 := hR1 W hSw; have r2 := hR2 W hSw
    go_simp
    try with_reducible rfl
  simp only [Act.put, List.setIfInBounds_toArray, List.set_cons_zero, List.set_cons_succ]
  refine take_dst (i := 18) (d := 71) (v := ?_) ((frontOf_get (by decide)).trans rfl) rfl (by kernel_rfl) (by kernel_rfl) (by kernel_rfl) (fun _ _ _ h => h) (Or.inl ⟨by rfl, ?_⟩) hH ?_
  rotate_left
  · intro W hSw
    skip
    go_simp
    try with_reducible rfl
  simp only [Act.put, List.setIfInBounds_toArray, List.set_cons_zero, List.set_cons_succ]
  refine take_dst (i := 19) (d := 72) (v := ?_) ((frontOf_get (by decide)).trans rfl) rfl (by kernel_rfl) (by kernel_rfl) (by kernel_rfl) (fun _ _ _ h => h) (Or.inl ⟨by rfl, ?_⟩) hH ?_
  rotate_left
  · intro W hSw
    skip
    go_simp
    try with_reducible rfl
  simp only [Act.put, List.setIfInBounds_toArray, List.set_cons_zero, List.set_cons_succ]
  refine wpAnyH_ready (rs := [9, 11]) (by kernel_rfl) (by simp) ?_
  refine step_dst (d := 62) (op := (.call { callee := .builtin .append, args := #[(.const (.slice none 0 0)), (.tmp 61)], argTypes := #[36, 36] })) (ty := 36) (by kernel_rfl) (fun K hK o hod hoo hot hog => ?_) ?_
  refine step_code hog (.const (.slice none 0 0)) (.tmp 61) 36 hoo X0.heap.size 41 i0 (.agg #[.int .i64 0, .int .i64 0, .int .i64 0, .slice none 0 0]) 4 48 Tryz.underlying36 hi hz0 hz1 hz2 rfl (by decide) (.slice none 0 0) 0 [] rfl (none_own _ _) ⟨g2, 0, none⟩ kk c2 (codeCells (L.take kk)) rfl (take_len HN.out (Nat.le_of_lt hlt)) (take_cells (hOwn _ hH0) HN.out (Nat.le_of_lt hlt)) (pi_cells_one _) (by unfold maxLen; omega) (by omega) hH0.size ?_
  intro v1 y6 ho1 gr1
  try rw [Nat.zero_add] at ho1
  try rw [List.nil_append] at ho1
  have hby6 : Below X0.heap.size X0 y6 := hH0.grown gr1 hH0.size (fun k e => by cases e)
  rw [hod]
  refine hK.out _ _ hby6 (fun _ => ?_)
  simp only [Act.put, List.setIfInBounds_toArray, List.set_cons_zero, List.set_cons_succ]
  clear hK hod hoo hot hog
  refine wpAnyH_ready (rs := [11]) (by kernel_rfl) (by simp) ?_
  refine step_dst (d := 64) (op := (.buildSlice 36 1 #[(0, .tmp 63)])) (ty := 36) (by kernel_rfl) (fun K hK o hod hoo hot hog => ?_) AllReadyH.nil
  obtain ⟨o1, o2, o3, o4, o5, o6⟩ := o
  simp only at hod hoo hot hog
  subst hod hoo hot hog
  go_simp
  have hby7 : Below X0.heap.size X0 (y6.alloc (.cells #[.int .i64 1, .int .i64 0, .int .i64 0, .slice none 0 0] 41)) := hby6.alloc hby6.size _
  have hlit : ∀ j u, (PI.cells ⟨1, 0, 0⟩)[j]? = some u → ((y6.alloc (.cells #[.int .i64 1, .int .i64 0, .int .i64 0, .slice none 0 0] 41))).cell? ((⟨y6.heap.size, 0, none⟩ : Addr).add j) = some u := cells_new y6 (PI.cells ⟨1, 0, 0⟩) 41
  have hszy7 : y6.heap.size < ((y6.alloc (.cells #[.int .i64 1, .int .i64 0, .int .i64 0, .slice none 0 0] 41))).heap.size := by simp
  obtain ⟨b, hb⟩ : ∃ b, y6.heap.size = b := ⟨_, rfl⟩
  rw [hb] at hlit hszy7 ⊢
  refine hK.out _ _ hby7 (fun _ => ?_)
  clear hK
  replace ho1 := ho1.alloc (.cells #[.int .i64 1, .int .i64 0, .int .i64 0, .slice none 0 0] 41)
  generalize (y6.alloc (.cells #[.int .i64 1, .int .i64 0, .int .i64 0, .slice none 0 0] 41)) = y7 at *
  refine wpAnyH_ready (rs := [12]) (by kernel_rfl) (by simp) ?_
  refine step_dst (d := 65) (op := (.call { callee := .builtin .append, args := #[(.tmp 62), (.tmp 64)], argTypes := #[36, 36] })) (ty := 36) (by kernel_rfl) (fun K hK o hod hoo hot hog => ?_) AllReadyH.nil
  refine step_code hog (.tmp 62) (.tmp 64) 36 hoo X0.heap.size 41 i0 (.agg #[.int .i64 0, .int .i64 0, .int .i64 0, .slice none 0 0]) 4 48 Tryz.underlying36 hi hz0 hz1 hz2 rfl (by decide) v1 kk (codeCells (L.take kk)) rfl ho1 ⟨b, 0, none⟩ 1 1 (PI.cells ⟨1, 0, 0⟩) rfl rfl hlit (by intro u hu; simp [PI.cells] at hu; rcases hu with rfl | rfl | rfl | rfl <;> rfl) (by unfold maxLen; omega) (by omega) hby7.size ?_
  intro v2 y8 ho2 gr2
  have hby8 : Below X0.heap.size X0 y8 := hby7.grown gr2 hby7.size (fun k e => (own_ge ho1 k e).1)
  rw [hod]
  refine hK.out _ _ hby8 (fun _ => ?_)
  simp only [Act.put, List.setIfInBounds_toArray, List.set_cons_zero, List.set_cons_succ]
  clear hK hod hoo hot hog gr2 ho1 hlit
  refine wpAnyH_ready (rs := [20]) (by kernel_rfl) (by simp) ?_
  refine step_dst (d := 73) (op := (.call { callee := .builtin .append, args := #[(.tmp 65), (.tmp 72)], argTypes := #[36, 36] })) (ty := 36) (by kernel_rfl) (fun K hK o hod hoo hot hog => ?_) AllReadyH.nil
  refine step_code hog (.tmp 65) (.tmp 72) 36 hoo X0.heap.size 41 i0 (.agg #[.int .i64 0, .int .i64 0, .int .i64 0, .slice none 0 0]) 4 48 Tryz.underlying36 hi hz0 hz1 hz2 rfl (by decide) v2 (kk + 1) (codeCells (L.take kk) ++ PI.cells ⟨1, 0, 0⟩) rfl ho2 ⟨g2, kk * 4, none⟩ (n - kk) (c2 - kk) (codeCells (L.drop kk)) (by simp [Act.eval]; omega) (drop_len HN.out) (drop_cells (hOwn _ hby8) HN.out (Nat.le_of_lt hlt)) (pi_cells_one _) (by unfold maxLen; omega) (by omega) hby8.size ?_
  intro v3 y9 ho3 gr3
  have hby9 : Below X0.heap.size X0 y9 := hby8.grown gr3 hby8.size (fun k e => (own_ge ho2 k e).1)
  rw [show kk + 1 + (n - kk) = n + 1 by omega, nop_cells] at ho3
  obtain ⟨p3, k3, rfl⟩ := own_any ho3
  obtain ⟨g3, rfl⟩ := own_pos ho3 (by omega)
  rw [hod]
  refine hK.out _ _ hby9 (fun _ => ?_)
  simp only [Act.put, List.setIfInBounds_toArray, List.set_cons_zero, List.set_cons_succ]
  clear hK hod hoo hot hog gr3 ho2
  refine wpAnyH_done (by kernel_rfl) ?_ _
  show wpAny _ _ _ _ 3 _ _ _
  refine takeAny_dst (i := 21) (d := 74) (v := ?_) rfl rfl (by kernel_rfl) (by kernel_rfl) (by kernel_rfl) (fun _ _ _ h => h) (Or.inl ⟨by rfl, ?_⟩) ?_
  rotate_left
  · intro W
    go_simp
    try with_reducible rfl
  simp only [Act.put, List.setIfInBounds_toArray, List.set_cons_zero, List.set_cons_succ]
  refine takeAny_dst (i := 22) (d := 75) (v := ?_) rfl rfl (by kernel_rfl) (by kernel_rfl) (by kernel_rfl) (fun _ _ _ h => h) (Or.inl ⟨by rfl, ?_⟩) ?_
  rotate_left
  · intro W
    go_simp
    try with_reducible rfl
  simp only [Act.put, List.setIfInBounds_toArray, List.set_cons_zero, List.set_cons_succ]
  have f1 := hR2 y9 hby9
  have f2 : y9.frozen? ⟨H2 + 1, 2, none⟩ = false := by have := (hM0.below hby9).funcs; simp [World.frozen?, this]
  refine wpAny_ready (rs := [23]) (by kernel_rfl) (by simp) (AllReady.cons rfl (fun K hK => ?_) AllReady.nil)
  go_simp
  refine hK _ _ ?_
  refine wpAny_done (by kernel_rfl) ?_ _
  clear hK f1 f2
  rotate_left
  refine step_dst (d := 64) (op := (.buildSlice 36 1 #[(0, .tmp 63)])) (ty := 36) (by kernel_rfl) (fun K hK o hod hoo hot hog => ?_) AllReadyH.nil
  obtain ⟨o1, o2, o3, o4, o5, o6⟩ := o
  simp only at hod hoo hot hog
  subst hod hoo hot hog
  go_simp
  have hby6 : Below X0.heap.size X0 (X0.alloc (.cells #[.int .i64 1, .int .i64 0, .int .i64 0, .slice none 0 0] 41)).drew := ((Below.refl _ _).alloc (Nat.le_refl _) _).drew
  have hlit : ∀ j u, (PI.cells ⟨1, 0, 0⟩)[j]? = some u → ((X0.alloc (.cells #[.int .i64 1, .int .i64 0, .int .i64 0, .slice none 0 0] 41)).drew).cell? ((⟨X0.heap.size, 0, none⟩ : Addr).add j) = some u := cells_new X0 (PI.cells ⟨1, 0, 0⟩) 41
  have hszy6 : X0.heap.size < ((X0.alloc (.cells #[.int .i64 1, .int .i64 0, .int .i64 0, .slice none 0 0] 41)).drew).heap.size := by simp
  obtain ⟨b, hb⟩ : ∃ b, X0.heap.size = b := ⟨_, rfl⟩
  rw [hb] at hlit hszy6 ⊢
  refine hK.out _ _ hby6 (fun _ => ?_)
  clear hK
  generalize (X0.alloc (.cells #[.int .i64 1, .int .i64 0, .int .i64 0, .slice none 0 0] 41)).drew = y6 at *
  refine wpAnyH_ready (rs := [9]) (by kernel_rfl) (by simp) ?_
  refine step_dst (d := 62) (op := (.call { callee := .builtin .append, args := #[(.const (.slice none 0 0)), (.tmp 61)], argTypes := #[36, 36] })) (ty := 36) (by kernel_rfl) (fun K hK o hod hoo hot hog => ?_) AllReadyH.nil
  refine step_code hog (.const (.slice none 0 0)) (.tmp 61) 36 hoo X0.heap.size 41 i0 (.agg #[.int .i64 0, .int .i64 0, .int .i64 0, .slice none 0 0]) 4 48 Tryz.underlying36 hi hz0 hz1 hz2 rfl (by decide) (.slice none 0 0) 0 [] rfl (none_own _ _) ⟨g2, 0, none⟩ kk c2 (codeCells (L.take kk)) rfl (take_len HN.out (Nat.le_of_lt hlt)) (take_cells (hOwn _ hby6) HN.out (Nat.le_of_lt hlt)) (pi_cells_one _) (by unfold maxLen; omega) (by omega) hby6.size ?_
  intro v1 y7 ho1 gr1
  try rw [Nat.zero_add] at ho1
  try rw [List.nil_append] at ho1
  have hby7 : Below X0.heap.size X0 y7 := hby6.grown gr1 hby6.size (fun k e => by cases e)
  have hcb : ∀ j, y7.cell? ((⟨b, 0, none⟩ : Addr).add j) = y6.cell? ((⟨b, 0, none⟩ : Addr).add j) := fun j => by rw [Go.WideShapes.add_plain, World.cell?, World.cell?, gr1.block b hszy6 (fun e => by cases e)]
  replace hlit := fun j u hj => (hcb j).trans (hlit j u hj)
  rw [hod]
  refine hK.out _ _ hby7 (fun _ => ?_)
  simp only [Act.put, List.setIfInBounds_toArray, List.set_cons_zero, List.set_cons_succ]
  clear hK hod hoo hot hog
  refine wpAnyH_ready (rs := [12]) (by kernel_rfl) (by simp) ?_
  refine step_dst (d := 65) (op := (.call { callee := .builtin .append, args := #[(.tmp 62), (.tmp 64)], argTypes := #[36, 36] })) (ty := 36) (by kernel_rfl) (fun K hK o hod hoo hot hog => ?_) AllReadyH.nil
  refine step_code hog (.tmp 62) (.tmp 64) 36 hoo X0.heap.size 41 i0 (.agg #[.int .i64 0, .int .i64 0, .int .i64 0, .slice none 0 0]) 4 48 Tryz.underlying36 hi hz0 hz1 hz2 rfl (by decide) v1 kk (codeCells (L.take kk)) rfl ho1 ⟨b, 0, none⟩ 1 1 (PI.cells ⟨1, 0, 0⟩) rfl rfl hlit (by intro u hu; simp [PI.cells] at hu; rcases hu with rfl | rfl | rfl | rfl <;> rfl) (by unfold maxLen; omega) (by omega) hby7.size ?_
  intro v2 y8 ho2 gr2
  have hby8 : Below X0.heap.size X0 y8 := hby7.grown gr2 hby7.size (fun k e => (own_ge ho1 k e).1)
  rw [hod]
  refine hK.out _ _ hby8 (fun _ => ?_)
  simp only [Act.put, List.setIfInBounds_toArray, List.set_cons_zero, List.set_cons_succ]
  clear hK hod hoo hot hog gr2 ho1 hlit
  refine wpAnyH_ready (rs := [20]) (by kernel_rfl) (by simp) ?_
  refine step_dst (d := 73) (op := (.call { callee := .builtin .append, args := #[(.tmp 65), (.tmp 72)], argTypes := #[36, 36] })) (ty := 36) (by kernel_rfl) (fun K hK o hod hoo hot hog => ?_) AllReadyH.nil
  refine step_code hog (.tmp 65) (.tmp 72) 36 hoo X0.heap.size 41 i0 (.agg #[.int .i64 0, .int .i64 0, .int .i64 0, .slice none 0 0]) 4 48 Tryz.underlying36 hi hz0 hz1 hz2 rfl (by decide) v2 (kk + 1) (codeCells (L.take kk) ++ PI.cells ⟨1, 0, 0⟩) rfl ho2 ⟨g2, kk * 4, none⟩ (n - kk) (c2 - kk) (codeCells (L.drop kk)) (by simp [Act.eval]; omega) (drop_len HN.out) (drop_cells (hOwn _ hby8) HN.out (Nat.le_of_lt hlt)) (pi_cells_one _) (by unfold maxLen; omega) (by omega) hby8.size ?_
  intro v3 y9 ho3 gr3
  have hby9 : Below X0.heap.size X0 y9 := hby8.grown gr3 hby8.size (fun k e => (own_ge ho2 k e).1)
  rw [show kk + 1 + (n - kk) = n + 1 by omega, nop_cells] at ho3
  obtain ⟨p3, k3, rfl⟩ := own_any ho3
  obtain ⟨g3, rfl⟩ := own_pos ho3 (by omega)
  rw [hod]
  refine hK.out _ _ hby9 (fun _ => ?_)
  simp only [Act.put, List.setIfInBounds_toArray, List.set_cons_zero, List.set_cons_succ]
  clear hK hod hoo hot hog gr3 ho2
  refine wpAnyH_done (by kernel_rfl) ?_ _
  show wpAny _ _ _ _ 3 _ _ _
  refine takeAny_dst (i := 21) (d := 74) (v := ?_) rfl rfl (by kernel_rfl) (by kernel_rfl) (by kernel_rfl) (fun _ _ _ h => h) (Or.inl ⟨by rfl, ?_⟩) ?_
  rotate_left
  · intro W
    go_simp
    try with_reducible rfl
  simp only [Act.put, List.setIfInBounds_toArray, List.set_cons_zero, List.set_cons_succ]
  refine takeAny_dst (i := 22) (d := 75) (v := ?_) rfl rfl (by kernel_rfl) (by kernel_rfl) (by kernel_rfl) (fun _ _ _ h => h) (Or.inl ⟨by rfl, ?_⟩) ?_
  rotate_left
  · intro W
    go_simp
    try with_reducible rfl
  simp only [Act.put, List.setIfInBounds_toArray, List.set_cons_zero, List.set_cons_succ]
  have f1 := hR2 y9 hby9
  have f2 : y9.frozen? ⟨H2 + 1, 2, none⟩ = false := by have := (hM0.below hby9).funcs; simp [World.frozen?, this]
  refine wpAny_ready (rs := [23]) (by kernel_rfl) (by simp) (AllReady.cons rfl (fun K hK => ?_) AllReady.nil)
  go_simp
  refine hK _ _ ?_
  refine wpAny_done (by kernel_rfl) ?_ _
  clear hK f1 f2
  all_goals
    have hbX0w : Below w.heap.size w X0 := belt hB4 (Nat.le_refl _) hbX0
    have hB9 : Below w.heap.size w y9 := belt hbX0w (Nat.le_refl _) hby9
    have hH2 : w3.heap.size + 2 ≤ H2 := hM0.from0
    have hs4 : H2 + 6 ≤ w4.heap.size := hM.size
    have hw3 : w.heap.size ≤ w3.heap.size := hB3.size
    have hsX := HSX.out
    have hMb := nop_modAt (hM0.below hby9) ho3 ((nopAt_len L kk).trans (by rw [HN.out])) hM0.size (nopAt_right kk hright) (by rw [nopAt_len, HN.out]; omega)
    have hBZ := hB9.setCell (p := ⟨H2 + 1, 2, none⟩) (by show w.heap.size ≤ H2 + 1; omega) (.slice (some ⟨g3, 0, none⟩) (n + 1) k3)
    have hbZ := (Below.heap_setCell y9 ⟨H2 + 1, 2, none⟩ (.slice (some ⟨g3, 0, none⟩) (n + 1) k3) w4.heap.size (by show w4.heap.size ≠ H2 + 1; omega)).trans ((hby9.block _ (by omega)).trans hbox)
    have hNw : w.heap.size ≤ w4.heap.size := hB4.size
    rw [hV4] at hbZ
    clear hby9 hB9 ho3 hR1 hR2 hOwn hM0 hM hbX0 hbX0w hH hH0 hbox hsX hb4 k0 k1 k2
    generalize y9.setCell ⟨H2 + 1, 2, none⟩ (.slice (some ⟨g3, 0, none⟩) (n + 1) k3) = Z at *
    have hansB := (ap_ans (H := H2) (pc := some ⟨g3, 0, none⟩) (cc := k3) (nopAt_right kk hright) (nopAt_runs (by rw [HN.out]; exact hlt) hruns) (by rw [nopAt_len, HN.out]; omega)).1
    have cB := fun W (hW : Below Z.heap.size Z W) => enc_mod (apV H2 (some ⟨g3, 0, none⟩) k3 (nopAt L kk) fName) W ((hLaid.below hBZ).below hW) (hMb.below hW (Nat.le_refl _))
    obtain ⟨Sb, hSb⟩ : ∃ S, S = headN fName ++ codeB (allB (nopAt L kk)) ++ tailB := ⟨_, rfl⟩
    rw [hansB, apV_val, ← hSb] at cB
    have HSB := Lib.hid hSb
    obtain ⟨N, hN⟩ : ∃ N, w4.heap.size = N := ⟨_, rfl⟩
    rw [hN] at hbZ hNw hs4 ⊢
    obtain ⟨r0, r1, r2, r3, r4, r5, r6, _⟩ := reads_seven hbZ
    clear hansB hSb hMb HSX hN
    go_upto_region 12 with (go_at_call 12; (with_reducible refine (cB _ (Below.refl _ _)).mono ?_); rintro e z1 ⟨rfl, hzb⟩; have hBz1 := belt hBZ (Nat.le_refl _) hzb; have h1 := (hzb.block _ (heap_in hbZ)).trans hbZ; clear r0 r1 r2 r3 r4 r5 r6 cB hzb hbZ)
    have cM3 := cM _ hBz1
    go_upto_region 13 with (go_at_call 11; (with_reducible refine cM3.mono ?_); rintro e z2 ⟨H3, q3, d3, rfl, hM3, hb3⟩; have g1 := (hb3.block _ (heap_in h1)).trans h1; obtain ⟨r0, r1, r2, r3, r4, r5, r6, f0, f1, f2, f3, f4, f5, f6⟩ := reads_seven g1; clear cM3)
    have hNz1 : N < z1.heap.size := heap_in h1
    have hNw2 : w.heap.size ≤ N := hNw
    have hBz2 : Below w.heap.size w z2 := belt hBz1 (Nat.le_refl _) hb3
    obtain ⟨g1', hgr⟩ := store_seven (.slice (some ⟨H3, 0, none⟩) 1 1) (.slice (some ⟨H3 + 1, 0, none⟩) 1 1) (.slice (some ⟨H3 + 2, 0, none⟩) 1 1) (.slice (some ⟨H3 + 3, 0, none⟩) 2 2) (.slice (some ⟨H3 + 4, 0, none⟩) 1 1) (.int .i64 (-1)) (.slice (some ⟨H3 + 5, 0, none⟩) 1 1) g1
    have hM3' := hM3.on hgr (.inl (by omega))
    have hBz3 := hBz2.grown hgr (Nat.le_trans hBz2.size (Nat.le_refl _)) (fun k e => by injection e with e; omega)
    have hH3 : z1.heap.size + 2 ≤ H3 := hM3.from0
    clear hM3 hb3 h1 g1 r0 r1 r2 r3 r4 r5 r6 f0 f1 f2 f3 f4 f5 f6 hgr hBz2 hBz1
    generalize (((((((z2.setCell ⟨N, 0, none⟩ (.slice (some ⟨H3, 0, none⟩) 1 1)).setCell ⟨N, 1, none⟩ (.slice (some ⟨H3 + 1, 0, none⟩) 1 1)).setCell ⟨N, 2, none⟩ (.slice (some ⟨H3 + 2, 0, none⟩) 1 1)).setCell ⟨N, 3, none⟩ (.slice (some ⟨H3 + 3, 0, none⟩) 2 2)).setCell ⟨N, 4, none⟩ (.slice (some ⟨H3 + 4, 0, none⟩) 1 1)).setCell ⟨N, 5, none⟩ (.int .i64 (-1))).setCell ⟨N, 6, none⟩ (.slice (some ⟨H3 + 5, 0, none⟩) 1 1)) = Z2 at *
    obtain ⟨r0, r1, r2, r3, r4, r5, r6, f0, f1, f2, f3, f4, f5, f6⟩ := reads_seven g1'
    have e0 : Z2.cell? ⟨H3 + 4, 0, none⟩ = some (.string ⟨#[102]⟩) := by rw [World.cell?, hM3'.exports]; rfl
    have e1 : Z2.frozen? ⟨H3 + 4, 0, none⟩ = false := by simp [World.frozen?, hM3'.exports]
    have hne : H3 + 4 ≠ N := by omega
    have hmaxn : nm.size ≤ maxLen := by unfold maxLen; omega
    have hMc := name_modAt hM3' hmaxn
    have hBz4 := hBz3.setCell (p := ⟨H3 + 4, 0, none⟩) (by show w.heap.size ≤ H3 + 4; omega) (.string nm)
    have g2' := (Below.heap_setCell Z2 ⟨H3 + 4, 0, none⟩ (.string nm) N (by show N ≠ H3 + 4; omega)).trans g1'
    go_upto_region 14 with fail
    clear e0 e1 r0 r1 r2 r3 r4 r5 r6 f0 f1 f2 f3 f4 f5 f6 hM3' g1' hBz3
    generalize Z2.setCell ⟨H3 + 4, 0, none⟩ (.string nm) = Z3 at *
    have hansC := ap_other (H := H3) (pc := q3) (cc := d3) (code := L) nm
    have cC := fun W (hW : Below Z3.heap.size Z3 W) => enc_mod (apV H3 q3 d3 L nm) W ((hLaid.below hBz4).below hW) (hMc.below hW (Nat.le_refl _))
    obtain ⟨⟨Sc, ec⟩, hSc⟩ : ∃ S, S = ans5 (apV H3 q3 d3 L nm) := ⟨_, rfl⟩
    rw [← hSc] at hansC cC
    rw [apV_val] at cC
    simp only at hansC cC
    have HSC := Lib.hid hansC
    obtain ⟨r0, r1, r2, r3, r4, r5, r6, f0, f1, f2, f3, f4, f5, f6⟩ := reads_seven g2'
    clear hansC hSc hMc
    go_upto_region 15 with (go_at_call 12; (with_reducible refine (cC _ (Below.refl _ _)).mono ?_); rintro e y1 ⟨rfl, hyb⟩; have hBy1 := belt hBz4 (Nat.le_refl _) hyb; have h1 := (hyb.block _ (heap_in g2')).trans g2'; clear r0 r1 r2 r3 r4 r5 r6 f0 f1 f2 f3 f4 f5 f6 cC hyb g2' hBz4)
    have cM4 := cM _ hBy1
    go_upto_region 16 with (go_at_call 11; (with_reducible refine cM4.mono ?_); rintro e y2 ⟨H4, q4, d4, rfl, hM4, hb4⟩; have g1 := (hb4.block _ (heap_in h1)).trans h1; obtain ⟨r0, r1, r2, r3, r4, r5, r6, f0, f1, f2, f3, f4, f5, f6⟩ := reads_seven g1; clear cM4)
    have hNy1 : N < y1.heap.size := heap_in h1
    have hBy2 : Below w.heap.size w y2 := belt hBy1 (Nat.le_refl _) hb4
    obtain ⟨g3', hgr4⟩ := store_seven (.slice (some ⟨H4, 0, none⟩) 1 1) (.slice (some ⟨H4 + 1, 0, none⟩) 1 1) (.slice (some ⟨H4 + 2, 0, none⟩) 1 1) (.slice (some ⟨H4 + 3, 0, none⟩) 2 2) (.slice (some ⟨H4 + 4, 0, none⟩) 1 1) (.int .i64 (-1)) (.slice (some ⟨H4 + 5, 0, none⟩) 1 1) g1
    have hM4' := hM4.on hgr4 (.inl (by omega))
    have hBy3 := hBy2.grown hgr4 (Nat.le_trans hBy2.size (Nat.le_refl _)) (fun k e => by injection e with e; omega)
    clear hM4 hb4 h1 g1 r0 r1 r2 r3 r4 r5 r6 f0 f1 f2 f3 f4 f5 f6 hgr4 hBy2 hBy1
    generalize (((((((y2.setCell ⟨N, 0, none⟩ (.slice (some ⟨H4, 0, none⟩) 1 1)).setCell ⟨N, 1, none⟩ (.slice (some ⟨H4 + 1, 0, none⟩) 1 1)).setCell ⟨N, 2, none⟩ (.slice (some ⟨H4 + 2, 0, none⟩) 1 1)).setCell ⟨N, 3, none⟩ (.slice (some ⟨H4 + 3, 0, none⟩) 2 2)).setCell ⟨N, 4, none⟩ (.slice (some ⟨H4 + 4, 0, none⟩) 1 1)).setCell ⟨N, 5, none⟩ (.int .i64 (-1))).setCell ⟨N, 6, none⟩ (.slice (some ⟨H4 + 5, 0, none⟩) 1 1)) = Y2 at *
    obtain ⟨r0, r1, r2, r3, r4, r5, r6, f0, f1, f2, f3, f4, f5, f6⟩ := reads_seven g3'
    go_upto_region 17 with fail
    have hBy4 := hBy3.setCell (p := ⟨N, 6, none⟩) hNw2 (.slice none 0 0)
    have hM5 := hM4'.on (cell_grown Y2 N 6 (.slice none 0 0)) (.inl (by omega))
    have hMd := noData_modAt (hM5.modAt (st := -1) ⟨by decide, by decide⟩ ⟨by decide, by decide⟩ ⟨by decide, by decide⟩ ⟨by decide, by decide⟩ ⟨by decide, by decide⟩)
    have g4' : (Y2.setCell ⟨N, 6, none⟩ (.slice none 0 0)).heap[N]? = some (.cells #[.slice (some ⟨H4, 0, none⟩) 1 1, .slice (some ⟨H4 + 1, 0, none⟩) 1 1, .slice (some ⟨H4 + 2, 0, none⟩) 1 1, .slice (some ⟨H4 + 3, 0, none⟩) 2 2, .slice (some ⟨H4 + 4, 0, none⟩) 1 1, .int .i64 (-1), .slice none 0 0] 31) := heap_setCell_same Y2 N 6 _ _ (.slice none 0 0) g3'
    clear r0 r1 r2 r3 r4 r5 r6 f0 f1 f2 f3 f4 f5 f6 hM4' hM5 g3' hBy3
    generalize Y2.setCell ⟨N, 6, none⟩ (.slice none 0 0) = Y3 at *
    have cD := fun W (hW : Below Y3.heap.size Y3 W) => enc_mod (noData (madeV H4 q4 d4 L 2 5 (-5) 0 (-1))) W ((hLaid.below hBy4).below hW) (hMd.below hW (Nat.le_refl _))
    have hansD := (ap_ans (H := H4) (pc := q4) (cc := d4) hright hruns (by omega)).2
    rw [apV_made] at hansD
    obtain ⟨Sd, hSd⟩ : ∃ S, S = headN fName ++ codeB (allB L) := ⟨_, rfl⟩
    rw [hansD, ← hSd, ← apV_made, noData_val] at cD
    have HSD := Lib.hid hSd
    clear hansD hSd hMd
    obtain ⟨r0, r1, r2, r3, r4, r5, r6, f0, f1, f2, f3, f4, f5, f6⟩ := reads_seven g4'
    go_upto_region 18 with (go_at_call 12; (with_reducible refine (cD _ (Below.refl _ _)).mono ?_); rintro e x1 ⟨rfl, hxb⟩; have hBx := belt hBy4 (Nat.le_refl _) hxb; clear cD hxb)
    clear r0 r1 r2 r3 r4 r5 r6 f0 f1 f2 f3 f4 f5 f6 g4' hBy4
    have sB : ((bs Sa).size : Int) < (bs Sb).size := by
      have hm := codeB_more (nopAt_bytes L kk)
      have e : (bs Sa).size < (bs Sb).size := by
        rw [bs_size6, bs_size6, HSA.out, HSB.out]
        simp only [List.length_append]
        omega
      omega
    have sD : ((bs Sd).size : Int) < (bs Sa).size := by
      have hm := tailB_some
      have e : (bs Sd).size < (bs Sa).size := by
        rw [bs_size6, bs_size6, HSA.out, HSD.out]
        simp only [List.length_append]
        omega
      omega
    rcases HSC.out with ⟨h0, h1⟩ | h0
    · subst h0
      by_cases hn : nm = fName
      · have q1 : bs Sc = bs Sa := by rw [h1, hn, HSA.out]
        have q2 : fName.toList = [102] := by rw [Lib.toList_data]; rfl
        rw [q1]
        subst hn
        go_wp2
        go_ret
        exact ⟨rfl, hBx⟩
      · have q3 : ¬ nm.toList = [102] := fun e => hn (by
          rw [Lib.toList_data] at e
          apply ByteArray.ext
          exact Array.toList_inj.1 e)
        have q4 : ¬ (bs Sc).toList = (bs Sa).toList := fun e => hn (by
          rw [Lib.toList_data, Lib.toList_data, bs_list9, bs_list9, h1, HSA.out] at e
          exact name_same e)
        have q5 : ((bs Sc).toList == (bs Sa).toList) = false := by simpa using q4
        have HH1 := Lib.hid h1
        have q8 : (nm.toList == [102]) = false := by simpa using q3
        clear h1 hn
        go_wp2
        go_ret
        exact ⟨rfl, hBx⟩
    · have q6 : (ec != 0) = true := by rcases h0 with h0 | h0 <;> (rw [h0]; rfl)
      have q7 : ¬ ec = 0 := by omega
      clear h0
      go_wp2
      go_ret
      exact ⟨rfl, hBx⟩

theorem encApart_walk (p : Option Addr) (c : Nat) (l : List StepV) (at0 : Int) (hat : 0 ≤ at0 ∧ at0 < 256) (nm : ByteArray) (hnm : nm.size ≤ 140737488351232) (w : World) (hLaid : Laid w) (hS : StepsAt w p l) :
    Calls Tryz.prog 3 #[.slice p l.length c, .int .u8 at0, .string nm] w fun e w' => e = .returned (.bool true) ∧ Below w.heap.size w w' :=
  encApart_go p c l.length (codeF l) at0 hat nm hnm w hLaid (codeF_ne l) (fun W hW => made_fn p c l W (hS.below hW (Nat.le_refl _)))
end Go.Proofs.YtpamchagidnijaaGreatDoor
