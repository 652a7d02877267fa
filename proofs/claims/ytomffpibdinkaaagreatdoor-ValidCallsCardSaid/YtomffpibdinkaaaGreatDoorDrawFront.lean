/-
  A region that draws its order and whose last operations wait for all the others: the others first, at every order; then the last ones. (The store of 'x.f = append(x.f ..)' hits a cell that the others load.) No program is looked at; no statement is proved here.
-/
import Derived.Test.YtomffpibdinkaaaGreatDoorDrawInv
import Derived.Deep.RegionHeld3
namespace Go.Proofs.YtomffpibdinkaaaGreatDoor
open Go
section
variable {P : Program} {md : Region.Mode} {ops : Array Oper} {Q : Exit → Act → World → Prop} {m k : Nat}
def frontOf (m : Nat) (ops : Array Oper) : Array Oper := (ops.toList.take m).toArray
theorem frontOf_get {i : Nat} (hi : i < m) : (frontOf m ops)[i]? = ops[i]? := by
  simp [frontOf, hi]
def lastOf (m n : Nat) : Array Bool := (List.replicate m true ++ List.replicate (n - m) false).toArray
theorem left_none {l : List Bool} (h : ∀ i, i < l.length → l[i]? = some true) : left l = 0 := by
  unfold left
  rw [List.countP_eq_zero]
  intro b hb
  obtain ⟨i, hi, rfl⟩ := List.mem_iff_getElem.1 hb
  have := h i hi
  rw [List.getElem?_eq_getElem hi] at this
  simpa using this
theorem wpOp_front {T : Act → World → Prop} {i : Nat} {K : Act → World → Prop} {a : Act} {w : World} (hi : i < m) (hg : (ops[i]?.map fun o => o.guard.isNone) = some true) (h : wpOp P (frontOf m ops) (Exit.then T Q) i K a w) : wpOp P ops Q i K a w := by
  unfold wpOp at *
  rw [frontOf_get hi] at h
  cases ho : ops[i]? with
  | none => rw [ho] at h; exact h
  | some o =>
    rw [ho] at h hg
    have hn : o.guard = none := by simpa using hg
    have hw : ∀ y, Region.wanted o y = true := fun y => by simp [Region.wanted, hn]
    simp only [hw, if_true] at h ⊢
    rcases h with h | ⟨h1, a', w', h2⟩
    · left
      unfold Oper.wp at *
      generalize (execOp a.eval o).run P w = r at *
      cases r with
      | ok n w' => cases n <;> simp only [Oper.upon] at h ⊢ <;> first | exact h | (exact Calls.mono h fun e w'' he => by cases e <;> exact he)
      | halt x w' => cases x <;> simp only [Oper.upon] at h ⊢ <;> exact h
    · exact .inr ⟨h1, a', w', h2⟩
theorem wpAny_front (hmn : m ≤ ops.size) (hg : ((List.range m).all fun i => (ops[i]?.map fun o => o.guard.isNone) == some true) = true)
    (hd : ((List.range ops.size).all fun i => (ops[i]?.map fun o => o.after.all fun e => decide (e.on < i)).getD false) = true)
    (hw : ((List.range ops.size).all fun i => decide (i < m) || (List.range m).all fun j => (ops[i]?.map fun o => o.after.any fun e => e.on == j && Region.binds md e) == some true) = true) :
    ∀ (fuel : Nat) (l : Array Bool) (a : Act) (w : World), l.size = ops.size → (∀ i, m ≤ i → i < ops.size → l[i]? = some false) → left (l.toList.take m) = fuel →
      wpAny P md (frontOf m ops) (Exit.then (wpAny P md ops Q k (lastOf m ops.size)) Q) fuel (l.toList.take m).toArray a w → wpAny P md ops Q (fuel + k) l a w
  | 0, l, a, w, hs, ht, hl, h => by
    have h1 := left_zero _ hl
    have hL : l = lastOf m ops.size := by
      apply Array.toList_inj.1
      apply List.ext_getElem?
      intro i
      show l.toList[i]? = (List.replicate m true ++ List.replicate (ops.size - m) false)[i]?
      rw [Array.getElem?_toList]
      by_cases him : i < m
      · have := h1 i (by simp; omega)
        rw [List.getElem?_take, if_pos him, Array.getElem?_toList] at this
        rw [this, List.getElem?_append_left (by simpa using him)]
        simp [him]
      · by_cases hin : i < ops.size
        · rw [ht i (by omega) hin, List.getElem?_append_right (by simp; omega)]
          simp [List.getElem?_replicate]
          omega
        · rw [Array.getElem?_eq_none_iff.2 (by omega), List.getElem?_eq_none_iff.2 (by simp; omega)]
    rw [Nat.zero_add, hL]
    exact h.2
  | fuel + 1, l, a, w, hs, ht, hl, h => by
    rw [show fuel + 1 + k = (fuel + k) + 1 by omega]
    have hex : ¬ ∀ j, j < m → l.getD j false = true := fun hall => by
      have : left (l.toList.take m) = 0 := left_none fun i hi => by
        have hi' : i < m := by simp at hi; omega
        have h2 := hall i hi'
        rw [List.getElem?_take, if_pos hi', Array.getElem?_toList]
        rw [Array.getD_eq_getD_getElem?] at h2
        cases hv : l[i]? with
        | none => rw [hv] at h2; cases h2
        | some b => rw [hv] at h2; simp at h2; rw [h2]
      omega
    refine ⟨fun h0 => absurd (fun j hj => all_listed hs hd h0 j (by omega)) hex, fun i hi => ?_⟩
    have hin := (ready_dep hi).1
    by_cases him : i < m
    · have hiR : i ∈ Region.ready md (frontOf m ops) (l.toList.take m).toArray := by
        obtain ⟨h1, o, ho, h2⟩ := mem_ready.1 hi
        refine mem_ready.2 ⟨?_, o, by rw [frontOf_get him]; exact ho, fun e he hb => ?_⟩
        · rw [Array.getD_eq_getD_getElem?] at h1 ⊢
          simp only [List.getElem?_toArray, List.getElem?_take, him, if_true, Array.getElem?_toList]
          exact h1
        · have h3 := h2 e he hb
          have h4 := List.all_eq_true.1 hd i (List.mem_range.2 hin)
          rw [ho] at h4
          simp only [Option.map_some, Option.getD_some] at h4
          have h5 := of_decide_eq_true (Array.all_eq_true_iff_forall_mem.1 h4 e he)
          rw [Array.getD_eq_getD_getElem?] at h3 ⊢
          simp only [List.getElem?_toArray, List.getElem?_take, show e.on < m by omega, if_true, Array.getElem?_toList]
          exact h3
      have hgi : (ops[i]?.map fun o => o.guard.isNone) = some true := by
        have := List.all_eq_true.1 hg i (List.mem_range.2 him)
        simpa using this
      have h6 := wpOp_front him hgi (h.2 i hiR)
      have hli : l[i]? = some false := by
        have h1 := (ready_dep hi).2.1
        rw [Array.getD_eq_getD_getElem?] at h1
        cases hv : l[i]? with
        | none => rw [Array.getElem?_eq_none_iff] at hv; omega
        | some b => rw [hv] at h1; simp at h1; rw [h1]
      have hset : ((l.setIfInBounds i true).toList.take m) = (l.toList.take m).set i true := by
        rw [Array.toList_setIfInBounds, List.take_set]
      refine wpOp_mono (fun a' w' h' => wpAny_front hmn hg hd hw fuel _ a' w' (by simp [hs]) (fun j hj hjn => ?_) ?_ ?_) h6
      · rw [Array.getElem?_setIfInBounds_ne (by omega)]; exact ht j hj hjn
      · have := left_set (l.toList.take m) i (by rw [List.getElem?_take, if_pos him, Array.getElem?_toList]; exact hli)
        rw [hset]
        omega
      · rw [hset]
        have : (l.toList.take m).toArray.setIfInBounds i true = ((l.toList.take m).set i true).toArray := by simp
        rw [this] at h'
        exact h'
    · refine absurd (fun j hj => ?_) hex
      have h4 := List.all_eq_true.1 hw i (List.mem_range.2 hin)
      rw [decide_eq_false him, Bool.false_or] at h4
      have h5 := List.all_eq_true.1 h4 j (List.mem_range.2 hj)
      exact ready_on hi (by simpa using h5)
/-- An operation that is taken first, by where its value goes. -/
theorem take_dst {S : World → Prop} {i d : Nat} {oi : Oper} {v : Value} {fuel : Nat} {listed : Array Bool} {a : Act} {w : World} (hi : ops[i]? = some oi) (hd : oi.dst = some d)
    (hs : Region.noSelect ops = true) (hf : Region.free md ops listed i = true) (hr : (Region.ready md ops listed).contains i = true)
    (hQ : ∀ c a w, Q (.panic c) (a.put oi.dst v) w → Q (.panic c) a w) (hy : YieldsIf P ops S oi v a) (hS : S w)
    (h : wpAnyH P md ops Q S fuel (listed.setIfInBounds i true) (a.put (some d) v) w) : wpAnyH P md ops Q S (fuel + 1) listed a w :=
  wpAnyH_take hi hs hf hr hQ hy hS (hd ▸ h)
theorem takeAny_dst {i d : Nat} {oi : Oper} {v : Value} {fuel : Nat} {listed : Array Bool} {a : Act} {w : World} (hi : ops[i]? = some oi) (hd : oi.dst = some d)
    (hs : Region.noSelect ops = true) (hf : Region.free md ops listed i = true) (hr : (Region.ready md ops listed).contains i = true)
    (hQ : ∀ c a w, Q (.panic c) (a.put oi.dst v) w → Q (.panic c) a w) (hy : Yields P ops oi v a)
    (h : wpAny P md ops Q fuel (listed.setIfInBounds i true) (a.put (some d) v) w) : wpAny P md ops Q (fuel + 1) listed a w :=
  wpAny_take hi hs hf hr hQ hy (hd ▸ h)
/-- One that comes up, by where its value goes. -/
theorem step_dst {S : World → Prop} {fuel : Nat} {listed : Array Bool} {a : Act} {w : World} {i d : Nat} {op : Op} {ty : TypeId} {rs : List Nat} (ho : (ops[i]?.map fun o => (o.dst, o.op, o.type, o.guard)) = some (some d, op, ty, none))
    (h : ∀ K' : Act → World → Prop, Shut (∀ a w, S w → (S w → wpAnyH P md ops Q S fuel (listed.setIfInBounds i true) a w) → K' a w) → ∀ o : Oper, o.dst = some d → o.op = op → o.type = ty → o.guard = none → if Region.wanted o (yielded ops a.tmps) = true then Oper.wp P o a w K' Q else K' (a.put o.dst undef) w)
    (hs : AllReadyH P md ops Q S fuel listed a w rs) : AllReadyH P md ops Q S fuel listed a w (i :: rs) := by
  cases hv : ops[i]? with
  | none => rw [hv] at ho; cases ho
  | some o =>
    rw [hv] at ho
    simp only [Option.map_some, Option.some.injEq, Prod.mk.injEq] at ho
    exact AllReadyH.cons hv (fun K' hK => h K' hK o ho.1 ho.2.1 ho.2.2.1 ho.2.2.2) hs
/-- THE RULE: S holds of every world until the last operations. -/
theorem wp_region_front {id : Nat} {a : Act} {w : World} (m : Nat) (S : World → Prop) (hm : P.follows .mixedOrders = true) (hmn : m ≤ ops.size) (hg : ((List.range m).all fun i => (ops[i]?.map fun o => o.guard.isNone) == some true) = true)
    (hd : ((List.range ops.size).all fun i => (ops[i]?.map fun o => o.after.all fun e => decide (e.on < i)).getD false) = true)
    (hw : ((List.range ops.size).all fun i => decide (i < m) || (List.range m).all fun j => (ops[i]?.map fun o => o.after.any fun e => e.on == j && Region.binds .any e) == some true) = true)
    (h : wpAnyH P .any (frontOf m ops) (Exit.then (wpAny P .any ops Q (ops.size - m) (lastOf m ops.size)) Q) S m (Array.replicate m false) a w.drew) : (Code.region id ops true).wp P Q a w := by
  refine wp_region_any hm ?_
  have h1 := wpAny_of_held _ _ _ _ h
  have h2 := wpAny_front (k := ops.size - m) hmn hg hd hw m (Array.replicate ops.size false) a w.drew (by simp) (fun i _ hi => by simp [hi]) (by simp [left, List.take_replicate, Nat.min_eq_left hmn, List.countP_replicate]) (by
    have e : ((Array.replicate ops.size false).toList.take m).toArray = Array.replicate m false := by
      apply Array.toList_inj.1
      simp [List.take_replicate, Nat.min_eq_left hmn]
    rw [e]; exact h1)
  rw [show m + (ops.size - m) = ops.size by omega] at h2
  exact h2
end
end Go.Proofs.YtomffpibdinkaaaGreatDoor
