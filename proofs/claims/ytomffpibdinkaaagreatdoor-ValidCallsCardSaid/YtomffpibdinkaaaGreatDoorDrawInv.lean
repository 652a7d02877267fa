/-
  A region that draws its order, shown at every order by one invariant that goes by which operations have been done. No program is looked at; no statement is proved here.
-/
import Derived.RegionTactic
namespace Go.Proofs.YtomffpibdinkaaaGreatDoor

def left (l : List Bool) : Nat := l.countP (fun b => !b)
theorem left_set : ∀ (l : List Bool) (i : Nat), l[i]? = some false → left (l.set i true) + 1 = left l
  | [], i, h => by simp at h
  | b :: l, 0, h => by simp at h; subst h; simp [left]
  | b :: l, i + 1, h => by
    have := left_set l i (by simpa using h)
    unfold left at *
    simp only [List.set_cons_succ, List.countP_cons]
    omega
theorem left_zero : ∀ (l : List Bool), left l = 0 → ∀ i, i < l.length → l[i]? = some true
  | [], _, i, hi => by simp at hi
  | b :: l, h, i, hi => by
    unfold left at h
    rw [List.countP_cons] at h
    cases b with
    | false => simp at h
    | true =>
      cases i with
      | zero => rfl
      | succ i => rw [List.getElem?_cons_succ]; exact left_zero l (by unfold left; omega) i (by simpa using hi)
section
variable {P : Program} {md : Region.Mode} {ops : Array Oper} {Q : Exit → Act → World → Prop}
theorem ready_dep {listed : Array Bool} {i : Nat} (h : i ∈ Region.ready md ops listed) : i < ops.size ∧ listed.getD i true = false ∧ ∀ o, ops[i]? = some o → ∀ e ∈ o.after, Region.binds md e = true → listed.getD e.on false = true := by
  unfold Region.ready at h
  rw [List.mem_filter] at h
  obtain ⟨h1, h2⟩ := h
  rw [Bool.and_eq_true] at h2
  refine ⟨List.mem_range.1 h1, by simpa using h2.1, fun o ho e he hb => ?_⟩
  have h3 := h2.2
  rw [ho] at h3
  simp only [Option.map_some, Option.getD_some] at h3
  have h4 := Array.all_eq_true_iff_forall_mem.1 h3 e he
  rw [hb] at h4
  simpa using h4
/-- An operation that comes up has those behind it that it hangs on. -/
theorem ready_on {listed : Array Bool} {i j : Nat} (h : i ∈ Region.ready md ops listed) (hc : (ops[i]?.map fun o => o.after.any fun e => e.on == j && Region.binds md e) = some true) : listed.getD j false = true := by
  cases ho : ops[i]? with
  | none => rw [ho] at hc; cases hc
  | some o =>
    rw [ho] at hc
    simp only [Option.map_some, Option.some.injEq] at hc
    rw [Array.any_eq_true'] at hc
    obtain ⟨e, he, hb⟩ := hc
    rw [Bool.and_eq_true] at hb
    have := (ready_dep h).2.2 o ho e he hb.2
    rwa [show e.on = j by simpa using hb.1] at this
/-- Where none comes up, all are done. -/
theorem all_listed {listed : Array Bool} (hs : listed.size = ops.size) (hd : ((List.range ops.size).all fun i => (ops[i]?.map fun o => o.after.all fun e => decide (e.on < i)).getD false) = true) (h : Region.ready md ops listed = []) : ∀ i, i < ops.size → listed.getD i false = true := by
  intro i
  induction i using Nat.strongRecOn with
  | ind i ih =>
    intro hi
    have hn : i ∉ Region.ready md ops listed := by rw [h]; simp
    unfold Region.ready at hn
    rw [List.mem_filter] at hn
    have hlt : i < listed.size := by omega
    cases hv : listed[i]? with
    | none => rw [Array.getElem?_eq_none_iff] at hv; omega
    | some b =>
      cases b with
      | true => simp [Array.getD_eq_getD_getElem?, hv]
      | false =>
        refine absurd ⟨List.mem_range.2 hi, ?_⟩ hn
        rw [Bool.and_eq_true]
        refine ⟨by simp [Array.getD_eq_getD_getElem?, hv], ?_⟩
        have h1 := List.all_eq_true.1 hd i (List.mem_range.2 hi)
        cases ho : ops[i]? with
        | none => rw [ho] at h1; cases h1
        | some o =>
          rw [ho] at h1
          simp only [Option.map_some, Option.getD_some] at h1 ⊢
          refine Array.all_eq_true_iff_forall_mem.2 fun e he => ?_
          have := of_decide_eq_true (Array.all_eq_true_iff_forall_mem.1 h1 e he)
          rw [ih e.on this (by omega)]
          simp
/-- THE RULE: what holds ahead of it, and is kept by each operation that may come up, holds behind it. -/
theorem wpAny_inv (Inv : Array Bool → Act → World → Prop) (hdone : ∀ listed a w, listed.size = ops.size → Region.ready md ops listed = [] → Inv listed a w → Q .normal a w)
    (hstep : ∀ listed a w i, listed.size = ops.size → i ∈ Region.ready md ops listed → Inv listed a w → wpOp P ops Q i (Inv (listed.setIfInBounds i true)) a w) :
    ∀ (fuel : Nat) (listed : Array Bool) (a : Act) (w : World), listed.size = ops.size → left listed.toList ≤ fuel → Inv listed a w → wpAny P md ops Q fuel listed a w
  | 0, listed, a, w, hs, hf, h => by
    have h0 : Region.ready md ops listed = [] := by
      unfold Region.ready
      rw [List.filter_eq_nil_iff]
      intro i hi
      have hi := List.mem_range.1 hi
      have := left_zero listed.toList (by omega) i (by simp; omega)
      rw [Array.getElem?_toList] at this
      simp [Array.getD_eq_getD_getElem?, this]
    exact ⟨h0, hdone _ _ _ hs h0 h⟩
  | fuel + 1, listed, a, w, hs, hf, h => by
    refine ⟨fun h0 => hdone _ _ _ hs h0 h, fun i hi => ?_⟩
    refine wpOp_mono (fun a' w' h' => wpAny_inv Inv hdone hstep fuel _ a' w' (by simp [hs]) ?_ h') (hstep listed a w i hs hi h)
    have h1 := (ready_dep hi).2.1
    have hi' := (ready_dep hi).1
    have h2 : listed.toList[i]? = some false := by
      rw [Array.getElem?_toList]
      cases hv : listed[i]? with
      | none => rw [Array.getElem?_eq_none_iff] at hv; omega
      | some b => rw [Array.getD_eq_getD_getElem?, hv] at h1; simp at h1; rw [h1]
    have := left_set listed.toList i h2
    rw [Array.toList_setIfInBounds]
    omega
theorem wp_region_inv {id : Nat} {a : Act} {w : World} (hm : P.follows .mixedOrders = true) (Inv : Array Bool → Act → World → Prop) (hdone : ∀ listed a w, listed.size = ops.size → Region.ready .any ops listed = [] → Inv listed a w → Q .normal a w)
    (hstep : ∀ listed a w i, listed.size = ops.size → i ∈ Region.ready .any ops listed → Inv listed a w → wpOp P ops Q i (Inv (listed.setIfInBounds i true)) a w)
    (h : Inv (Array.replicate ops.size false) a w.drew) : (Code.region id ops true).wp P Q a w :=
  wp_region_any hm (wpAny_inv Inv hdone hstep _ _ _ _ (by simp) (by unfold left; exact Nat.le_trans List.countP_le_length (by simp)) h)

theorem step_value {i : Nat} {d : Option Tmp} {op : Op} {K : Act → World → Prop} {a : Act} {w w' : World} {v : Value} (ho : (ops[i]?.map fun o => (o.dst, o.op, o.guard)) = some (d, op, none))
    (hr : ∀ o : Oper, o.op = op → (execOp a.eval o).run P w = .ok (.value v) w') (hK : K (a.put d v) w') : wpOp P ops Q i K a w := by
  unfold wpOp
  cases h : ops[i]? with
  | none => rw [h] at ho; cases ho
  | some o =>
    rw [h] at ho
    simp only [Option.map_some, Option.some.injEq, Prod.mk.injEq] at ho
    obtain ⟨h1, h2, h3⟩ := ho
    simp only [Region.wanted, h3, if_true]
    left
    unfold Oper.wp
    rw [hr o h2]
    simp only [Oper.upon, h1]
    exact hK
theorem step_skip {i : Nat} {d : Option Tmp} {op : Op} {K : Act → World → Prop} {a : Act} {w w' : World} (ho : (ops[i]?.map fun o => (o.dst, o.op, o.guard)) = some (d, op, none))
    (hr : ∀ o : Oper, o.op = op → (execOp a.eval o).run P w = .ok .skip w') (hK : K (a.put d undef) w') : wpOp P ops Q i K a w := by
  unfold wpOp
  cases h : ops[i]? with
  | none => rw [h] at ho; cases ho
  | some o =>
    rw [h] at ho
    simp only [Option.map_some, Option.some.injEq, Prod.mk.injEq] at ho
    obtain ⟨h1, h2, h3⟩ := ho
    simp only [Region.wanted, h3, if_true]
    left
    unfold Oper.wp
    rw [hr o h2]
    simp only [Oper.upon, h1]
    exact hK
theorem step_enter {i : Nat} {d : Option Tmp} {op : Op} {K : Act → World → Prop} {a : Act} {w : World} {f : FuncId} {args : Array Value} (ho : (ops[i]?.map fun o => (o.dst, o.op, o.guard)) = some (d, op, none))
    (hr : ∀ o : Oper, o.op = op → (execOp a.eval o).run P w = .ok (.enter f args) w) (hK : Calls P f args w fun e w' => ∃ v, e = .returned v ∧ K (a.put d v) w') : wpOp P ops Q i K a w := by
  unfold wpOp
  cases h : ops[i]? with
  | none => rw [h] at ho; cases ho
  | some o =>
    rw [h] at ho
    simp only [Option.map_some, Option.some.injEq, Prod.mk.injEq] at ho
    obtain ⟨h1, h2, h3⟩ := ho
    simp only [Region.wanted, h3, if_true]
    left
    unfold Oper.wp
    rw [hr o h2, Oper.upon_enter]
    refine hK.mono fun e w' ⟨v, he, hk⟩ => ?_
    subst he
    rw [h1]
    exact hk
end
end Go.Proofs.YtomffpibdinkaaaGreatDoor
