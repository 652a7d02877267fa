/-
  Facts and contracts that the proof calls.
-/
import Derived.Test.YtdinpakclmnacaaGreatDoorKfEncCode
import Derived.Test.YtdinpakclmnacaaGreatDoorKfModRight
import Derived.Lib.SmallJoins
namespace Go.Proofs.YtdinpakclmnacaaGreatDoor
set_option maxRecDepth 100000
set_option maxHeartbeats 16000000
def left (l : List Bool) : Nat := l.countP (fun b => !b)
theorem left_set : ∀ (l : List Bool) (i : Nat), l[i]? = some false → left (l.set i true) + 1 = left l
  | [], i, h => by simp at h
  | b :: l, 0, h => by simp at h; subst h; simp [left]
  | b :: l, i + 1, h => by
    have := left_set l i (by simpa using h)
    unfold left at *
    simp only [List.set_cons_succ, List.countP_cons]
    omega
theorem left_zero : ∀ (l : List Bool), left l = 0 → ∀ i, i < l.length → l[i]? = some true
  | [], _, i, hi => by simp at hi
  | b :: l, h, i, hi => by
    unfold left at h
    rw [List.countP_cons] at h
    cases b with
    | false => simp at h
    | true =>
      cases i with
      | zero => rfl
      | succ i => rw [List.getElem?_cons_succ]; exact left_zero l (by unfold left; omega) i (by simpa using hi)
section
variable {P : Program} {md : Region.Mode} {ops : Array Oper} {Q : Exit → Act → World → Prop}
theorem ready_dep {listed : Array Bool} {i : Nat} (h : i ∈ Region.ready md ops listed) : i < ops.size ∧ listed.getD i true = false ∧ ∀ o, ops[i]? = some o → ∀ e ∈ o.after, Region.binds md e = true → listed.getD e.on false = true := by
  unfold Region.ready at h
  rw [List.mem_filter] at h
  obtain ⟨h1, h2⟩ := h
  rw [Bool.and_eq_true] at h2
  refine ⟨List.mem_range.1 h1, by simpa using h2.1, fun o ho e he hb => ?_⟩
  have h3 := h2.2
  rw [ho] at h3
  simp only [Option.map_some, Option.getD_some] at h3
  have h4 := Array.all_eq_true_iff_forall_mem.1 h3 e he
  rw [hb] at h4
  simpa using h4
theorem ready_on {listed : Array Bool} {i j : Nat} (h : i ∈ Region.ready md ops listed) (hc : (ops[i]?.map fun o => o.after.any fun e => e.on == j && Region.binds md e) = some true) : listed.getD j false = true := by
  cases ho : ops[i]? with
  | none => rw [ho] at hc; cases hc
  | some o =>
    rw [ho] at hc
    simp only [Option.map_some, Option.some.injEq] at hc
    rw [Array.any_eq_true'] at hc
    obtain ⟨e, he, hb⟩ := hc
    rw [Bool.and_eq_true] at hb
    have := (ready_dep h).2.2 o ho e he hb.2
    rwa [show e.on = j by simpa using hb.1] at this
theorem all_listed {listed : Array Bool} (hs : listed.size = ops.size) (hd : ((List.range ops.size).all fun i => (ops[i]?.map fun o => o.after.all fun e => decide (e.on < i)).getD false) = true) (h : Region.ready md ops listed = []) : ∀ i, i < ops.size → listed.getD i false = true := by
  intro i
  induction i using Nat.strongRecOn with
  | ind i ih =>
    intro hi
    have hn : i ∉ Region.ready md ops listed := by rw [h]; simp
    unfold Region.ready at hn
    rw [List.mem_filter] at hn
    have hlt : i < listed.size := by omega
    cases hv : listed[i]? with
    | none => rw [Array.getElem?_eq_none_iff] at hv; omega
    | some b =>
      cases b with
      | true => simp [Array.getD_eq_getD_getElem?, hv]
      | false =>
        refine absurd ⟨List.mem_range.2 hi, ?_⟩ hn
        rw [Bool.and_eq_true]
        refine ⟨by simp [Array.getD_eq_getD_getElem?, hv], ?_⟩
        have h1 := List.all_eq_true.1 hd i (List.mem_range.2 hi)
        cases ho : ops[i]? with
        | none => rw [ho] at h1; cases h1
        | some o =>
          rw [ho] at h1
          simp only [Option.map_some, Option.getD_some] at h1 ⊢
          refine Array.all_eq_true_iff_forall_mem.2 fun e he => ?_
          have := of_decide_eq_true (Array.all_eq_true_iff_forall_mem.1 h1 e he)
          rw [ih e.on this (by omega)]
          simp
theorem wpAny_inv (Inv : Array Bool → Act → World → Prop) (hdone : ∀ listed a w, listed.size = ops.size → Region.ready md ops listed = [] → Inv listed a w → Q .normal a w)
    (hstep : ∀ listed a w i, listed.size = ops.size → i ∈ Region.ready md ops listed → Inv listed a w → wpOp P ops Q i (Inv (listed.setIfInBounds i true)) a w) :
    ∀ (fuel : Nat) (listed : Array Bool) (a : Act) (w : World), listed.size = ops.size → left listed.toList ≤ fuel → Inv listed a w → wpAny P md ops Q fuel listed a w
  | 0, listed, a, w, hs, hf, h => by
    have h0 : Region.ready md ops listed = [] := by
      unfold Region.ready
      rw [List.filter_eq_nil_iff]
      intro i hi
      have hi := List.mem_range.1 hi
      have := left_zero listed.toList (by omega) i (by simp; omega)
      rw [Array.getElem?_toList] at this
      simp [Array.getD_eq_getD_getElem?, this]
    exact ⟨h0, hdone _ _ _ hs h0 h⟩
  | fuel + 1, listed, a, w, hs, hf, h => by
    refine ⟨fun h0 => hdone _ _ _ hs h0 h, fun i hi => ?_⟩
    refine wpOp_mono (fun a' w' h' => wpAny_inv Inv hdone hstep fuel _ a' w' (by simp [hs]) ?_ h') (hstep listed a w i hs hi h)
    have h1 := (ready_dep hi).2.1
    have hi' := (ready_dep hi).1
    have h2 : listed.toList[i]? = some false := by
      rw [Array.getElem?_toList]
      cases hv : listed[i]? with
      | none => rw [Array.getElem?_eq_none_iff] at hv; omega
      | some b => rw [Array.getD_eq_getD_getElem?, hv] at h1; simp at h1; rw [h1]
    have := left_set listed.toList i h2
    rw [Array.toList_setIfInBounds]
    omega
theorem wp_region_inv {id : Nat} {a : Act} {w : World} (hm : P.follows .mixedOrders = true) (Inv : Array Bool → Act → World → Prop) (hdone : ∀ listed a w, listed.size = ops.size → Region.ready .any ops listed = [] → Inv listed a w → Q .normal a w)
    (hstep : ∀ listed a w i, listed.size = ops.size → i ∈ Region.ready .any ops listed → Inv listed a w → wpOp P ops Q i (Inv (listed.setIfInBounds i true)) a w)
    (h : Inv (Array.replicate ops.size false) a w.drew) : (Code.region id ops true).wp P Q a w :=
  wp_region_any hm (wpAny_inv Inv hdone hstep _ _ _ _ (by simp) (by unfold left; exact Nat.le_trans List.countP_le_length (by simp)) h)
theorem step_value {i : Nat} {d : Option Tmp} {op : Op} {K : Act → World → Prop} {a : Act} {w w' : World} {v : Value} (ho : (ops[i]?.map fun o => (o.dst, o.op, o.guard)) = some (d, op, none))
    (hr : ∀ o : Oper, o.op = op → (execOp a.eval o).run P w = .ok (.value v) w') (hK : K (a.put d v) w') : wpOp P ops Q i K a w := by
  unfold wpOp
  cases h : ops[i]? with
  | none => rw [h] at ho; cases ho
  | some o =>
    rw [h] at ho
    simp only [Option.map_some, Option.some.injEq, Prod.mk.injEq] at ho
    obtain ⟨h1, h2, h3⟩ := ho
    simp only [Region.wanted, h3, if_true]
    left
    unfold Oper.wp
    rw [hr o h2]
    simp only [Oper.upon, h1]
    exact hK
theorem step_skip {i : Nat} {d : Option Tmp} {op : Op} {K : Act → World → Prop} {a : Act} {w w' : World} (ho : (ops[i]?.map fun o => (o.dst, o.op, o.guard)) = some (d, op, none))
    (hr : ∀ o : Oper, o.op = op → (execOp a.eval o).run P w = .ok .skip w') (hK : K (a.put d undef) w') : wpOp P ops Q i K a w := by
  unfold wpOp
  cases h : ops[i]? with
  | none => rw [h] at ho; cases ho
  | some o =>
    rw [h] at ho
    simp only [Option.map_some, Option.some.injEq, Prod.mk.injEq] at ho
    obtain ⟨h1, h2, h3⟩ := ho
    simp only [Region.wanted, h3, if_true]
    left
    unfold Oper.wp
    rw [hr o h2]
    simp only [Oper.upon, h1]
    exact hK
theorem step_enter {i : Nat} {d : Option Tmp} {op : Op} {K : Act → World → Prop} {a : Act} {w : World} {f : FuncId} {args : Array Value} (ho : (ops[i]?.map fun o => (o.dst, o.op, o.guard)) = some (d, op, none))
    (hr : ∀ o : Oper, o.op = op → (execOp a.eval o).run P w = .ok (.enter f args) w) (hK : Calls P f args w fun e w' => ∃ v, e = .returned v ∧ K (a.put d v) w') : wpOp P ops Q i K a w := by
  unfold wpOp
  cases h : ops[i]? with
  | none => rw [h] at ho; cases ho
  | some o =>
    rw [h] at ho
    simp only [Option.map_some, Option.some.injEq, Prod.mk.injEq] at ho
    obtain ⟨h1, h2, h3⟩ := ho
    simp only [Region.wanted, h3, if_true]
    left
    unfold Oper.wp
    rw [hr o h2, Oper.upon_enter]
    refine hK.mono fun e w' ⟨v, he, hk⟩ => ?_
    subst he
    rw [h1]
    exact hk
end
end Go.Proofs.YtdinpakclmnacaaGreatDoor
namespace Go.Proofs.YtdinpakclmnacaaGreatDoor
set_option maxRecDepth 100000
set_option maxHeartbeats 16000000
open Go.RowKit Go.Maps
set_option linter.unusedVariables false
set_option maxRecDepth 100000
def valRead (v : Value) : Option (DataW Value × List MemPlace) := some (.held v, [])
structure Kc (W W' : World) : Prop where
  size : W.heap.size ≤ W'.heap.size
  cells : ∀ (k : Nat) (c : Array Value) (t : TypeId) (f : Nat × Nat), W.heap[k]? = some (Obj.cells c t f) → W'.heap[k]? = some (Obj.cells c t f)
theorem Kc.refl (W : World) : Kc W W := ⟨Nat.le_refl _, fun _ _ _ _ h => h⟩
theorem Kc.alloc (W : World) (o : Obj) : Kc W (W.alloc o) := ⟨by simp, fun k c t f h => (Below.heap_alloc W o k (heap_lt9 h)).trans h⟩
theorem Kc.trans {a b c : World} (h : Kc a b) (k : Kc b c) : Kc a c := ⟨Nat.le_trans h.size k.size, fun i x t f hi => k.cells i x t f (h.cells i x t f hi)⟩
def Clo (gp gw : Nat) (x : Value) (t1 t2 : TypeId) (v : Value) (W : World) : Prop := ∃ a b, v = .func (.func gw) #[] #[.pointer (some ⟨a, 0, none⟩), .pointer (some ⟨b, 0, none⟩)] ∧ W.heap[a]? = some (.cells #[x] t1) ∧ W.heap[b]? = some (.cells #[.func (.func gp) #[] #[]] t2)
theorem Clo.kc {gp gw : Nat} {x : Value} {t1 t2 : TypeId} {v : Value} {W W' : World} (h : Clo gp gw x t1 t2 v W) (hk : Kc W W') : Clo gp gw x t1 t2 v W' := by
  obtain ⟨a, b, hv, h1, h2⟩ := h
  exact ⟨a, b, hv, hk.cells _ _ _ _ h1, hk.cells _ _ _ _ h2⟩
abbrev AD (B : Nat) (f : Nat) : Value := .pointer (some ⟨B, f, none⟩)
def secClo (m : MoV) (B : Nat) (k : Nat) (v : Value) (W : World) : Prop := match k with
  | 1 => Clo 134 195 (.slice m.tp m.types.length m.tc) 28 184 v W
  | 3 => Clo 136 198 (.slice m.fp m.funcs.length m.fc) 29 187 v W
  | 5 => Clo 139 200 (.slice m.mp m.memory.length m.mc) 30 189 v W
  | 6 => Clo 141 202 (.slice m.gp m.globals.length m.gc) 31 191 v W
  | 7 => Clo 143 205 (.slice m.ep m.exports.length m.ec) 32 193 v W
  | 10 => Clo 145 198 (.slice m.fp m.funcs.length m.fc) 29 187 v W
  | 11 => Clo 147 211 (.slice m.dp m.data.length m.dc) 33 195 v W
  | 8 => v = .func (.func 144) #[] #[AD B 0]
  | _ => False
theorem secClo.kc {m : MoV} {B k : Nat} {v : Value} {W W' : World} (h : secClo m B k v W) (hk : Kc W W') : secClo m B k v W' := by
  unfold secClo at *
  split at h <;> first | exact h.kc hk | exact h
def secF (m : MoV) (B : Nat) (i : Nat) (o : Option Value) (W : World) : Prop := match i with
  | 1 => o = some (AD B 0)
  | 5 => o = some (AD B 1)
  | 9 => o = some (AD B 2)
  | 13 => o = some (AD B 3)
  | 17 => o = some (AD B 4)
  | 23 => o = some (AD B 1)
  | 27 => o = some (AD B 6)
  | 2 => o = some (.slice m.tp m.types.length m.tc)
  | 6 => o = some (.slice m.fp m.funcs.length m.fc)
  | 10 => o = some (.slice m.mp m.memory.length m.mc)
  | 14 => o = some (.slice m.gp m.globals.length m.gc)
  | 18 => o = some (.slice m.ep m.exports.length m.ec)
  | 24 => o = some (.slice m.fp m.funcs.length m.fc)
  | 28 => o = some (.slice m.dp m.data.length m.dc)
  | 3 => ∃ v, o = some v ∧ secClo m B 1 v W
  | 7 => ∃ v, o = some v ∧ secClo m B 3 v W
  | 11 => ∃ v, o = some v ∧ secClo m B 5 v W
  | 15 => ∃ v, o = some v ∧ secClo m B 6 v W
  | 19 => ∃ v, o = some v ∧ secClo m B 7 v W
  | 25 => ∃ v, o = some v ∧ secClo m B 10 v W
  | 29 => ∃ v, o = some v ∧ secClo m B 11 v W
  | 21 => ∃ v, o = some v ∧ secClo m B 8 v W
  | _ => True
def secDst (i : Nat) : Nat := match i with
  | 1 => 4
  | 2 => 5
  | 3 => 6
  | 5 => 7
  | 6 => 8
  | 7 => 9
  | 9 => 10
  | 10 => 11
  | 11 => 12
  | 13 => 13
  | 14 => 14
  | 15 => 15
  | 17 => 16
  | 18 => 17
  | 19 => 18
  | 21 => 19
  | 23 => 20
  | 24 => 21
  | 25 => 22
  | 27 => 23
  | 28 => 24
  | 29 => 25
  | i => 100 + i
def secIns (k : Nat) : Option Nat := match k with
  | 1 => some 4
  | 3 => some 8
  | 5 => some 12
  | 6 => some 16
  | 7 => some 20
  | 8 => some 22
  | 10 => some 26
  | 11 => some 30
  | _ => none
theorem secF.kc {m : MoV} {B i : Nat} {o : Option Value} {W W' : World} (h : secF m B i o W) (hk : Kc W W') : secF m B i o W' := by
  unfold secF at *
  split at h <;> first | exact h | (obtain ⟨v, h1, h2⟩ := h; exact ⟨v, h1, h2.kc hk⟩)
theorem secDst_ne : ∀ i, i < 33 → ∀ j, j < 33 → i ≠ j → secDst i ≠ secDst j := by decide
theorem secDst_far : ∀ i, i < 33 → secDst i ≠ 1 ∧ secDst i ≠ 2 ∧ secDst i ≠ 3 ∧ secDst i ≠ 26 := by decide
theorem secIns_some {k i : Nat} (h : secIns k = some i) : k < 12 ∧ i < 33 ∧ secDst i = 100 + i ∧ i ≠ 0 ∧ i ≠ 31 ∧ i ≠ 32 := by
  unfold secIns at h
  split at h <;> first | (injection h with h; subst h; decide) | cases h
theorem secIns_inj {k k' i : Nat} (h : secIns k = some i) (h' : secIns k' = some i) : k = k' := by
  unfold secIns at h
  split at h <;> first | (injection h with h; subst h; unfold secIns at h'; split at h' <;> first | rfl | (injection h' with h'; omega) | cases h') | cases h
theorem getD_set {listed : Array Bool} {i j : Nat} (hj : j < listed.size) : (listed.setIfInBounds j true).getD i false = if i = j then true else listed.getD i false := by
  rw [Array.getD_eq_getD_getElem?, Array.getElem?_setIfInBounds, Array.getD_eq_getD_getElem?]
  by_cases h : i = j
  · subst h; simp [hj]
  · have h2 : ¬ j = i := fun e => h e.symm
    simp [h, h2]
theorem left_set9 {listed : Array Bool} {j : Nat} (hj : j < listed.size) (hn : listed.getD j true = false) : left (listed.setIfInBounds j true).toList + 1 = left listed.toList := by
  rw [Array.toList_setIfInBounds]
  refine left_set _ _ ?_
  rw [Array.getElem?_toList]
  cases hv : listed[j]? with
  | none => rw [Array.getElem?_eq_none_iff] at hv; omega
  | some b => rw [Array.getD_eq_getD_getElem?, hv] at hn; simp at hn; rw [hn]
theorem getD_false {listed : Array Bool} {j : Nat} (hj : j < listed.size) (hn : listed.getD j true = false) : listed.getD j false = false := by
  cases hv : listed[j]? with
  | none => rw [Array.getElem?_eq_none_iff] at hv; omega
  | some b => rw [Array.getD_eq_getD_getElem?, hv] at hn ⊢; simpa using hn
theorem secF_far {m : MoV} {B i : Nat} {o : Option Value} {W : World} (hi : secDst i = 100 + i) : secF m B i o W := by
  unfold secF
  split <;> first | trivial | (exact absurd hi (by decide))
structure SecMap (m : MoV) (B : Nat) (listed : Array Bool) (W : World) (b n : Nat) (D : DataW Value) : Prop where
  own : W.ownsMap Tryz.prog 3 valRead b n D
  few : n + left listed.toList ≤ 40
  from0 : B ≤ b
  there : ∀ k i, secIns k = some i → listed.getD i false = true → ∃ v, Maps.has D (.int .i64 k) = true ∧ (∀ z, D.atKey (.int .i64 k) z = .held v) ∧ secClo m B k v W
  none : ∀ k : Nat, (∀ i, secIns k = some i → listed.getD i false = false) → Maps.has D (.int .i64 k) = false
structure SecInv (m : MoV) (w : World) (df : List Deferred) (listed : Array Bool) (a : Act) (W : World) : Prop where
  defers : a.defers = df
  size : a.tmps.size = 27
  ptr : a.tmps[1]? = some (AD w.heap.size 0)
  bel : Below w.heap.size w W
  box : W.heap[w.heap.size]? = some (.cells ⟨m.cells⟩ 35)
  fact : ∀ i, i < 33 → listed.getD i false = true → secF m w.heap.size i a.tmps[secDst i]? W
  ins0 : ∀ i, listed.getD i false = true → secDst i = 100 + i → listed.getD 0 false = true
  c32 : listed.getD 32 false = true → listed.getD 31 false = true
  m31 : listed.getD 31 false = true → a.tmps[26]? = a.tmps[3]?
  m32 : listed.getD 32 false = true → a.tmps[2]? = a.tmps[3]?
  map : listed.getD 0 false = true → ∃ b n D, a.tmps[3]? = some (.map (some b)) ∧ SecMap m w.heap.size listed W b n D
theorem put_same {a : Act} {d : Nat} {v : Value} (h : d < a.tmps.size) : (a.put (some d) v).tmps[d]? = some v := by
  simp [Act.put, h]
theorem put_other {a : Act} {d e : Nat} {v : Value} (h : d ≠ e) : (a.put (some d) v).tmps[e]? = a.tmps[e]? := by
  simp [Act.put, h]
theorem put_size (a : Act) (d : Nat) (v : Value) : (a.put (some d) v).tmps.size = a.tmps.size := by simp [Act.put]
theorem SecInv.step {m : MoV} {w : World} {df : List Deferred} {listed : Array Bool} {a : Act} {W W' : World} {j : Nat} (h : SecInv m w df listed a W) (hs : listed.size = 33) (hj : j < 33) (hn : listed.getD j true = false) (hd : secDst j < 26) (v : Value)
    (hk : Kc W W') (hb : Below w.heap.size w W') (hm : ∀ b n D, W.ownsMap Tryz.prog 3 valRead b n D → W'.ownsMap Tryz.prog 3 valRead b n D) (hF : secF m w.heap.size j (some v) W') :
    SecInv m w df (listed.setIfInBounds j true) (a.put (some (secDst j)) v) W' := by
  have hj' : j < listed.size := by omega
  have hl := left_set9 hj' hn
  obtain ⟨f1, f2, f3, f26⟩ := secDst_far j hj
  have n0 : ¬ 0 = j := by intro e; subst e; revert hd; decide
  have n31 : ¬ 31 = j := by intro e; subst e; revert hd; decide
  have n32 : ¬ 32 = j := by intro e; subst e; revert hd; decide
  have nI : ∀ k i, secIns k = some i → ¬ i = j := fun k i hi e => by subst e; have := (secIns_some hi).2.2.1; omega
  refine ⟨h.defers, (put_size _ _ _).trans h.size, (put_other f1).trans h.ptr, hb, hk.cells _ _ _ _ h.box, fun i hi hl => ?_, fun i hi h1 => ?_, fun h1 => ?_, fun h1 => ?_, fun h1 => ?_, fun h1 => ?_⟩
  · rw [getD_set hj'] at hl
    by_cases he : i = j
    · subst he
      rw [put_same (by rw [h.size]; omega)]
      exact hF
    · rw [if_neg he] at hl
      rw [put_other (secDst_ne j hj i hi (fun e => he e.symm))]
      exact (h.fact i hi hl).kc hk
  · rw [getD_set hj', if_neg n0]
    rw [getD_set hj'] at hi
    by_cases he : i = j
    · subst he; omega
    · rw [if_neg he] at hi; exact h.ins0 i hi h1
  · rw [getD_set hj', if_neg n31]; rw [getD_set hj', if_neg n32] at h1; exact h.c32 h1
  · rw [getD_set hj', if_neg n31] at h1; rw [put_other f26, put_other f3]; exact h.m31 h1
  · rw [getD_set hj', if_neg n32] at h1; rw [put_other f2, put_other f3]; exact h.m32 h1
  · rw [getD_set hj', if_neg n0] at h1
    obtain ⟨b, n, D, h3, hM⟩ := h.map h1
    refine ⟨b, n, D, (put_other f3).trans h3, hm _ _ _ hM.own, by have := hM.few; omega, hM.from0, fun k i hi hl => ?_, fun k hk => hM.none k fun i hi => ?_⟩
    · rw [getD_set hj', if_neg (nI k i hi)] at hl
      obtain ⟨u, q1, q2, q3⟩ := hM.there k i hi hl
      exact ⟨u, q1, q2, q3.kc hk⟩
    · have := hk i hi
      rwa [getD_set hj', if_neg (nI k i hi)] at this
theorem SecInv.make {m : MoV} {w : World} {df : List Deferred} {listed : Array Bool} {a : Act} {W : World} (h : SecInv m w df listed a W) (hs : listed.size = 33) (hn : listed.getD 0 true = false) :
    SecInv m w df (listed.setIfInBounds 0 true) (a.put (some 3) (.map (some W.heap.size))) (W.alloc (.map #[] 0)) := by
  have hj' : 0 < listed.size := by omega
  have hl := left_set9 hj' hn
  have h0 := getD_false hj' hn
  have hI : ∀ i, secDst i = 100 + i → listed.getD i false = false := fun i hi => by
    cases hv : listed.getD i false with
    | false => rfl
    | true => rw [h.ins0 i hv hi] at h0; cases h0
  have hlt : left listed.toList ≤ 33 := by unfold left; exact Nat.le_trans List.countP_le_length (by simp [hs])
  have hk := Kc.alloc W (.map #[] 0)
  refine ⟨h.defers, (put_size _ _ _).trans h.size, (put_other (by decide)).trans h.ptr, h.bel.alloc h.bel.size _, hk.cells _ _ _ _ h.box, fun i hi hl => ?_, fun i hi h1 => ?_, fun h1 => ?_, fun h1 => ?_, fun h1 => ?_, fun h1 => ?_⟩
  · rw [getD_set hj'] at hl
    by_cases he : i = 0
    · subst he; trivial
    · rw [if_neg he] at hl
      have := (secDst_far i hi).2.2.1
      rw [put_other (fun e => this e.symm)]
      exact (h.fact i hi hl).kc hk
  · rw [getD_set hj', if_pos rfl]
  · rw [getD_set hj', if_neg (by decide)] at h1; rw [hI 32 rfl] at h1; cases h1
  · rw [getD_set hj', if_neg (by decide)] at h1; rw [hI 31 rfl] at h1; cases h1
  · rw [getD_set hj', if_neg (by decide)] at h1; rw [hI 32 rfl] at h1; cases h1
  · refine ⟨W.heap.size, 0, .map [], put_same (by rw [h.size]; decide), World.ownsMap_made W _ _ _, by omega, h.bel.size, fun k i hi hl => ?_, fun k _ => ?_⟩
    · have hi2 := secIns_some hi
      rw [getD_set hj', if_neg hi2.2.2.2.1, hI i hi2.2.2.1] at hl
      cases hl
    · rfl
theorem kc_grown {W W' : World} {b : Nat} {es : Array MapEntry} {c : Nat} (hb : W.heap[b]? = some (.map es c)) (hg : W.grownBy W' (some b)) : Kc W W' := ⟨hg.size, fun k x t f hk => (hg.block k (heap_lt9 hk) (fun e => by injection e with e; subst e; rw [hb] at hk; cases hk)).trans hk⟩
theorem SecInv.insert {m : MoV} {w : World} {df : List Deferred} {listed : Array Bool} {a : Act} {W : World} {j k t c : Nat} (h : SecInv m w df listed a W) (hs : listed.size = 33) (hn : listed.getD j true = false) (hi : secIns k = some j) (h0 : listed.getD 0 false = true) (hc : c < 33) (hcl : listed.getD c false = true) (ht : secDst c = t) (hF : ∀ o W, secF m w.heap.size c o W → ∃ v, o = some v ∧ secClo m w.heap.size k v W) :
    ∃ b v W', a.tmps[3]? = some (.map (some b)) ∧ a.tmps[t]? = some v ∧ (Instr.mapUpdate 117 (.map (some b)) (.int .i64 k) v).run Tryz.prog W = .ok () W' ∧ SecInv m w df (listed.setIfInBounds j true) (a.put none undef) W' := by
  obtain ⟨hk12, hj, hdj, n0, n31, n32⟩ := secIns_some hi
  have hj' : j < listed.size := by omega
  have hl := left_set9 hj' hn
  obtain ⟨b, n, D, h3, hM⟩ := h.map h0
  obtain ⟨v, hv, hcv⟩ := hF _ _ (h.fact c hc hcl)
  rw [ht] at hv
  have law : Keyed Tryz.prog 3 := int_keyed Tryz.underlying3
  have hwf : ∀ a : Nat, a < 12 → (Lit.int .i64 (a : Int)).wf = true := fun a ha => WalkArith.wf_i64 ⟨by omega, by omega⟩
  obtain ⟨W', hu, ho, hg⟩ := hM.own.update law Tryz.underlying117 (by have := hM.few; unfold maxLen; omega) (keyOf_int_mk Tryz.underlying3 (hwf k hk12)) (show valRead v = some (.held v, []) from rfl)
  obtain ⟨es, clk, hb, _⟩ := hM.own
  have hkc := kc_grown hb hg
  have hbel : Below w.heap.size w W' := h.bel.grown hg h.bel.size (fun g e => by injection e with e; subst e; exact hM.from0)
  have hmap := hM.own.isMap
  have hkl : WideAt.IsKeyLit (Lit.int .i64 (k : Int)) := by trivial
  refine ⟨b, v, W', h3, hv, hu, h.defers, h.size, h.ptr, hbel, hkc.cells _ _ _ _ h.box, fun i hi hl => ?_, fun i hi h1 => ?_, fun h1 => ?_, fun h1 => ?_, fun h1 => ?_, fun h1 => ?_⟩
  · rw [getD_set hj'] at hl
    by_cases he : i = j
    · subst he
      exact secF_far hdj
    · rw [if_neg he] at hl
      exact (h.fact i hi hl).kc hkc
  · rw [getD_set hj', if_neg (fun e => n0 e.symm)]; exact h0
  · rw [getD_set hj', if_neg (fun e => n31 e.symm)]; rw [getD_set hj', if_neg (fun e => n32 e.symm)] at h1; exact h.c32 h1
  · rw [getD_set hj', if_neg (fun e => n31 e.symm)] at h1; exact h.m31 h1
  · rw [getD_set hj', if_neg (fun e => n32 e.symm)] at h1; exact h.m32 h1
  · refine ⟨b, n + 1, _, h3, ho, by have := hM.few; omega, hM.from0, fun k' i' hi' hl' => ?_, fun k' hk' => ?_⟩
    · by_cases he : k' = k
      · subst he
        exact ⟨v, has_put_same hmap hkl _, fun z => atKey_put_same hmap hkl _ z, hcv.kc hkc⟩
      · have hij : ¬ i' = j := fun e => by subst e; exact he (secIns_inj hi' hi)
        rw [getD_set hj', if_neg hij] at hl'
        obtain ⟨u, q1, q2, q3⟩ := hM.there k' i' hi' hl'
        have hne : Lit.int .i64 (k' : Int) ≠ Lit.int .i64 (k : Int) := fun e => he (by have := (Lit.int.inj e).2; omega)
        exact ⟨u, (has_put_other hne _).trans q1, fun z => (atKey_put_other hne _ z).trans (q2 z), q3.kc hkc⟩
    · have he : ¬ k' = k := fun e => by
        subst e
        have := hk' j hi
        rw [getD_set hj', if_pos rfl] at this
        cases this
      have hne : Lit.int .i64 (k' : Int) ≠ Lit.int .i64 (k : Int) := fun e => he (by have := (Lit.int.inj e).2; omega)
      rw [has_put_other hne]
      refine hM.none k' fun i' hi' => ?_
      have := hk' i' hi'
      rwa [getD_set hj', if_neg (fun e => by subst e; exact he (secIns_inj hi' hi))] at this
theorem SecInv.last {m : MoV} {w : World} {df : List Deferred} {listed : Array Bool} {a : Act} {W : World} {j d : Nat} (h : SecInv m w df listed a W) (hs : listed.size = 33) (hn : listed.getD j true = false) (hj : (j = 31 ∧ d = 26) ∨ (j = 32 ∧ d = 2 ∧ listed.getD 31 false = true)) (h0 : listed.getD 0 false = true) {v : Value} (hv : a.tmps[3]? = some v) :
    SecInv m w df (listed.setIfInBounds j true) (a.put (some d) v) W := by
  have hj' : j < listed.size := by omega
  have hl := left_set9 hj' hn
  have hnf := getD_false hj' hn
  have hd3 : d ≠ 3 := by omega
  have hd1 : d ≠ 1 := by omega
  have hds : d < 27 := by omega
  have n0 : ¬ 0 = j := by omega
  have hdj : secDst j = 100 + j := by rcases hj with ⟨rfl, _⟩ | ⟨rfl, _⟩ <;> rfl
  refine ⟨h.defers, (put_size _ _ _).trans h.size, (put_other hd1).trans h.ptr, h.bel, h.box, fun i hi hl => ?_, fun i hi h1 => ?_, fun h1 => ?_, fun h1 => ?_, fun h1 => ?_, fun h1 => ?_⟩
  · rw [getD_set hj'] at hl
    by_cases he : i = j
    · subst he
      rcases hj with ⟨rfl, _⟩ | ⟨rfl, _⟩ <;> trivial
    · rw [if_neg he] at hl
      have := secDst_far i hi
      rw [put_other (by rcases hj with ⟨_, rfl⟩ | ⟨_, rfl, _⟩; exact fun e => this.2.2.2 e.symm; exact fun e => this.2.1 e.symm)]
      exact h.fact i hi hl
  · rw [getD_set hj', if_neg n0]; exact h0
  · rw [getD_set hj'] at h1 ⊢
    rcases hj with ⟨rfl, _⟩ | ⟨rfl, _, h31⟩
    · rw [if_pos rfl]
    · rw [if_neg (by decide)]; exact h31
  · rw [getD_set hj'] at h1
    rcases hj with ⟨rfl, rfl⟩ | ⟨rfl, rfl, h31⟩
    · rw [put_same (by rw [h.size]; decide), put_other (by decide), hv]
    · rw [put_other (by decide), put_other (by decide)]; exact h.m31 h31
  · rw [getD_set hj'] at h1
    rcases hj with ⟨rfl, rfl⟩ | ⟨rfl, rfl, h31⟩
    · rw [if_neg (by decide)] at h1
      rw [h.c32 h1] at hnf; cases hnf
    · rw [put_same (by rw [h.size]; decide), put_other (by decide), hv]
  · obtain ⟨b, n, D, h3, hM⟩ := h.map h0
    refine ⟨b, n, D, (put_other hd3).trans h3, hM.own, by have := hM.few; omega, hM.from0, fun k i hi hl => ?_, fun k hk => hM.none k fun i hi => ?_⟩
    · have := secIns_some hi
      rw [getD_set hj', if_neg (by omega)] at hl
      exact hM.there k i hi hl
    · have h5 := secIns_some hi
      have := hk i hi
      rwa [getD_set hj', if_neg (by omega)] at this
end Go.Proofs.YtdinpakclmnacaaGreatDoor
namespace Go.Proofs.YtdinpakclmnacaaGreatDoor
set_option maxRecDepth 100000
set_option maxHeartbeats 16000000
open Go.RowKit Go.Maps
set_option linter.unusedVariables false
set_option maxRecDepth 100000
def regionAt (c : Option Code) : Array Oper := match c with
  | some (.seq _ (.seq (.region _ ops _) _)) => ops
  | _ => #[]
def IsSec (ops : Array Oper) : Prop := ops = regionAt Tryz.f53.body
theorem IsSec.size {ops : Array Oper} (h : IsSec ops) : ops.size = 33 := by unfold IsSec at h; subst h; kernel_rfl
theorem IsSec.deps {ops : Array Oper} (h : IsSec ops) : ((List.range ops.size).all fun i => (ops[i]?.map fun o => o.after.all fun e => decide (e.on < i)).getD false) = true := by unfold IsSec at h; subst h; kernel_rfl
theorem eval_tmp {a : Act} {d : Nat} {v : Value} (h : a.tmps[d]? = some v) : a.eval (.tmp d) = v := by simp [Act.eval, Array.getD_eq_getD_getElem?, h]
theorem run_then {P : Program} {s : Sem Value} {v : Value} {W W' : World} (h : s.run P W = .ok v W') : (do pure (Next.value (← s)) : Sem Next).run P W = .ok (.value v) W' := by simp [h]
theorem run_skip {P : Program} {s : Sem Unit} {W W' : World} (h : s.run P W = .ok () W') : (do s; pure Next.skip : Sem Next).run P W = .ok .skip W' := by simp [h]
theorem run_call2 (ρ : Operand → Value) (o : Oper) (f : FuncId) (hf : ∀ args w, (callFunc f args).run Tryz.prog w = .ok (.enter f args) w) (x y : Operand) (t1 t2 : TypeId) (ho : o.op = .call { callee := .value (.func f), args := #[x, y], argTypes := #[t1, t2] }) (he : ρ (.func f) = .func (.func f) #[] #[]) (w : World) : (execOp ρ o).run Tryz.prog w = .ok (.enter f #[ρ x, ρ y]) w := by
  unfold execOp
  rw [ho]
  simp [resolve, Deferred.ofValue, invoke, he, hf]
section
variable {m : MoV} {w : World} {df : List Deferred} {listed : Array Bool} {a : Act} {W : World} {Q : Exit → Act → World → Prop} {ops : Array Oper} {i : Nat}
theorem sec_field (h : SecInv m w df listed a W) (hs : listed.size = 33) (hi : i ∈ Region.ready .any ops listed) (i33 : i < 33) {d f : Nat} {T : TypeId} (hop : (ops[i]?.map fun o => (o.dst, o.op, o.guard)) = some (some d, .fieldAddr T (.tmp 1) f, none)) (hd : secDst i = d) (hd2 : d < 26)
    (hrun : ∀ W, (Instr.fieldAt T (AD w.heap.size 0) f).run Tryz.prog W = .ok (AD w.heap.size f) W) (hF : ∀ W, secF m w.heap.size i (some (AD w.heap.size f)) W) : wpOp Tryz.prog ops Q i (SecInv m w df (listed.setIfInBounds i true)) a W := by
  refine step_value hop (v := AD w.heap.size f) (w' := W) (fun o ho => ?_) ?_
  · unfold execOp; rw [ho]
    simp only [eval_tmp h.ptr]
    exact run_then (hrun W)
  · subst hd
    exact h.step hs i33 (ready_dep hi).2.1 hd2 _ (Kc.refl _) h.bel (fun _ _ _ h => h) (hF W)
theorem sec_load (h : SecInv m w df listed a W) (hs : listed.size = 33) (hi : i ∈ Region.ready .any ops listed) (i33 : i < 33) {d f s j : Nat} {T : TypeId} {v : Value} (hop : (ops[i]?.map fun o => (o.dst, o.op, o.guard)) = some (some d, .load T (.tmp s), none)) (hd : secDst i = d) (hd2 : d < 26)
    (hon : (ops[i]?.map fun o => o.after.any fun e => e.on == j && Region.binds .any e) = some true) (j33 : j < 33) (hsj : secDst j = s) (hadr : ∀ o W, secF m w.heap.size j o W → o = some (AD w.heap.size f)) (hcell : m.cells[f]? = some v)
    (hrun : ∀ W, W.cell? ⟨w.heap.size, f, none⟩ = some v → (Instr.loadAt T (AD w.heap.size f)).run Tryz.prog W = .ok v W) (hF : ∀ W, secF m w.heap.size i (some v) W) : wpOp Tryz.prog ops Q i (SecInv m w df (listed.setIfInBounds i true)) a W := by
  have hj := ready_on hi hon
  have hv := hadr _ _ (h.fact j j33 hj)
  rw [hsj] at hv
  refine step_value hop (v := v) (w' := W) (fun o ho => ?_) ?_
  · unfold execOp; rw [ho]
    simp only [eval_tmp hv]
    refine run_then (hrun W ?_)
    simp [World.cell?, h.box, hcell]
  · subst hd
    exact h.step hs i33 (ready_dep hi).2.1 hd2 _ (Kc.refl _) h.bel (fun _ _ _ h => h) (hF W)
theorem sec_call (h : SecInv m w df listed a W) (hs : listed.size = 33) (hi : i ∈ Region.ready .any ops listed) (i33 : i < 33) {d s j g gw gp : Nat} {t1 t2 u1 u2 : TypeId} {x : Value} (hop : (ops[i]?.map fun o => (o.dst, o.op, o.guard)) = some (some d, .call { callee := .value (.func g), args := #[.tmp s, .func gp], argTypes := #[t1, t2] }, none)) (hd : secDst i = d) (hd2 : d < 26)
    (hon : (ops[i]?.map fun o => o.after.any fun e => e.on == j && Region.binds .any e) = some true) (j33 : j < 33) (hsj : secDst j = s) (hx : ∀ o W, secF m w.heap.size j o W → o = some x) (eg : ∀ args w, (callFunc g args).run Tryz.prog w = .ok (.enter g args) w)
    (hc : ∀ W : World, Calls Tryz.prog g #[x, .func (.func gp) #[] #[]] W fun e w' => e = .returned (.func (.func gw) #[] #[.pointer (some ⟨W.heap.size, 0, none⟩), .pointer (some ⟨W.heap.size + 1, 0, none⟩)]) ∧ w' = (W.alloc (.cells #[x] u1)).alloc (.cells #[.func (.func gp) #[] #[]] u2))
    (hF : ∀ v W, Clo gp gw x u1 u2 v W → secF m w.heap.size i (some v) W) : wpOp Tryz.prog ops Q i (SecInv m w df (listed.setIfInBounds i true)) a W := by
  have hj := ready_on hi hon
  have hv := hx _ _ (h.fact j j33 hj)
  rw [hsj] at hv
  refine step_enter hop (f := g) (args := #[x, .func (.func gp) #[] #[]]) (fun o ho => ?_) ?_
  · have := run_call2 a.eval o g eg _ _ _ _ ho rfl W
    rw [eval_tmp hv] at this
    exact this
  · refine (hc W).mono fun e w' ⟨he, hw⟩ => ⟨_, he, ?_⟩
    subst hw
    subst hd
    have hk := (Kc.alloc W (.cells #[x] u1)).trans (Kc.alloc (W.alloc (.cells #[x] u1)) (.cells #[.func (.func gp) #[] #[]] u2))
    refine h.step hs i33 (ready_dep hi).2.1 hd2 _ hk ((h.bel.alloc h.bel.size _).alloc (by have := h.bel.size; simp; omega) _) (fun b n D hm => (World.ownsMap.alloc hm _).alloc _) (hF _ _ ⟨W.heap.size, W.heap.size + 1, rfl, ?_, ?_⟩)
    · exact (Below.heap_alloc _ _ _ (by simp)).trans (heap_alloc_new _ _)
    · have := heap_alloc_new (W.alloc (.cells #[x] u1)) (.cells #[.func (.func gp) #[] #[]] u2)
      simpa using this
theorem sec_insert (h : SecInv m w df listed a W) (hs : listed.size = 33) (hi : i ∈ Region.ready .any ops listed) {k t c : Nat} (hop : (ops[i]?.map fun o => (o.dst, o.op, o.guard)) = some (none, .insert 117 (.tmp 3) (.const (.int .i64 k)) (.tmp t), none))
    (h0 : (ops[i]?.map fun o => o.after.any fun e => e.on == 0 && Region.binds .any e) = some true) (hon : (ops[i]?.map fun o => o.after.any fun e => e.on == c && Region.binds .any e) = some true) (c33 : c < 33) (hk : secIns k = some i) (ht : secDst c = t)
    (hF : ∀ o W, secF m w.heap.size c o W → ∃ v, o = some v ∧ secClo m w.heap.size k v W) : wpOp Tryz.prog ops Q i (SecInv m w df (listed.setIfInBounds i true)) a W := by
  obtain ⟨b, v, W', h3, hv, hu, hI⟩ := h.insert hs (ready_dep hi).2.1 hk (ready_on hi h0) c33 (ready_on hi hon) ht hF
  refine step_skip hop (w' := W') (fun o ho => ?_) hI
  unfold execOp; rw [ho]
  simp only [eval_tmp h3, eval_tmp hv]
  exact run_skip hu
end
theorem sec_op_0 {m : MoV} {w : World} {df : List Deferred} {listed : Array Bool} {a : Act} {W : World} {Q : Exit → Act → World → Prop} {ops : Array Oper} (hS : IsSec ops) (h : SecInv m w df listed a W) (hs : listed.size = 33) (hi : 0 ∈ Region.ready .any ops listed) : wpOp Tryz.prog ops Q 0 (SecInv m w df (listed.setIfInBounds 0 true)) a W := by
  unfold IsSec at hS
  refine step_value (d := some 3) (op := .makeMap 117 none) (by subst hS; kernel_rfl) (v := .map (some W.heap.size)) (w' := W.alloc (.map #[] 0)) (fun o ho => ?_) (h.make hs (ready_dep hi).2.1)
  unfold execOp; rw [ho]
  rfl
theorem sec_op_1 {m : MoV} {w : World} {df : List Deferred} {listed : Array Bool} {a : Act} {W : World} {Q : Exit → Act → World → Prop} {ops : Array Oper} (hS : IsSec ops) (h : SecInv m w df listed a W) (hs : listed.size = 33) (hi : 1 ∈ Region.ready .any ops listed) : wpOp Tryz.prog ops Q 1 (SecInv m w df (listed.setIfInBounds 1 true)) a W := by
  unfold IsSec at hS
  exact sec_field h hs hi (by decide) (d := 4) (f := 0) (T := 35) (by subst hS; kernel_rfl) rfl (by decide) (fun W => by kernel_rfl) (fun W => rfl)
theorem sec_op_5 {m : MoV} {w : World} {df : List Deferred} {listed : Array Bool} {a : Act} {W : World} {Q : Exit → Act → World → Prop} {ops : Array Oper} (hS : IsSec ops) (h : SecInv m w df listed a W) (hs : listed.size = 33) (hi : 5 ∈ Region.ready .any ops listed) : wpOp Tryz.prog ops Q 5 (SecInv m w df (listed.setIfInBounds 5 true)) a W := by
  unfold IsSec at hS
  exact sec_field h hs hi (by decide) (d := 7) (f := 1) (T := 35) (by subst hS; kernel_rfl) rfl (by decide) (fun W => by kernel_rfl) (fun W => rfl)
theorem sec_op_9 {m : MoV} {w : World} {df : List Deferred} {listed : Array Bool} {a : Act} {W : World} {Q : Exit → Act → World → Prop} {ops : Array Oper} (hS : IsSec ops) (h : SecInv m w df listed a W) (hs : listed.size = 33) (hi : 9 ∈ Region.ready .any ops listed) : wpOp Tryz.prog ops Q 9 (SecInv m w df (listed.setIfInBounds 9 true)) a W := by
  unfold IsSec at hS
  exact sec_field h hs hi (by decide) (d := 10) (f := 2) (T := 35) (by subst hS; kernel_rfl) rfl (by decide) (fun W => by kernel_rfl) (fun W => rfl)
theorem sec_op_13 {m : MoV} {w : World} {df : List Deferred} {listed : Array Bool} {a : Act} {W : World} {Q : Exit → Act → World → Prop} {ops : Array Oper} (hS : IsSec ops) (h : SecInv m w df listed a W) (hs : listed.size = 33) (hi : 13 ∈ Region.ready .any ops listed) : wpOp Tryz.prog ops Q 13 (SecInv m w df (listed.setIfInBounds 13 true)) a W := by
  unfold IsSec at hS
  exact sec_field h hs hi (by decide) (d := 13) (f := 3) (T := 35) (by subst hS; kernel_rfl) rfl (by decide) (fun W => by kernel_rfl) (fun W => rfl)
theorem sec_op_17 {m : MoV} {w : World} {df : List Deferred} {listed : Array Bool} {a : Act} {W : World} {Q : Exit → Act → World → Prop} {ops : Array Oper} (hS : IsSec ops) (h : SecInv m w df listed a W) (hs : listed.size = 33) (hi : 17 ∈ Region.ready .any ops listed) : wpOp Tryz.prog ops Q 17 (SecInv m w df (listed.setIfInBounds 17 true)) a W := by
  unfold IsSec at hS
  exact sec_field h hs hi (by decide) (d := 16) (f := 4) (T := 35) (by subst hS; kernel_rfl) rfl (by decide) (fun W => by kernel_rfl) (fun W => rfl)
theorem sec_op_23 {m : MoV} {w : World} {df : List Deferred} {listed : Array Bool} {a : Act} {W : World} {Q : Exit → Act → World → Prop} {ops : Array Oper} (hS : IsSec ops) (h : SecInv m w df listed a W) (hs : listed.size = 33) (hi : 23 ∈ Region.ready .any ops listed) : wpOp Tryz.prog ops Q 23 (SecInv m w df (listed.setIfInBounds 23 true)) a W := by
  unfold IsSec at hS
  exact sec_field h hs hi (by decide) (d := 20) (f := 1) (T := 35) (by subst hS; kernel_rfl) rfl (by decide) (fun W => by kernel_rfl) (fun W => rfl)
theorem sec_op_27 {m : MoV} {w : World} {df : List Deferred} {listed : Array Bool} {a : Act} {W : World} {Q : Exit → Act → World → Prop} {ops : Array Oper} (hS : IsSec ops) (h : SecInv m w df listed a W) (hs : listed.size = 33) (hi : 27 ∈ Region.ready .any ops listed) : wpOp Tryz.prog ops Q 27 (SecInv m w df (listed.setIfInBounds 27 true)) a W := by
  unfold IsSec at hS
  exact sec_field h hs hi (by decide) (d := 23) (f := 6) (T := 35) (by subst hS; kernel_rfl) rfl (by decide) (fun W => by kernel_rfl) (fun W => rfl)
theorem sec_op_2 {m : MoV} {w : World} {df : List Deferred} {listed : Array Bool} {a : Act} {W : World} {Q : Exit → Act → World → Prop} {ops : Array Oper} (hS : IsSec ops) (h : SecInv m w df listed a W) (hs : listed.size = 33) (hi : 2 ∈ Region.ready .any ops listed) : wpOp Tryz.prog ops Q 2 (SecInv m w df (listed.setIfInBounds 2 true)) a W := by
  unfold IsSec at hS
  exact sec_load h hs hi (by decide) (d := 5) (f := 0) (s := 4) (j := 1) (T := 28) (v := .slice m.tp m.types.length m.tc) (by subst hS; kernel_rfl) rfl (by decide) (by subst hS; kernel_rfl) (by decide) rfl (fun _ _ h => h) rfl (fun W h => by go_simp) (fun W => rfl)
theorem sec_op_6 {m : MoV} {w : World} {df : List Deferred} {listed : Array Bool} {a : Act} {W : World} {Q : Exit → Act → World → Prop} {ops : Array Oper} (hS : IsSec ops) (h : SecInv m w df listed a W) (hs : listed.size = 33) (hi : 6 ∈ Region.ready .any ops listed) : wpOp Tryz.prog ops Q 6 (SecInv m w df (listed.setIfInBounds 6 true)) a W := by
  unfold IsSec at hS
  exact sec_load h hs hi (by decide) (d := 8) (f := 1) (s := 7) (j := 5) (T := 29) (v := .slice m.fp m.funcs.length m.fc) (by subst hS; kernel_rfl) rfl (by decide) (by subst hS; kernel_rfl) (by decide) rfl (fun _ _ h => h) rfl (fun W h => by go_simp) (fun W => rfl)
theorem sec_op_10 {m : MoV} {w : World} {df : List Deferred} {listed : Array Bool} {a : Act} {W : World} {Q : Exit → Act → World → Prop} {ops : Array Oper} (hS : IsSec ops) (h : SecInv m w df listed a W) (hs : listed.size = 33) (hi : 10 ∈ Region.ready .any ops listed) : wpOp Tryz.prog ops Q 10 (SecInv m w df (listed.setIfInBounds 10 true)) a W := by
  unfold IsSec at hS
  exact sec_load h hs hi (by decide) (d := 11) (f := 2) (s := 10) (j := 9) (T := 30) (v := .slice m.mp m.memory.length m.mc) (by subst hS; kernel_rfl) rfl (by decide) (by subst hS; kernel_rfl) (by decide) rfl (fun _ _ h => h) rfl (fun W h => by go_simp) (fun W => rfl)
theorem sec_op_14 {m : MoV} {w : World} {df : List Deferred} {listed : Array Bool} {a : Act} {W : World} {Q : Exit → Act → World → Prop} {ops : Array Oper} (hS : IsSec ops) (h : SecInv m w df listed a W) (hs : listed.size = 33) (hi : 14 ∈ Region.ready .any ops listed) : wpOp Tryz.prog ops Q 14 (SecInv m w df (listed.setIfInBounds 14 true)) a W := by
  unfold IsSec at hS
  exact sec_load h hs hi (by decide) (d := 14) (f := 3) (s := 13) (j := 13) (T := 31) (v := .slice m.gp m.globals.length m.gc) (by subst hS; kernel_rfl) rfl (by decide) (by subst hS; kernel_rfl) (by decide) rfl (fun _ _ h => h) rfl (fun W h => by go_simp) (fun W => rfl)
theorem sec_op_18 {m : MoV} {w : World} {df : List Deferred} {listed : Array Bool} {a : Act} {W : World} {Q : Exit → Act → World → Prop} {ops : Array Oper} (hS : IsSec ops) (h : SecInv m w df listed a W) (hs : listed.size = 33) (hi : 18 ∈ Region.ready .any ops listed) : wpOp Tryz.prog ops Q 18 (SecInv m w df (listed.setIfInBounds 18 true)) a W := by
  unfold IsSec at hS
  exact sec_load h hs hi (by decide) (d := 17) (f := 4) (s := 16) (j := 17) (T := 32) (v := .slice m.ep m.exports.length m.ec) (by subst hS; kernel_rfl) rfl (by decide) (by subst hS; kernel_rfl) (by decide) rfl (fun _ _ h => h) rfl (fun W h => by go_simp) (fun W => rfl)
theorem sec_op_24 {m : MoV} {w : World} {df : List Deferred} {listed : Array Bool} {a : Act} {W : World} {Q : Exit → Act → World → Prop} {ops : Array Oper} (hS : IsSec ops) (h : SecInv m w df listed a W) (hs : listed.size = 33) (hi : 24 ∈ Region.ready .any ops listed) : wpOp Tryz.prog ops Q 24 (SecInv m w df (listed.setIfInBounds 24 true)) a W := by
  unfold IsSec at hS
  exact sec_load h hs hi (by decide) (d := 21) (f := 1) (s := 20) (j := 23) (T := 29) (v := .slice m.fp m.funcs.length m.fc) (by subst hS; kernel_rfl) rfl (by decide) (by subst hS; kernel_rfl) (by decide) rfl (fun _ _ h => h) rfl (fun W h => by go_simp) (fun W => rfl)
theorem sec_op_28 {m : MoV} {w : World} {df : List Deferred} {listed : Array Bool} {a : Act} {W : World} {Q : Exit → Act → World → Prop} {ops : Array Oper} (hS : IsSec ops) (h : SecInv m w df listed a W) (hs : listed.size = 33) (hi : 28 ∈ Region.ready .any ops listed) : wpOp Tryz.prog ops Q 28 (SecInv m w df (listed.setIfInBounds 28 true)) a W := by
  unfold IsSec at hS
  exact sec_load h hs hi (by decide) (d := 24) (f := 6) (s := 23) (j := 27) (T := 33) (v := .slice m.dp m.data.length m.dc) (by subst hS; kernel_rfl) rfl (by decide) (by subst hS; kernel_rfl) (by decide) rfl (fun _ _ h => h) rfl (fun W h => by go_simp) (fun W => rfl)
theorem sec_op_3 {m : MoV} {w : World} {df : List Deferred} {listed : Array Bool} {a : Act} {W : World} {Q : Exit → Act → World → Prop} {ops : Array Oper} (hS : IsSec ops) (h : SecInv m w df listed a W) (hs : listed.size = 33) (hi : 3 ∈ Region.ready .any ops listed) : wpOp Tryz.prog ops Q 3 (SecInv m w df (listed.setIfInBounds 3 true)) a W := by
  unfold IsSec at hS
  exact sec_call h hs hi (by decide) (d := 6) (s := 5) (j := 2) (g := 133) (gw := 195) (gp := 134) (t1 := 28) (t2 := 184) (u1 := 28) (u2 := 184) (x := .slice m.tp m.types.length m.tc) (by subst hS; kernel_rfl) rfl (by decide) (by subst hS; kernel_rfl) (by decide) rfl (fun _ _ h => h) (enters_of Tryz.func133 (by kernel_rfl) rfl) (fun W => whole_TyV _ _ _ _ W) (fun v W h => ⟨v, rfl, h⟩)
theorem sec_op_7 {m : MoV} {w : World} {df : List Deferred} {listed : Array Bool} {a : Act} {W : World} {Q : Exit → Act → World → Prop} {ops : Array Oper} (hS : IsSec ops) (h : SecInv m w df listed a W) (hs : listed.size = 33) (hi : 7 ∈ Region.ready .any ops listed) : wpOp Tryz.prog ops Q 7 (SecInv m w df (listed.setIfInBounds 7 true)) a W := by
  unfold IsSec at hS
  exact sec_call h hs hi (by decide) (d := 9) (s := 8) (j := 6) (g := 135) (gw := 198) (gp := 136) (t1 := 29) (t2 := 187) (u1 := 29) (u2 := 187) (x := .slice m.fp m.funcs.length m.fc) (by subst hS; kernel_rfl) rfl (by decide) (by subst hS; kernel_rfl) (by decide) rfl (fun _ _ h => h) (enters_of Tryz.func135 (by kernel_rfl) rfl) (fun W => whole_FnV _ _ _ _ W) (fun v W h => ⟨v, rfl, h⟩)
theorem sec_op_11 {m : MoV} {w : World} {df : List Deferred} {listed : Array Bool} {a : Act} {W : World} {Q : Exit → Act → World → Prop} {ops : Array Oper} (hS : IsSec ops) (h : SecInv m w df listed a W) (hs : listed.size = 33) (hi : 11 ∈ Region.ready .any ops listed) : wpOp Tryz.prog ops Q 11 (SecInv m w df (listed.setIfInBounds 11 true)) a W := by
  unfold IsSec at hS
  exact sec_call h hs hi (by decide) (d := 12) (s := 11) (j := 10) (g := 138) (gw := 200) (gp := 139) (t1 := 30) (t2 := 189) (u1 := 30) (u2 := 189) (x := .slice m.mp m.memory.length m.mc) (by subst hS; kernel_rfl) rfl (by decide) (by subst hS; kernel_rfl) (by decide) rfl (fun _ _ h => h) (enters_of Tryz.func138 (by kernel_rfl) rfl) (fun W => whole_MemV _ _ _ _ W) (fun v W h => ⟨v, rfl, h⟩)
theorem sec_op_15 {m : MoV} {w : World} {df : List Deferred} {listed : Array Bool} {a : Act} {W : World} {Q : Exit → Act → World → Prop} {ops : Array Oper} (hS : IsSec ops) (h : SecInv m w df listed a W) (hs : listed.size = 33) (hi : 15 ∈ Region.ready .any ops listed) : wpOp Tryz.prog ops Q 15 (SecInv m w df (listed.setIfInBounds 15 true)) a W := by
  unfold IsSec at hS
  exact sec_call h hs hi (by decide) (d := 15) (s := 14) (j := 14) (g := 140) (gw := 202) (gp := 141) (t1 := 31) (t2 := 191) (u1 := 31) (u2 := 191) (x := .slice m.gp m.globals.length m.gc) (by subst hS; kernel_rfl) rfl (by decide) (by subst hS; kernel_rfl) (by decide) rfl (fun _ _ h => h) (enters_of Tryz.func140 (by kernel_rfl) rfl) (fun W => whole_GlobV _ _ _ _ W) (fun v W h => ⟨v, rfl, h⟩)
theorem sec_op_19 {m : MoV} {w : World} {df : List Deferred} {listed : Array Bool} {a : Act} {W : World} {Q : Exit → Act → World → Prop} {ops : Array Oper} (hS : IsSec ops) (h : SecInv m w df listed a W) (hs : listed.size = 33) (hi : 19 ∈ Region.ready .any ops listed) : wpOp Tryz.prog ops Q 19 (SecInv m w df (listed.setIfInBounds 19 true)) a W := by
  unfold IsSec at hS
  exact sec_call h hs hi (by decide) (d := 18) (s := 17) (j := 18) (g := 142) (gw := 205) (gp := 143) (t1 := 32) (t2 := 193) (u1 := 32) (u2 := 193) (x := .slice m.ep m.exports.length m.ec) (by subst hS; kernel_rfl) rfl (by decide) (by subst hS; kernel_rfl) (by decide) rfl (fun _ _ h => h) (enters_of Tryz.func142 (by kernel_rfl) rfl) (fun W => whole_ExpV _ _ _ _ W) (fun v W h => ⟨v, rfl, h⟩)
theorem sec_op_25 {m : MoV} {w : World} {df : List Deferred} {listed : Array Bool} {a : Act} {W : World} {Q : Exit → Act → World → Prop} {ops : Array Oper} (hS : IsSec ops) (h : SecInv m w df listed a W) (hs : listed.size = 33) (hi : 25 ∈ Region.ready .any ops listed) : wpOp Tryz.prog ops Q 25 (SecInv m w df (listed.setIfInBounds 25 true)) a W := by
  unfold IsSec at hS
  exact sec_call h hs hi (by decide) (d := 22) (s := 21) (j := 24) (g := 135) (gw := 198) (gp := 145) (t1 := 29) (t2 := 187) (u1 := 29) (u2 := 187) (x := .slice m.fp m.funcs.length m.fc) (by subst hS; kernel_rfl) rfl (by decide) (by subst hS; kernel_rfl) (by decide) rfl (fun _ _ h => h) (enters_of Tryz.func135 (by kernel_rfl) rfl) (fun W => whole_FnV _ _ _ _ W) (fun v W h => ⟨v, rfl, h⟩)
theorem sec_op_29 {m : MoV} {w : World} {df : List Deferred} {listed : Array Bool} {a : Act} {W : World} {Q : Exit → Act → World → Prop} {ops : Array Oper} (hS : IsSec ops) (h : SecInv m w df listed a W) (hs : listed.size = 33) (hi : 29 ∈ Region.ready .any ops listed) : wpOp Tryz.prog ops Q 29 (SecInv m w df (listed.setIfInBounds 29 true)) a W := by
  unfold IsSec at hS
  exact sec_call h hs hi (by decide) (d := 25) (s := 24) (j := 28) (g := 146) (gw := 211) (gp := 147) (t1 := 33) (t2 := 195) (u1 := 33) (u2 := 195) (x := .slice m.dp m.data.length m.dc) (by subst hS; kernel_rfl) rfl (by decide) (by subst hS; kernel_rfl) (by decide) rfl (fun _ _ h => h) (enters_of Tryz.func146 (by kernel_rfl) rfl) (fun W => whole_DatV _ _ _ _ W) (fun v W h => ⟨v, rfl, h⟩)
theorem sec_op_21 {m : MoV} {w : World} {df : List Deferred} {listed : Array Bool} {a : Act} {W : World} {Q : Exit → Act → World → Prop} {ops : Array Oper} (hS : IsSec ops) (h : SecInv m w df listed a W) (hs : listed.size = 33) (hi : 21 ∈ Region.ready .any ops listed) : wpOp Tryz.prog ops Q 21 (SecInv m w df (listed.setIfInBounds 21 true)) a W := by
  unfold IsSec at hS
  refine step_value (d := some 19) (op := .makeFunc (.func 144) #[] #[.tmp 1]) (by subst hS; kernel_rfl) (v := .func (.func 144) #[] #[AD w.heap.size 0]) (w' := W) (fun o ho => ?_) (h.step (j := 21) hs (by decide) (ready_dep hi).2.1 (by decide) _ (Kc.refl _) h.bel (fun _ _ _ h => h) ⟨_, rfl, rfl⟩)
  unfold execOp; rw [ho]
  have := eval_tmp h.ptr
  simp [Instr.makeFunc, this]
theorem sec_op_4 {m : MoV} {w : World} {df : List Deferred} {listed : Array Bool} {a : Act} {W : World} {Q : Exit → Act → World → Prop} {ops : Array Oper} (hS : IsSec ops) (h : SecInv m w df listed a W) (hs : listed.size = 33) (hi : 4 ∈ Region.ready .any ops listed) : wpOp Tryz.prog ops Q 4 (SecInv m w df (listed.setIfInBounds 4 true)) a W := by
  unfold IsSec at hS
  exact sec_insert h hs hi (k := 1) (t := 6) (c := 3) (by subst hS; kernel_rfl) (by subst hS; kernel_rfl) (by subst hS; kernel_rfl) (by decide) rfl rfl (fun o W h => h)
theorem sec_op_8 {m : MoV} {w : World} {df : List Deferred} {listed : Array Bool} {a : Act} {W : World} {Q : Exit → Act → World → Prop} {ops : Array Oper} (hS : IsSec ops) (h : SecInv m w df listed a W) (hs : listed.size = 33) (hi : 8 ∈ Region.ready .any ops listed) : wpOp Tryz.prog ops Q 8 (SecInv m w df (listed.setIfInBounds 8 true)) a W := by
  unfold IsSec at hS
  exact sec_insert h hs hi (k := 3) (t := 9) (c := 7) (by subst hS; kernel_rfl) (by subst hS; kernel_rfl) (by subst hS; kernel_rfl) (by decide) rfl rfl (fun o W h => h)
theorem sec_op_12 {m : MoV} {w : World} {df : List Deferred} {listed : Array Bool} {a : Act} {W : World} {Q : Exit → Act → World → Prop} {ops : Array Oper} (hS : IsSec ops) (h : SecInv m w df listed a W) (hs : listed.size = 33) (hi : 12 ∈ Region.ready .any ops listed) : wpOp Tryz.prog ops Q 12 (SecInv m w df (listed.setIfInBounds 12 true)) a W := by
  unfold IsSec at hS
  exact sec_insert h hs hi (k := 5) (t := 12) (c := 11) (by subst hS; kernel_rfl) (by subst hS; kernel_rfl) (by subst hS; kernel_rfl) (by decide) rfl rfl (fun o W h => h)
theorem sec_op_16 {m : MoV} {w : World} {df : List Deferred} {listed : Array Bool} {a : Act} {W : World} {Q : Exit → Act → World → Prop} {ops : Array Oper} (hS : IsSec ops) (h : SecInv m w df listed a W) (hs : listed.size = 33) (hi : 16 ∈ Region.ready .any ops listed) : wpOp Tryz.prog ops Q 16 (SecInv m w df (listed.setIfInBounds 16 true)) a W := by
  unfold IsSec at hS
  exact sec_insert h hs hi (k := 6) (t := 15) (c := 15) (by subst hS; kernel_rfl) (by subst hS; kernel_rfl) (by subst hS; kernel_rfl) (by decide) rfl rfl (fun o W h => h)
theorem sec_op_20 {m : MoV} {w : World} {df : List Deferred} {listed : Array Bool} {a : Act} {W : World} {Q : Exit → Act → World → Prop} {ops : Array Oper} (hS : IsSec ops) (h : SecInv m w df listed a W) (hs : listed.size = 33) (hi : 20 ∈ Region.ready .any ops listed) : wpOp Tryz.prog ops Q 20 (SecInv m w df (listed.setIfInBounds 20 true)) a W := by
  unfold IsSec at hS
  exact sec_insert h hs hi (k := 7) (t := 18) (c := 19) (by subst hS; kernel_rfl) (by subst hS; kernel_rfl) (by subst hS; kernel_rfl) (by decide) rfl rfl (fun o W h => h)
theorem sec_op_22 {m : MoV} {w : World} {df : List Deferred} {listed : Array Bool} {a : Act} {W : World} {Q : Exit → Act → World → Prop} {ops : Array Oper} (hS : IsSec ops) (h : SecInv m w df listed a W) (hs : listed.size = 33) (hi : 22 ∈ Region.ready .any ops listed) : wpOp Tryz.prog ops Q 22 (SecInv m w df (listed.setIfInBounds 22 true)) a W := by
  unfold IsSec at hS
  exact sec_insert h hs hi (k := 8) (t := 19) (c := 21) (by subst hS; kernel_rfl) (by subst hS; kernel_rfl) (by subst hS; kernel_rfl) (by decide) rfl rfl (fun o W h => h)
theorem sec_op_26 {m : MoV} {w : World} {df : List Deferred} {listed : Array Bool} {a : Act} {W : World} {Q : Exit → Act → World → Prop} {ops : Array Oper} (hS : IsSec ops) (h : SecInv m w df listed a W) (hs : listed.size = 33) (hi : 26 ∈ Region.ready .any ops listed) : wpOp Tryz.prog ops Q 26 (SecInv m w df (listed.setIfInBounds 26 true)) a W := by
  unfold IsSec at hS
  exact sec_insert h hs hi (k := 10) (t := 22) (c := 25) (by subst hS; kernel_rfl) (by subst hS; kernel_rfl) (by subst hS; kernel_rfl) (by decide) rfl rfl (fun o W h => h)
theorem sec_op_30 {m : MoV} {w : World} {df : List Deferred} {listed : Array Bool} {a : Act} {W : World} {Q : Exit → Act → World → Prop} {ops : Array Oper} (hS : IsSec ops) (h : SecInv m w df listed a W) (hs : listed.size = 33) (hi : 30 ∈ Region.ready .any ops listed) : wpOp Tryz.prog ops Q 30 (SecInv m w df (listed.setIfInBounds 30 true)) a W := by
  unfold IsSec at hS
  exact sec_insert h hs hi (k := 11) (t := 25) (c := 29) (by subst hS; kernel_rfl) (by subst hS; kernel_rfl) (by subst hS; kernel_rfl) (by decide) rfl rfl (fun o W h => h)
theorem sec_op_31 {m : MoV} {w : World} {df : List Deferred} {listed : Array Bool} {a : Act} {W : World} {Q : Exit → Act → World → Prop} {ops : Array Oper} (hS : IsSec ops) (h : SecInv m w df listed a W) (hs : listed.size = 33) (hi : 31 ∈ Region.ready .any ops listed) : wpOp Tryz.prog ops Q 31 (SecInv m w df (listed.setIfInBounds 31 true)) a W := by
  unfold IsSec at hS
  have h0 := ready_on (j := 0) hi (by subst hS; kernel_rfl)
  obtain ⟨b, n, D, h3, hM⟩ := h.map h0
  refine step_value (d := some 26) (op := .move (.tmp 3)) (by subst hS; kernel_rfl) (v := .map (some b)) (w' := W) (fun o ho => ?_) (h.last hs (ready_dep hi).2.1 (.inl ⟨rfl, rfl⟩) h0 h3)
  unfold execOp; rw [ho]
  simp [eval_tmp h3]
theorem sec_op_32 {m : MoV} {w : World} {df : List Deferred} {listed : Array Bool} {a : Act} {W : World} {Q : Exit → Act → World → Prop} {ops : Array Oper} (hS : IsSec ops) (h : SecInv m w df listed a W) (hs : listed.size = 33) (hi : 32 ∈ Region.ready .any ops listed) : wpOp Tryz.prog ops Q 32 (SecInv m w df (listed.setIfInBounds 32 true)) a W := by
  unfold IsSec at hS
  have h0 := ready_on (j := 0) hi (by subst hS; kernel_rfl)
  have h31 := ready_on (j := 31) hi (by subst hS; kernel_rfl)
  obtain ⟨b, n, D, h3, hM⟩ := h.map h0
  have h26 := (h.m31 h31).trans h3
  refine step_value (d := some 2) (op := .assign (.tmp 26)) (by subst hS; kernel_rfl) (v := .map (some b)) (w' := W) (fun o ho => ?_) (h.last hs (ready_dep hi).2.1 (.inr ⟨rfl, rfl, h31⟩) h0 h3)
  unfold execOp; rw [ho]
  simp [eval_tmp h26]
theorem sec_step {m : MoV} {w : World} {df : List Deferred} {Q : Exit → Act → World → Prop} {ops : Array Oper} (hS : IsSec ops) (listed : Array Bool) (a : Act) (W : World) (i : Nat) (hs : listed.size = ops.size) (hi : i ∈ Region.ready .any ops listed) (h : SecInv m w df listed a W) : wpOp Tryz.prog ops Q i (SecInv m w df (listed.setIfInBounds i true)) a W := by
  rw [hS.size] at hs
  have hlt := (ready_dep hi).1
  rw [hS.size] at hlt
  have hc : i = 0 ∨ i = 1 ∨ i = 2 ∨ i = 3 ∨ i = 4 ∨ i = 5 ∨ i = 6 ∨ i = 7 ∨ i = 8 ∨ i = 9 ∨ i = 10 ∨ i = 11 ∨ i = 12 ∨ i = 13 ∨ i = 14 ∨ i = 15 ∨ i = 16 ∨ i = 17 ∨ i = 18 ∨ i = 19 ∨ i = 20 ∨ i = 21 ∨ i = 22 ∨ i = 23 ∨ i = 24 ∨ i = 25 ∨ i = 26 ∨ i = 27 ∨ i = 28 ∨ i = 29 ∨ i = 30 ∨ i = 31 ∨ i = 32 := by omega
  rcases hc with rfl | rfl | rfl | rfl | rfl | rfl | rfl | rfl | rfl | rfl | rfl | rfl | rfl | rfl | rfl | rfl | rfl | rfl | rfl | rfl | rfl | rfl | rfl | rfl | rfl | rfl | rfl | rfl | rfl | rfl | rfl | rfl | rfl
  · exact sec_op_0 hS h hs hi
  · exact sec_op_1 hS h hs hi
  · exact sec_op_2 hS h hs hi
  · exact sec_op_3 hS h hs hi
  · exact sec_op_4 hS h hs hi
  · exact sec_op_5 hS h hs hi
  · exact sec_op_6 hS h hs hi
  · exact sec_op_7 hS h hs hi
  · exact sec_op_8 hS h hs hi
  · exact sec_op_9 hS h hs hi
  · exact sec_op_10 hS h hs hi
  · exact sec_op_11 hS h hs hi
  · exact sec_op_12 hS h hs hi
  · exact sec_op_13 hS h hs hi
  · exact sec_op_14 hS h hs hi
  · exact sec_op_15 hS h hs hi
  · exact sec_op_16 hS h hs hi
  · exact sec_op_17 hS h hs hi
  · exact sec_op_18 hS h hs hi
  · exact sec_op_19 hS h hs hi
  · exact sec_op_20 hS h hs hi
  · exact sec_op_21 hS h hs hi
  · exact sec_op_22 hS h hs hi
  · exact sec_op_23 hS h hs hi
  · exact sec_op_24 hS h hs hi
  · exact sec_op_25 hS h hs hi
  · exact sec_op_26 hS h hs hi
  · exact sec_op_27 hS h hs hi
  · exact sec_op_28 hS h hs hi
  · exact sec_op_29 hS h hs hi
  · exact sec_op_30 hS h hs hi
  · exact sec_op_31 hS h hs hi
  · exact sec_op_32 hS h hs hi
theorem list27 {α : Type} {l : List α} (h : l.length = 27) : ∃ x0 x1 x2 x3 x4 x5 x6 x7 x8 x9 x10 x11 x12 x13 x14 x15 x16 x17 x18 x19 x20 x21 x22 x23 x24 x25 x26, l = [x0, x1, x2, x3, x4, x5, x6, x7, x8, x9, x10, x11, x12, x13, x14, x15, x16, x17, x18, x19, x20, x21, x22, x23, x24, x25, x26] := by
  match l, h with
  | [x0, x1, x2, x3, x4, x5, x6, x7, x8, x9, x10, x11, x12, x13, x14, x15, x16, x17, x18, x19, x20, x21, x22, x23, x24, x25, x26], _ => exact ⟨x0, x1, x2, x3, x4, x5, x6, x7, x8, x9, x10, x11, x12, x13, x14, x15, x16, x17, x18, x19, x20, x21, x22, x23, x24, x25, x26, rfl⟩
structure SecAll (m : MoV) (B : Nat) (W : World) (b : Nat) (D : DataW Value) : Prop where
  own : W.ownsMap Tryz.prog 3 valRead b 100 D
  from0 : B ≤ b
  there : ∀ k i, secIns k = some i → ∃ v, Maps.has D (.int .i64 k) = true ∧ (∀ z, D.atKey (.int .i64 k) z = .held v) ∧ secClo m B k v W
  none : ∀ k : Nat, secIns k = none → Maps.has D (.int .i64 k) = false
theorem sec_region {m : MoV} {w W0 : World} {df : List Deferred} {id : Nat} {a : Act} {Q : Exit → Act → World → Prop} {ops : Array Oper} (hS : IsSec ops) (hpre : SecInv m w df (Array.replicate 33 false) a W0.drew)
    (hpost : ∀ a W b D, a.defers = df → a.tmps.size = 27 → a.tmps[2]? = some (.map (some b)) → Below w.heap.size w W → W.heap[w.heap.size]? = some (.cells ⟨m.cells⟩ 35) → SecAll m w.heap.size W b D → Q .normal a W) : (Code.region id ops true).wp Tryz.prog Q a W0 := by
  refine wp_region_inv (by kernel_rfl) (SecInv m w df) (fun listed a W hs h0 h => ?_) (fun listed a W i hs hi h => sec_step hS listed a W i hs hi h) (by rw [hS.size]; exact hpre)
  have hall := all_listed hs hS.deps h0
  rw [hS.size] at hall
  obtain ⟨b, n, D, h3, hM⟩ := h.map (hall 0 (by decide))
  refine hpost a W b D h.defers h.size ((h.m32 (hall 32 (by decide))).trans h3) h.bel h.box ⟨hM.own.mono (by have := hM.few; omega), hM.from0, fun k i hi => hM.there k i hi (hall i (secIns_some hi).2.1), fun k hk => hM.none k fun i hi => by rw [hk] at hi; cases hi⟩
theorem getD_rep (i : Nat) : (Array.replicate 33 false).getD i false = false := by
  rw [Array.getD_eq_getD_getElem?, Array.getElem?_replicate]
  split <;> rfl
theorem SecInv.start {m : MoV} {w W : World} {df : List Deferred} {a : Act} (h1 : a.defers = df) (h2 : a.tmps.size = 27) (h3 : a.tmps[1]? = some (AD w.heap.size 0)) (h4 : Below w.heap.size w W) (h5 : W.heap[w.heap.size]? = some (.cells ⟨m.cells⟩ 35)) : SecInv m w df (Array.replicate 33 false) a W := by
  have no : ∀ {i : Nat} {p : Prop}, (Array.replicate 33 false).getD i false = true → p := fun {i p} h => by rw [getD_rep] at h; cases h
  exact ⟨h1, h2, h3, h4, h5, fun i _ h => no h, fun i h _ => no h, fun h => no h, fun h => no h, fun h => no h, fun h => no h⟩
theorem sections_of (m : MoV) (w : World) : Calls Tryz.prog 53 #[m.val] w fun e w' => ∃ b D, e = .returned (.map (some b)) ∧ Below w.heap.size w w' ∧ w'.heap[w.heap.size]? = some (.cells ⟨m.cells⟩ 35) ∧ SecAll m w.heap.size w' b D := by
  have hst : ∀ (T : Array Value), T.size = 27 → T[1]? = some (AD w.heap.size 0) → SecInv m w [] (Array.replicate 33 false) ⟨T, []⟩ (w.alloc (.cells ⟨m.cells⟩ 35)).drew := fun T h1 h2 => SecInv.start rfl h1 h2 ((Below.refl _ _).alloc (Nat.le_refl _) _).drew (heap_alloc_new _ _)
  obtain ⟨tp, tc, types, fp, fc, funcs, mp, mc, memory, gp, gc, globals, ep, ec, exports, start, dp, dc, data⟩ := m
  simp only [MoV.val]
  go_enter Tryz.func53, Tryz.ntmps53
  go_wp2
  refine sec_region (w := w) (df := []) (by unfold IsSec; kernel_rfl) (hst _ rfl rfl) ?_
  intro a W b D h1 h2 h3 h4 h5 h6
  obtain ⟨⟨l⟩, df⟩ := a
  obtain ⟨x0, x1, x2, x3, x4, x5, x6, x7, x8, x9, x10, x11, x12, x13, x14, x15, x16, x17, x18, x19, x20, x21, x22, x23, x24, x25, x26, rfl⟩ := list27 h2
  obtain rfl : df = [] := h1
  obtain rfl : x2 = .map (some b) := by simpa using h3
  have H6 := Lib.hid h6
  clear h2 h3 h6 hst
  go_wp2
  go_ret
  exact ⟨b, D, rfl, h4, h5, H6.out⟩
end Go.Proofs.YtdinpakclmnacaaGreatDoor
namespace Go.Proofs.YtdinpakclmnacaaGreatDoor
set_option maxRecDepth 100000
set_option maxHeartbeats 16000000
open Go.RowKit Go.Maps
set_option linter.unusedVariables false
set_option maxRecDepth 100000
theorem show_len9 (s : ByteArray) : s.data.toList.length = s.size := Array.length_toList
def secBody (m : MoV) (k : Nat) : Option (List UInt8) := match k with
  | 1 => some (wholeC typeC m.types)
  | 3 => some (wholeC funcC m.funcs)
  | 5 => some (wholeC memC m.memory)
  | 6 => some (wholeC globC m.globals)
  | 7 => some (wholeC expC m.exports)
  | 8 => some (startC m.start)
  | 10 => some (wholeC codeC m.funcs)
  | 11 => some (wholeC datC m.data)
  | _ => none
def modK (m : MoV) : Nat → List UInt8
  | 0 => [0, 97, 115, 109, 1, 0, 0, 0]
  | k + 1 => match secBody m k with
    | none => modK m k
    | some s => sectC (modK m k) k s
theorem modK_succ (m : MoV) (k : Nat) : modK m (k + 1) = match secBody m k with | none => modK m k | some s => sectC (modK m k) k s := rfl
theorem modK_all (m : MoV) : modK m 12 = modC m := rfl
theorem whole_len {α : Type} {F : List UInt8 → α → List UInt8} {K : Nat} {l : List α} (hl : l.length ≤ 4096) (h : ∀ x ∈ l, Adds F K x) (hK : K ≤ 1000000000) : (wholeC F l).length ≤ 1002000000 := by
  unfold wholeC
  split
  · simp
  · unfold listC
    have h1 := each_len (b := numC [] l.length) h
    have h2 := num_len (b := []) (n := (l.length : Int)) (by omega) (by omega)
    simp only [List.length_nil] at h2
    omega
theorem sect_len {out s : List UInt8} {n : Int} (hs : s.length ≤ 1002000000) : (sectC out n s).length ≤ out.length + 1048600 := by
  unfold sectC
  split
  · omega
  · have h1 := text_len (b := out ++ one5 n) (s := s) (by omega)
    rw [List.length_append, one5_len] at h1
    omega
theorem type_adds {t : TyV} (h : t.params.size ≤ maxLen ∧ t.results.size ≤ maxLen) : Adds typeC 2100000 t := fun out ho => by
  unfold maxLen at h
  unfold typeC
  have h1 := text_len (b := out ++ [96]) (s := t.params.data.toList) (by rw [show_len9]; omega)
  have h2 := text_len (b := textC (out ++ [96]) t.params.data.toList) (s := t.results.data.toList) (by rw [show_len9]; omega)
  rw [List.length_append, List.length_singleton] at h1
  omega
theorem func_adds {f : FnV} (h : 0 ≤ f.type ∧ f.type < 4294967296) : Adds funcC 10 f := fun out ho => by
  unfold funcC
  have := num_len (b := out) (n := f.type) (by omega) (by omega)
  omega
theorem mem_adds {t : MemV} (hr : rightMem t = true) : Adds memC 100 t := fun out ho => by
  unfold rightMem word4 at hr
  simp only [Bool.and_eq_true, Bool.or_eq_true, decide_eq_true_eq] at hr
  unfold memC
  split
  · have := num_len (b := out ++ [0]) (n := t.min) (by omega) (by omega)
    rw [List.length_append, List.length_singleton] at this
    omega
  · have h1 := num_len (b := out ++ [1]) (n := t.min) (by omega) (by omega)
    have h2 := num_len (b := numC (out ++ [1]) t.min) (n := t.max) (by omega) (by omega)
    rw [List.length_append, List.length_singleton] at h1
    omega
theorem glob_adds {t : GlobV} (h : inI64 t.init) : Adds globC 100 t := fun out ho => by
  unfold globC
  have := const_len (b := out ++ [UInt8.ofNat (t.type % 256).toNat, if t.may then 1 else 0]) (k := t.type) h.1 h.2
  rw [List.length_append] at this
  simp only [List.length_cons, List.length_nil] at this
  omega
theorem exp_adds {t : ExpV} (hr : rightExp t = true) (hs : t.name.size ≤ maxLen) : Adds expC 1100000 t := fun out ho => by
  unfold rightExp word4 at hr
  simp only [Bool.and_eq_true, decide_eq_true_eq] at hr
  unfold maxLen at hs
  unfold expC
  have h1 := text_len (b := out) (s := t.name.data.toList) (by rw [show_len9]; omega)
  have h2 := num_len (b := textC out t.name.data.toList ++ one5 t.kind) (n := t.index) (by omega) (by omega)
  rw [List.length_append, one5_len] at h2
  omega
theorem dat_adds {t : DatV} (ho : inI64 t.offset) (hs : t.bytes.size ≤ maxLen) : Adds datC 1100000 t := fun out h => by
  unfold maxLen at hs
  unfold datC
  have h1 := const_len (b := out ++ [0]) (k := 127) ho.1 ho.2
  have h2 := text_len (b := constC (out ++ [0]) 127 t.offset) (s := t.bytes.data.toList) (by rw [show_len9]; omega)
  rw [List.length_append, List.length_singleton] at h1
  omega
theorem body_len {f : FnV} (hr : rightFn f = true) (hi : ∀ x ∈ f.code, inI64 x.a) : (bodyC f).length ≤ 2000000000 := by
  unfold rightFn at hr
  simp only [Bool.and_eq_true] at hr
  obtain ⟨hri, ⟨_, hlo⟩, _⟩ := hr
  have hll : f.locals.data.toList.length ≤ 4096 := by
    unfold vtypes at hlo
    simp only [Bool.and_eq_true, decide_eq_true_eq] at hlo
    omega
  have hg := grp_len f.locals.data.toList
  unfold bodyC
  have h1 := each_len (F := insC) (K := 100) (l := f.code) (b := listC runC [] (grp f.locals.data.toList)) fun x hx => instr_adds (List.all_eq_true.1 hri x hx) (hi x hx)
  have h2 : (listC runC [] (grp f.locals.data.toList)).length ≤ 1048596 := by
    unfold listC
    have h3 := each_len (F := runC) (K := 20) (l := grp f.locals.data.toList) (b := numC [] (grp f.locals.data.toList).length) fun x hx => fun out ho => by
      have hm := grp_many _ x hx
      unfold runC
      have := num_len (b := out) (n := (x.2 : Int)) (by omega) (by omega)
      rw [List.length_append, List.length_singleton]
      omega
    have h4 := num_len (b := []) (n := ((grp f.locals.data.toList).length : Int)) (by omega) (by omega)
    simp only [List.length_nil] at h4
    omega
  omega
theorem code_adds {f : FnV} (hr : rightFn f = true) (hi : ∀ x ∈ f.code, inI64 x.a) : Adds codeC 1100000 f := fun out ho => by
  unfold codeC
  have h1 := body_len hr hi
  have h2 := text_len (b := out) (s := bodyC f) (by omega)
  omega
structure SecGives (m : MoV) (k : Nat) (u : Value) (W : World) : Prop where
  gives : ∃ g lb s, u = .func (.func g) #[] lb ∧ secBody m k = some s ∧ s.length ≤ 1002000000 ∧ (∀ args w, (callFunc g args).run Tryz.prog w = .ok (.enter g args) w) ∧ Gives g lb s W
theorem cell_one {W : World} {b : Nat} {x : Value} {t : TypeId} (h : W.heap[b]? = some (.cells #[x] t)) : W.cell? ⟨b, 0, none⟩ = some x := by simp [World.cell?, h]
theorem sec_gives_1 {m : MoV} {w0 W : World} {B : Nat} {u : Value} (hm : ModAt w0 m) (hr : rightMod m = true) (hL : Spaces w0) (hbel : Below w0.heap.size w0 W) (hbox : W.heap[B]? = some (.cells ⟨m.cells⟩ 35)) (h : secClo m B 1 u W) : SecGives m 1 u W := by
  unfold rightMod at hr
  simp only [Bool.and_eq_true, decide_eq_true_eq] at hr
  obtain ⟨⟨few1, few2, few3, few4, few5, few6, few7⟩, r1, r2, r3, r4, r5, r6⟩ := hr
  obtain ⟨a, b, hu, ha, hb⟩ := h
  have hadds : ∀ x ∈ m.types, Adds typeC 2100000 x := fun x hx => type_adds (hm.typesIn x hx)
  have H : Puttable 2 TyV.row (fun _ x => x.params.size ≤ maxLen ∧ x.results.size ≤ maxLen) typeC 2100000 w0 m.tp m.types.length m.types := ⟨rfl, by omega, hm.types, fun x hx _ _ => hm.typesIn x hx, hadds, by omega⟩
  have hp : Puts 134 TyV.val (fun _ x => x.params.size ≤ maxLen ∧ x.results.size ≤ maxLen) typeC w0 := fun x W base v d _ _ hb hown hd h => type_of base v d x W hown hb hd h.1 h.2
  exact ⟨⟨_, _, _, hu, rfl, whole_len (by omega) hadds (by omega), enters_of Tryz.func195 (by kernel_rfl) rfl, gives_TyV hp (enters_of Tryz.func134 (by kernel_rfl) rfl) m.tp m.types.length m.tc m.types H W hbel a b (cell_one ha) (cell_one hb)⟩⟩
theorem sec_gives_3 {m : MoV} {w0 W : World} {B : Nat} {u : Value} (hm : ModAt w0 m) (hr : rightMod m = true) (hL : Spaces w0) (hbel : Below w0.heap.size w0 W) (hbox : W.heap[B]? = some (.cells ⟨m.cells⟩ 35)) (h : secClo m B 3 u W) : SecGives m 3 u W := by
  unfold rightMod at hr
  simp only [Bool.and_eq_true, decide_eq_true_eq] at hr
  obtain ⟨⟨few1, few2, few3, few4, few5, few6, few7⟩, r1, r2, r3, r4, r5, r6⟩ := hr
  obtain ⟨a, b, hu, ha, hb⟩ := h
  have hfn : ∀ x ∈ m.funcs, 0 ≤ x.type ∧ x.type < 4294967296 := fun x hx => by
    have := List.all_eq_true.1 r2 x hx
    unfold rightFn word4 at this
    simp only [Bool.and_eq_true, decide_eq_true_eq] at this
    exact this.2.1.1
  have hadds : ∀ x ∈ m.funcs, Adds funcC 10 x := fun x hx => func_adds (hfn x hx)
  have H : Puttable 3 FnV.row (fun _ x => 0 ≤ x.type ∧ x.type < 4294967296) funcC 10 w0 m.fp m.funcs.length m.funcs := ⟨rfl, by omega, hm.funcs, fun x hx _ _ => hfn x hx, hadds, by omega⟩
  have hp : Puts 136 FnV.val (fun _ x => 0 ≤ x.type ∧ x.type < 4294967296) funcC w0 := fun x W base v d _ _ hb hown hd h => func_of base v d x W hown hb hd h.1 h.2
  exact ⟨⟨_, _, _, hu, rfl, whole_len (by omega) hadds (by omega), enters_of Tryz.func198 (by kernel_rfl) rfl, gives_FnV hp (enters_of Tryz.func136 (by kernel_rfl) rfl) m.fp m.funcs.length m.fc m.funcs H W hbel a b (cell_one ha) (cell_one hb)⟩⟩
theorem sec_gives_5 {m : MoV} {w0 W : World} {B : Nat} {u : Value} (hm : ModAt w0 m) (hr : rightMod m = true) (hL : Spaces w0) (hbel : Below w0.heap.size w0 W) (hbox : W.heap[B]? = some (.cells ⟨m.cells⟩ 35)) (h : secClo m B 5 u W) : SecGives m 5 u W := by
  unfold rightMod at hr
  simp only [Bool.and_eq_true, decide_eq_true_eq] at hr
  obtain ⟨⟨few1, few2, few3, few4, few5, few6, few7⟩, r1, r2, r3, r4, r5, r6⟩ := hr
  obtain ⟨a, b, hu, ha, hb⟩ := h
  have hadds : ∀ x ∈ m.memory, Adds memC 100 x := fun x hx => mem_adds (List.all_eq_true.1 r3 x hx)
  have H : Puttable 2 MemV.row (fun _ x => rightMem x = true) memC 100 w0 m.mp m.memory.length m.memory := ⟨rfl, by omega, hm.memory, fun x hx _ _ => List.all_eq_true.1 r3 x hx, hadds, by omega⟩
  have hp : Puts 139 MemV.val (fun _ x => rightMem x = true) memC w0 := fun x W base v d _ _ hb hown hd h => memory_of base v d x W hown hb hd h
  exact ⟨⟨_, _, _, hu, rfl, whole_len (by omega) hadds (by omega), enters_of Tryz.func200 (by kernel_rfl) rfl, gives_MemV hp (enters_of Tryz.func139 (by kernel_rfl) rfl) m.mp m.memory.length m.mc m.memory H W hbel a b (cell_one ha) (cell_one hb)⟩⟩
theorem sec_gives_6 {m : MoV} {w0 W : World} {B : Nat} {u : Value} (hm : ModAt w0 m) (hr : rightMod m = true) (hL : Spaces w0) (hbel : Below w0.heap.size w0 W) (hbox : W.heap[B]? = some (.cells ⟨m.cells⟩ 35)) (h : secClo m B 6 u W) : SecGives m 6 u W := by
  unfold rightMod at hr
  simp only [Bool.and_eq_true, decide_eq_true_eq] at hr
  obtain ⟨⟨few1, few2, few3, few4, few5, few6, few7⟩, r1, r2, r3, r4, r5, r6⟩ := hr
  obtain ⟨a, b, hu, ha, hb⟩ := h
  have hadds : ∀ x ∈ m.globals, Adds globC 100 x := fun x hx => glob_adds (hm.globalsIn x hx).2
  have H : Puttable 3 GlobV.row (fun _ x => rightGlob x = true ∧ inI64 x.init) globC 100 w0 m.gp m.globals.length m.globals := ⟨rfl, by omega, hm.globals, fun x hx _ _ => ⟨List.all_eq_true.1 r4 x hx, (hm.globalsIn x hx).2⟩, hadds, by omega⟩
  have hp : Puts 141 GlobV.val (fun _ x => rightGlob x = true ∧ inI64 x.init) globC w0 := fun x W base v d _ _ hb hown hd h => global_of base v d x W hown hb hd h.1 h.2
  exact ⟨⟨_, _, _, hu, rfl, whole_len (by omega) hadds (by omega), enters_of Tryz.func202 (by kernel_rfl) rfl, gives_GlobV hp (enters_of Tryz.func141 (by kernel_rfl) rfl) m.gp m.globals.length m.gc m.globals H W hbel a b (cell_one ha) (cell_one hb)⟩⟩
theorem sec_gives_7 {m : MoV} {w0 W : World} {B : Nat} {u : Value} (hm : ModAt w0 m) (hr : rightMod m = true) (hL : Spaces w0) (hbel : Below w0.heap.size w0 W) (hbox : W.heap[B]? = some (.cells ⟨m.cells⟩ 35)) (h : secClo m B 7 u W) : SecGives m 7 u W := by
  unfold rightMod at hr
  simp only [Bool.and_eq_true, decide_eq_true_eq] at hr
  obtain ⟨⟨few1, few2, few3, few4, few5, few6, few7⟩, r1, r2, r3, r4, r5, r6⟩ := hr
  obtain ⟨a, b, hu, ha, hb⟩ := h
  have hadds : ∀ x ∈ m.exports, Adds expC 1100000 x := fun x hx => exp_adds (List.all_eq_true.1 r5 x hx) (hm.exportsIn x hx).1
  have H : Puttable 3 ExpV.row (fun _ x => rightExp x = true ∧ x.name.size ≤ maxLen) expC 1100000 w0 m.ep m.exports.length m.exports := ⟨rfl, by omega, hm.exports, fun x hx _ _ => ⟨List.all_eq_true.1 r5 x hx, (hm.exportsIn x hx).1⟩, hadds, by omega⟩
  have hp : Puts 143 ExpV.val (fun _ x => rightExp x = true ∧ x.name.size ≤ maxLen) expC w0 := fun x W base v d _ _ hb hown hd h => export_of base v d x W hown hb hd h.1 h.2
  exact ⟨⟨_, _, _, hu, rfl, whole_len (by omega) hadds (by omega), enters_of Tryz.func205 (by kernel_rfl) rfl, gives_ExpV hp (enters_of Tryz.func143 (by kernel_rfl) rfl) m.ep m.exports.length m.ec m.exports H W hbel a b (cell_one ha) (cell_one hb)⟩⟩
theorem sec_gives_10 {m : MoV} {w0 W : World} {B : Nat} {u : Value} (hm : ModAt w0 m) (hr : rightMod m = true) (hL : Spaces w0) (hbel : Below w0.heap.size w0 W) (hbox : W.heap[B]? = some (.cells ⟨m.cells⟩ 35)) (h : secClo m B 10 u W) : SecGives m 10 u W := by
  unfold rightMod at hr
  simp only [Bool.and_eq_true, decide_eq_true_eq] at hr
  obtain ⟨⟨few1, few2, few3, few4, few5, few6, few7⟩, r1, r2, r3, r4, r5, r6⟩ := hr
  obtain ⟨a, b, hu, ha, hb⟩ := h
  have hadds : ∀ x ∈ m.funcs, Adds codeC 1100000 x := fun x hx => code_adds (List.all_eq_true.1 r2 x hx) (fun y hy => ((hm.funcsIn x hx).1.2.1 y hy).2.2.2.1)
  have H : Puttable 3 FnV.row (okFn w0) codeC 1100000 w0 m.fp m.funcs.length m.funcs := ⟨rfl, by omega, hm.funcs, fun x hx _ _ => ⟨List.all_eq_true.1 r2 x hx, hm.funcsIn x hx, hL⟩, hadds, by omega⟩
  have hp : Puts 145 FnV.val (okFn w0) codeC w0 := code_puts w0
  exact ⟨⟨_, _, _, hu, rfl, whole_len (by omega) hadds (by omega), enters_of Tryz.func198 (by kernel_rfl) rfl, gives_FnV hp (enters_of Tryz.func145 (by kernel_rfl) rfl) m.fp m.funcs.length m.fc m.funcs H W hbel a b (cell_one ha) (cell_one hb)⟩⟩
theorem sec_gives_11 {m : MoV} {w0 W : World} {B : Nat} {u : Value} (hm : ModAt w0 m) (hr : rightMod m = true) (hL : Spaces w0) (hbel : Below w0.heap.size w0 W) (hbox : W.heap[B]? = some (.cells ⟨m.cells⟩ 35)) (h : secClo m B 11 u W) : SecGives m 11 u W := by
  unfold rightMod at hr
  simp only [Bool.and_eq_true, decide_eq_true_eq] at hr
  obtain ⟨⟨few1, few2, few3, few4, few5, few6, few7⟩, r1, r2, r3, r4, r5, r6⟩ := hr
  obtain ⟨a, b, hu, ha, hb⟩ := h
  have hadds : ∀ x ∈ m.data, Adds datC 1100000 x := fun x hx => dat_adds (hm.dataIn x hx).1 (hm.dataIn x hx).2
  have H : Puttable 2 DatV.row (fun _ x => inI64 x.offset ∧ x.bytes.size ≤ maxLen) datC 1100000 w0 m.dp m.data.length m.data := ⟨rfl, by omega, hm.data, fun x hx _ _ => hm.dataIn x hx, hadds, by omega⟩
  have hp : Puts 147 DatV.val (fun _ x => inI64 x.offset ∧ x.bytes.size ≤ maxLen) datC w0 := fun x W base v d _ _ hb hown hd h => data_of base v d x W hown hb hd h.1 h.2
  exact ⟨⟨_, _, _, hu, rfl, whole_len (by omega) hadds (by omega), enters_of Tryz.func211 (by kernel_rfl) rfl, gives_DatV hp (enters_of Tryz.func147 (by kernel_rfl) rfl) m.dp m.data.length m.dc m.data H W hbel a b (cell_one ha) (cell_one hb)⟩⟩
theorem sec_gives_8 {m : MoV} {w0 W : World} {B : Nat} {u : Value} (hm : ModAt w0 m) (hr : rightMod m = true) (hL : Spaces w0) (hbel : Below w0.heap.size w0 W) (hbox : W.heap[B]? = some (.cells ⟨m.cells⟩ 35)) (h : secClo m B 8 u W) : SecGives m 8 u W := by
  unfold rightMod at hr
  simp only [Bool.and_eq_true, decide_eq_true_eq] at hr
  obtain ⟨⟨few1, few2, few3, few4, few5, few6, few7⟩, r1, r2, r3, r4, r5, r6⟩ := hr
  have hs := few7
  refine ⟨⟨_, _, _, h, rfl, ?_, enters_of Tryz.func144 (by kernel_rfl) rfl, gives_start m.start hs W B (by simp [World.cell?, hbox, MoV.cells])⟩⟩
  unfold startC
  split
  · simp
  · rename_i hn
    unfold word4 at hs
    simp only [decide_eq_true_eq] at hs
    have := num_len (b := []) (n := m.start) (by omega) (by omega)
    simp only [List.length_nil] at this
    omega
theorem sec_gives {m : MoV} {w0 W : World} {B : Nat} {u : Value} (hm : ModAt w0 m) (hr : rightMod m = true) (hL : Spaces w0) (hbel : Below w0.heap.size w0 W) (hbox : W.heap[B]? = some (.cells ⟨m.cells⟩ 35)) {k i : Nat} (hk : secIns k = some i) (h : secClo m B k u W) : SecGives m k u W := by
  have hc : k = 1 ∨ k = 3 ∨ k = 5 ∨ k = 6 ∨ k = 7 ∨ k = 8 ∨ k = 10 ∨ k = 11 := by
    unfold secIns at hk
    split at hk <;> first | (cases hk; done) | (simp; done)
  rcases hc with rfl | rfl | rfl | rfl | rfl | rfl | rfl | rfl
  · exact sec_gives_1 hm hr hL hbel hbox h
  · exact sec_gives_3 hm hr hL hbel hbox h
  · exact sec_gives_5 hm hr hL hbel hbox h
  · exact sec_gives_6 hm hr hL hbel hbox h
  · exact sec_gives_7 hm hr hL hbel hbox h
  · exact sec_gives_8 hm hr hL hbel hbox h
  · exact sec_gives_10 hm hr hL hbel hbox h
  · exact sec_gives_11 hm hr hL hbel hbox h
theorem secBody_none {m : MoV} {k : Nat} (h : secIns k = none) : secBody m k = none := by
  unfold secBody
  split <;> first | rfl | (cases h; done)
theorem Clo.near {gp gw : Nat} {x : Value} {t1 t2 : TypeId} {v : Value} {base : Nat} {W W' : World} (h : Clo gp gw x t1 t2 v W) (hk : Near base W W') (h1 : t1 ≠ 5) (h2 : t2 ≠ 5) : Clo gp gw x t1 t2 v W' := by
  obtain ⟨a, b, hv, p1, p2⟩ := h
  exact ⟨a, b, hv, hk.box p1 h1, hk.box p2 h2⟩
theorem secClo.near {m : MoV} {B k : Nat} {v : Value} {base : Nat} {W W' : World} (h : secClo m B k v W) (hk : Near base W W') : secClo m B k v W' := by
  unfold secClo at *
  split at h <;> first | exact h.near hk (by decide) (by decide) | exact h
theorem SecAll.near {m : MoV} {B b : Nat} {D : DataW Value} {base : Nat} {W W' : World} (h : SecAll m B W b D) (hk : Near base W W') : SecAll m B W' b D := by
  refine ⟨?_, h.from0, fun k i hi => ?_, h.none⟩
  · obtain ⟨es, clk, hb, rest⟩ := h.own
    exact ⟨es, clk, hk.block b _ hb (.inr fun cs e => by cases e), rest⟩
  · obtain ⟨v, q1, q2, q3⟩ := h.there k i hi
    exact ⟨v, q1, q2, q3.near hk⟩
theorem wpl_bytes_at {P : Program} {ops : Array Oper} {rest : List Oper} {o : Oper} {a : Act} {w : World} {Q : Exit → Act → World → Prop}
    (hg : o.guard = none) (s x : Operand) (t : TypeId) (hop : o.op = Op.call { callee := Callee.builtin Builtin.append, args := #[s, x], argTypes := #[t, t] })
    (base : Nat) (e : TypeId) (i : TypeInfo) (ht : P.underlying t = some (.slice e)) (hi : P.info? e = some i) (hz : i.zero = some (.int .u8 0))
    (hsize : i.size = 1) (hby : i.bytes = 1)
    (v : Value) (d : List UInt8) (hs : a.eval s = v) (hown : Own w base e v d)
    (ad : Addr) (m c : Nat) (l : List UInt8) (hx : a.eval x = .slice (some ad) m c) (hl : l.length = m) (hnews : ∀ j b, l[j]? = some b → w.cell? (ad.add j) = some (.int .u8 (b.toNat : Int)))
    (h63 : d.length + m ≤ 1000000000000) (hbase : base ≤ w.heap.size)
    (hK : ∀ v' w', Own w' base e v' (d ++ l) → w.grownBy w' v.ownBlock → (v'.ownBlock = v.ownBlock ∨ v'.ownBlock = some w.heap.size) → wpList P ops Q rest (a.put o.dst v') w') : wpList P ops Q (o :: rest) a w := by
  refine wpList_plain hg fun K hK2 => ?_
  obtain ⟨v', w', hr, h2, h3, h4, h5⟩ := run_append_own_at (P := P) w base t o.type e i (.int .u8 0) 1 1 ht hi hz hsize hby rfl (by decide) v d.length _ hown ad m c (l.map fun b => Value.int .u8 (b.toNat : Int)) (by simp [hl])
    (by intro j u hj; rw [List.getElem?_map] at hj; cases hb : l[j]? with
      | none => rw [hb] at hj; cases hj
      | some b => rw [hb] at hj; cases hj; exact hnews j b hb)
    (by intro u hu; simp at hu; obtain ⟨b, _, rfl⟩ := hu; rfl) (by unfold maxLen; omega) (by omega) hbase
  unfold Oper.wp execOp
  simp only [hop, resolve, invoke, builtin, Sem.run_bind, Sem.run_pure, Result.andThen_ok, List.map_toArray, List.map_cons, List.map_nil, hs, hx, hr]
  refine hK2 _ _ (hK v' w' ?_ h3 h5)
  unfold Own
  rw [List.length_append, List.map_append, hl]
  exact h2
theorem put_section_of (base : Nat) (v : Value) (d : List UInt8) (n : Nat) (hn : n ≤ 11) (b2 : Nat) (y : Value) (l : List UInt8) (w : World) (hown : Own w base 5 v d) (hb : base ≤ w.heap.size) (hd : d.length ≤ 100000000) (hy : Own w b2 5 y l) (hl1 : l.length ≤ 2000000000) (hne : ∀ g, y.ownBlock = some g → v.ownBlock ≠ some g) :
    Calls Tryz.prog 54 #[v, .int .i64 n, y] w (Adds5 w base (sectC d n l)) := by
  obtain ⟨i0, hi, hz0, hz1, hz2⟩ := info_parts Tryz.info5
  obtain ⟨vp, vc, rfl⟩ := hown.any
  obtain ⟨yp, yc, rfl⟩ := hy.any
  by_cases hl0 : l.length = 0
  · have hq : sectC d n l = d := by unfold sectC; rw [if_pos hl0]
    rw [hq, hl0]
    clear hq
    go_enter Tryz.func54, Tryz.ntmps54
    go_wp2
    go_ret
    exact ⟨_, rfl, hown, Near.refl _ _⟩
  · have hq : sectC d n l = textC (d ++ one5 n) l := by unfold sectC; rw [if_neg hl0]
    rw [hq]
    have hne0 : ((l.length : Int) == 0) = false := beq_eq_false_iff_ne.2 (by omega)
    have hu : IntKind.u8.wrap (n : Int) = n := by rw [IntKind.wrap_u8]; omega
    have hc : ((UInt8.ofNat ((n : Int) % 256).toNat).toNat : Int) = n := by
      rw [UInt8.toNat_ofNat']
      omega
    have hyl := fun g (hg : (Value.slice yp l.length yc).ownBlock = some g) => (World.ownsRow.lt hy g hg).2
    obtain ⟨N, hN⟩ : ∃ N, l.length = N := ⟨_, rfl⟩
    have HN := Lib.hid hN
    have hbase1 : base ≤ (w.alloc (.cells #[.int .u8 n] 5)).heap.size := by simp; omega
    have c2 : ∀ (v1 : Value) (w1 : World), Own w1 base 5 v1 (d ++ one5 n) → (w.alloc (.cells #[.int .u8 n] 5)).grownBy w1 (Value.slice vp d.length vc).ownBlock → (v1.ownBlock = (Value.slice vp d.length vc).ownBlock ∨ v1.ownBlock = some (w.alloc (.cells #[.int .u8 n] 5)).heap.size) →
        Calls Tryz.prog 148 #[v1, .slice yp l.length yc] w1 (Adds5 w1 base (textC (d ++ one5 n) l)) := fun v1 w1 h1 g1 a1 => by
      refine text_bytes base v1 _ b2 _ l w1 h1 (Nat.le_trans hbase1 g1.size) (by rw [List.length_append, one5_len]; omega) ((hy.alloc _).on (g := 0) g1 hne) (by omega) (by omega) fun g hg hv => ?_
      rcases a1 with a1 | a1
      · exact hne g hg (a1.symm.trans hv)
      · rw [a1] at hv
        have := hyl g hg
        simp at hv
        omega
    rw [hN] at c2 hne0 ⊢
    clear hq hy hyl hne hN
    go_enter Tryz.func54, Tryz.ntmps54
    go_wp2_with (first
      | (at_builtin; refine wpl_bytes_at rfl (.tmp 11) (.tmp 14) 24 rfl base 5 i0 Tryz.underlying24 hi hz0 hz1 hz2 _ _ rfl (hown.alloc _) _ _ _ (one5 n) rfl rfl (lit_one _ _ _ rfl hc) (by omega) hbase1 ?_; intro v1 w1 h1 g1 a1)
      | (go_at_call 148; refine (c2 _ _ h1 g1 a1).mono ?_; rintro e w2 ⟨v2, rfl, h2, n2⟩))
    go_ret
    exact ⟨_, rfl, h2, (((Near.refl base w).alloc _).trans (Near.of_grown (hown.alloc _) g1)).trans n2⟩
def OutAt (W : World) (base : Nat) (v : Value) (d : List UInt8) : Prop := Own W base 5 v d ∨ ∃ (g : Nat) (fz : Nat × Nat), v = .slice (some ⟨g, 0, none⟩) d.length d.length ∧ base ≤ g ∧ W.heap[g]? = some (.cells (d.map fun b => Value.int .u8 (b.toNat : Int)).toArray 5 fz)
theorem OutAt.below {W W' : World} {base : Nat} {v : Value} {d : List UInt8} (h : OutAt W base v d) (hb : Below W.heap.size W W') : OutAt W' base v d := by
  rcases h with h | ⟨g, fz, hv, hg, hc⟩
  · exact .inl (h.below hb)
  · exact .inr ⟨g, fz, hv, hg, (hb.block g (heap_lt9 hc)).trans hc⟩
theorem OutAt.any {W : World} {base : Nat} {v : Value} {d : List UInt8} (h : OutAt W base v d) : ∃ p c, v = .slice p d.length c := by
  rcases h with h | ⟨g, fz, hv, _⟩
  · obtain ⟨p, c, e⟩ := h.any; exact ⟨p, c, e⟩
  · exact ⟨_, _, hv⟩
theorem OutAt.lt {W : World} {base : Nat} {v : Value} {d : List UInt8} (h : OutAt W base v d) : ∀ g, v.ownBlock = some g → base ≤ g ∧ g < W.heap.size := by
  rcases h with h | ⟨g, fz, rfl, hb, hc⟩
  · exact fun g hg => World.ownsRow.lt h g hg
  · intro k hk
    simp only [Value.ownBlock, Option.some.injEq] at hk
    subst hk
    exact ⟨hb, heap_lt9 hc⟩
theorem OutAt.string {W : World} {base : Nat} {v : Value} {d : List UInt8} (h : OutAt W base v d) : (convert 24 9 v).run Tryz.prog W = .ok (.string (bs d)) W := by
  rcases h with h | ⟨g, fz, rfl, _, hc⟩
  · exact own_string (P := Tryz.prog) W 24 9 5 base 5 v d Tryz.underlying24 Tryz.underlying5 Tryz.underlying9 h
  · refine run_convert_bytes_back W 24 9 5 ⟨g, 0, none⟩ d.length d Tryz.underlying24 Tryz.underlying5 Tryz.underlying9 fun j hj => ?_
    have hadd : (⟨g, 0, none⟩ : Addr).add j = ⟨g, j, none⟩ := by unfold Addr.add; split <;> simp_all
    rw [hadd, World.cell?, hc]
    simp [hj]
theorem map_cells (l : List UInt8) : (l.map fun b => Value.int .u8 (b.toNat : Int)).length = l.length := by simp
theorem put_section_first (base g : Nat) (fz : Nat × Nat) (d : List UInt8) (n : Nat) (hn : n ≤ 11) (b2 : Nat) (y : Value) (l : List UInt8) (w : World) (hg : base ≤ g) (hc : w.heap[g]? = some (.cells (d.map fun b => Value.int .u8 (b.toNat : Int)).toArray 5 fz)) (hd : d.length ≤ 100000000) (hy : Own w b2 5 y l) (hl0 : 0 < l.length) (hl1 : l.length ≤ 2000000000) :
    Calls Tryz.prog 54 #[.slice (some ⟨g, 0, none⟩) d.length d.length, .int .i64 n, y] w (Adds5 w base (sectC d n l)) := by
  obtain ⟨i0, hi, hz0, hz1, hz2⟩ := info_parts Tryz.info5
  obtain ⟨yp, yc, rfl⟩ := hy.any
  have hgl := heap_lt9 hc
  have hq : sectC d n l = textC (d ++ one5 n) l := by unfold sectC; rw [if_neg (by omega)]
  rw [hq]
  have hne0 : ((l.length : Int) == 0) = false := beq_eq_false_iff_ne.2 (by omega)
  have hu : IntKind.u8.wrap (n : Int) = n := by rw [IntKind.wrap_u8]; omega
  have hcn : ((UInt8.ofNat ((n : Int) % 256).toNat).toNat : Int) = n := by
    rw [UInt8.toNat_ofNat']
    omega
  have hyl := fun k (hk : (Value.slice yp l.length yc).ownBlock = some k) => (World.ownsRow.lt hy k hk).2
  obtain ⟨N, hN⟩ : ∃ N, l.length = N := ⟨_, rfl⟩
  have hbase1 : base ≤ (w.alloc (.cells #[.int .u8 n] 5)).heap.size := by simp; omega
  have holds : ∀ b : Addr, some (⟨g, 0, none⟩ : Addr) = some b → ∀ j u, (d.map fun b => Value.int .u8 (b.toNat : Int))[j]? = some u → (w.alloc (.cells #[.int .u8 n] 5)).cell? (b.add j) = some u := fun b hb j u hu => by
    injection hb with hb
    subst hb
    have hadd : (⟨g, 0, none⟩ : Addr).add j = ⟨g, j, none⟩ := by unfold Addr.add; split <;> simp_all
    rw [hadd, World.cell?, (Below.heap_alloc w _ g hgl).trans hc]
    simpa using hu
  have hnews : ∀ j u, ([Value.int .u8 n] : List Value)[j]? = some u → (w.alloc (.cells #[.int .u8 n] 5)).cell? ((⟨w.heap.size, 0, none⟩ : Addr).add j) = some u := fun j u hu => by
    have hadd : (⟨w.heap.size, 0, none⟩ : Addr).add j = ⟨w.heap.size, j, none⟩ := by unfold Addr.add; split <;> simp_all
    rw [hadd, World.cell?_alloc_new]
    simpa using hu
  have c2 : ∀ (v1 : Value) (w1 : World), w1.ownsRow (w.alloc (.cells #[.int .u8 n] 5)).heap.size 5 1 v1 (d.length + 1) ((d.map fun b => Value.int .u8 (b.toNat : Int)) ++ [Value.int .u8 n]) → (w.alloc (.cells #[.int .u8 n] 5)).grownBy w1 none →
      Calls Tryz.prog 148 #[v1, .slice yp l.length yc] w1 (Adds5 w1 base (textC (d ++ one5 n) l)) := fun v1 w1 h1 g1 => by
    have h2 : Own w1 base 5 v1 (d ++ one5 n) := by
      unfold Own
      rw [List.length_append, one5_len, List.map_append, show (one5 (n : Int)).map (fun b => Value.int .u8 (b.toNat : Int)) = [Value.int .u8 n] by simp only [one5, List.map_cons, List.map_nil]; rw [hcn]]
      exact Joins.ownsRow_le h1 hbase1
    refine text_bytes base v1 _ b2 _ l w1 h2 (Nat.le_trans hbase1 g1.size) (by rw [List.length_append, one5_len]; omega) ((hy.alloc _).on (g := 0) g1 (fun _ _ e => by cases e)) (by omega) (by omega) fun k hk hv => ?_
    have h3 := (World.ownsRow.lt h1 k hv).1
    have := hyl k hk
    simp at h3
    omega
  have hml := map_cells d
  rw [hN] at c2 hne0 ⊢
  obtain ⟨D, hD⟩ : ∃ D, d.length = D := ⟨_, rfl⟩
  rw [hD] at c2 hml hd ⊢
  clear hq hy hyl hN hc hD
  go_enter Tryz.func54, Tryz.ntmps54
  go_wp2_with (first
    | (at_builtin; refine wpList_append_grows _ rfl (.tmp 11) (.tmp 14) 24 rfl 5 i0 _ 1 1 Tryz.underlying24 hi hz0 hz1 hz2 rfl (by decide) _ D D _ rfl (fun e => by cases e) (by rw [hml]; omega) holds ⟨w.heap.size, 0, none⟩ 1 1 [.int .u8 n] rfl rfl hnews (fun u hu => by rw [List.mem_singleton.1 hu]; rfl) (by omega) (by unfold maxLen; omega) (by omega) ?_; intro v1 w1 h1 g1)
    | (go_at_call 148; refine (c2 _ _ h1 g1).mono ?_; rintro e w2 ⟨v2, rfl, h2, n2⟩))
  go_ret
  exact ⟨_, rfl, h2, (((Near.refl base w).alloc _).trans ⟨g1.os, g1.tape, g1.output, g1.size, fun k o hk _ => (g1.block k (heap_lt9 hk) (fun e => by cases e)).trans hk⟩).trans n2⟩
theorem put_section_out (base : Nat) (v : Value) (d : List UInt8) (n : Nat) (hn : n ≤ 11) (b2 : Nat) (y : Value) (l : List UInt8) (w : World) (hout : OutAt w base v d) (hb : base ≤ w.heap.size) (hd : d.length ≤ 100000000) (hy : Own w b2 5 y l) (hl1 : l.length ≤ 2000000000) (hne : ∀ g, y.ownBlock = some g → v.ownBlock ≠ some g) :
    Calls Tryz.prog 54 #[v, .int .i64 n, y] w fun e w' => ∃ v', e = .returned v' ∧ OutAt w' base v' (sectC d n l) ∧ Near base w w' := by
  rcases hout with h | ⟨g, fz, rfl, hg, hc⟩
  · exact (put_section_of base v d n hn b2 y l w h hb hd hy hl1 hne).mono fun e w' ⟨v', he, h1, h2⟩ => ⟨v', he, .inl h1, h2⟩
  · by_cases hl0 : l.length = 0
    · obtain ⟨yp, yc, rfl⟩ := hy.any
      have hq : sectC d n l = d := by unfold sectC; rw [if_pos hl0]
      rw [hq, hl0]
      have HC := Lib.hid hc
      clear hq hc hy
      go_enter Tryz.func54, Tryz.ntmps54
      go_wp2
      go_ret
      exact ⟨_, rfl, .inr ⟨g, fz, rfl, hg, HC.out⟩, Near.refl _ _⟩
    · exact (put_section_first base g fz d n hn b2 y l w hg hc hd hy (by omega) hl1).mono fun e w' ⟨v', he, h1, h2⟩ => ⟨v', he, .inl h1, h2⟩
theorem modK_len (m : MoV) (h : ∀ k s, secBody m k = some s → s.length ≤ 1002000000) : ∀ k, (modK m k).length ≤ 8 + 1048600 * k
  | 0 => by simp [modK]
  | k + 1 => by
    have ih := modK_len m h k
    rw [modK_succ]
    cases hs : secBody m k with
    | none => exact Nat.le_trans ih (by rw [Nat.mul_succ]; omega)
    | some s =>
      have := sect_len (out := modK m k) (n := (k : Int)) (h k s hs)
      rw [Nat.mul_succ]
      exact Nat.le_trans this (by omega)
theorem sec_look {m : MoV} {B b : Nat} {W : World} {D : DataW Value} (h : SecAll m B W b D) (k : Nat) (hk : k < 12) : ∃ v, (Instr.lookup 117 (.map (some b)) (.int .i64 k) true).run Tryz.prog W = .ok (.tuple #[v, .bool (secIns k).isSome]) W ∧ ((secIns k).isSome = true → secClo m B k v W) := by
  have law : Keyed Tryz.prog 3 := int_keyed Tryz.underlying3
  have hwf : (Lit.int .i64 (k : Int)).wf = true := WalkArith.wf_i64 ⟨by omega, by omega⟩
  have hz : (zeroValue 120).run Tryz.prog W = .ok .nilFunc W := by kernel_rfl
  obtain ⟨v, ps, hl, hv⟩ := h.own.look_ok law Tryz.underlying117 hz (show valRead .nilFunc = some (.held .nilFunc, []) from rfl) (keyOf_int_mk Tryz.underlying3 hwf)
  cases hi : secIns k with
  | none =>
    rw [h.none k hi] at hl
    exact ⟨v, hl, fun e => by cases e⟩
  | some i =>
    obtain ⟨u, q1, q2, q3⟩ := h.there k i hi
    rw [q1] at hl
    rw [q2] at hv
    have : v = u := by
      unfold valRead at hv
      injection hv with hv
      injection hv with hv
      injection hv
    subst this
    exact ⟨v, hl, fun _ => q3⟩
theorem cells7 {m : MoV} {W : World} {B : Nat} (h : W.heap[B]? = some (.cells ⟨m.cells⟩ 35)) : (∀ o, (W.alloc o).cell? ⟨B, 0, none⟩ = some (.slice m.tp m.types.length m.tc)) ∧ (∀ o, (W.alloc o).cell? ⟨B, 1, none⟩ = some (.slice m.fp m.funcs.length m.fc)) ∧ (∀ o, (W.alloc o).cell? ⟨B, 2, none⟩ = some (.slice m.mp m.memory.length m.mc)) ∧ (∀ o, (W.alloc o).cell? ⟨B, 3, none⟩ = some (.slice m.gp m.globals.length m.gc)) ∧ (∀ o, (W.alloc o).cell? ⟨B, 4, none⟩ = some (.slice m.ep m.exports.length m.ec)) ∧ (∀ o, (W.alloc o).cell? ⟨B, 5, none⟩ = some (.int .i64 m.start)) ∧ (∀ o, (W.alloc o).cell? ⟨B, 6, none⟩ = some (.slice m.dp m.data.length m.dc)) := by
  have c : ∀ o j, (W.alloc o).cell? ⟨B, j, none⟩ = (⟨m.cells⟩ : Array Value)[j]? := fun o j => by rw [World.cell?, (Below.heap_alloc W o B (heap_lt9 h)).trans h]; rfl
  exact ⟨fun o => c o 0, fun o => c o 1, fun o => c o 2, fun o => c o 3, fun o => c o 4, fun o => c o 5, fun o => c o 6⟩
theorem head_own (w : World) (fz : Nat × Nat) : OutAt (w.alloc (.cells #[.int .u8 0, .int .u8 97, .int .u8 115, .int .u8 109, .int .u8 1, .int .u8 0, .int .u8 0, .int .u8 0] 5 fz)) w.heap.size (.slice (some ⟨w.heap.size, 0, none⟩) 8 8) [0, 97, 115, 109, 1, 0, 0, 0] := .inr ⟨_, fz, rfl, Nat.le_refl _, heap_alloc_new _ _⟩
theorem enc_mod_right (m : MoV) (w : World) (hL : Laid w) (hm : ModAt w m) (hr : rightMod m = true) :
    Calls Tryz.prog 19 #[m.val] w fun e w' => e = .returned (.tuple #[.string (bs (ans5 m).1), .int .i64 (ans5 m).2]) ∧ Below w.heap.size w w' := by
  have cR := fun W (hW : Below w.heap.size w W) => mod_right m W (hL.below hW) (hm.below hW (Nat.le_refl _))
  rw [hr] at cR
  have cS := fun W => sections_of m W
  have hcb : ∀ w : World, (convert 24 24 (.slice (some ⟨w.heap.size, 0, none⟩) 8 8)).run Tryz.prog (w.alloc (.cells #[.int .u8 0, .int .u8 97, .int .u8 115, .int .u8 109, .int .u8 1, .int .u8 0, .int .u8 0, .int .u8 0] 5)) = .ok (.slice (some ⟨w.heap.size, 0, none⟩) 8 8) (w.alloc (.cells #[.int .u8 0, .int .u8 97, .int .u8 115, .int .u8 109, .int .u8 1, .int .u8 0, .int .u8 0, .int .u8 0] 5 (8, 9))) := fun w => Lib.run_convert_bytes_const w 24 5 _ 8 8 Tryz.underlying24 Tryz.underlying5
  have hans := ans_cap m hr
  obtain ⟨R, hR⟩ : ∃ R, R = ans5 m := ⟨_, rfl⟩
  rw [← hR] at hans ⊢
  have HA := Lib.hid hans
  have HM := Lib.hid hm
  have hg := fun {B k i : Nat} {u : Value} {W : World} (hk : secIns k = some i) (hW : Below w.heap.size w W) (hb : W.heap[B]? = some (.cells ⟨m.cells⟩ 35)) (h : secClo m B k u W) => sec_gives hm hr hL.spaces hW hb hk h
  clear hans hR
  have hln := modK_len m
  have hms := modK_succ m
  have hm0 : modK m 0 = [0, 97, 115, 109, 1, 0, 0, 0] := rfl
  rw [← modK_all] at HA
  have hbx : ∀ {W : World}, Below (w.alloc (.cells ⟨m.cells⟩ 35)).heap.size (w.alloc (.cells ⟨m.cells⟩ 35)) W → W.heap[w.heap.size]? = some (.cells ⟨m.cells⟩ 35) ∧ Below w.heap.size w W := fun h => ⟨(h.block _ (by simp)).trans (heap_alloc_new _ _), ((Below.refl _ w).alloc (Nat.le_refl _) _).trans (h.mono (by simp))⟩
  have hc7 := @cells7 m
  generalize modK m = mk at *
  have hsb := fun k (hi : secIns k = none) => secBody_none (m := m) hi
  simp only [MoV.val, MoV.cells] at cR cS hbx hg hc7 ⊢
  go_enter Tryz.func19, Tryz.ntmps19
  go_wp2_with (first
    | (go_at_call 21; refine (cR _ ((Below.refl _ w).alloc (Nat.le_refl _) _)).mono ?_; rintro e w1 ⟨rfl, hb1⟩; obtain ⟨hbox1, hB1⟩ := hbx hb1; clear hb1 cR; have hlt1 := heap_lt9 hbox1; have hw1 := hB1.size; obtain ⟨q0, q1, q2, q3, q4, q5, q6⟩ := hc7 hbox1; have hcb1 := hcb w1)
    | (go_at_call 53; go_loud (refine (cS _).mono ?_); rintro e w2 ⟨b, D, rfl, hb2, hbx2, hA2⟩))
  have hB2 : Below w.heap.size w w2 := (hB1.alloc hB1.size _).trans (hb2.mono (by have := hB1.size; simp; omega))
  have hO2 := (head_own w1 (8, 9)).below hb2
  rw [← hm0] at hO2
  have hs2 := hb2.size
  have hlen : ∀ k s, secBody m k = some s → s.length ≤ 1002000000 := fun k s hs => by
    cases hi : secIns k with
    | none => rw [hsb k hi] at hs; cases hs
    | some i =>
      obtain ⟨v, _, _, hv⟩ := hA2.there k i hi
      obtain ⟨g, lb, s', _, h1, h2, _⟩ := (hg hi hB2 hbx2 hv).gives
      rw [h1] at hs; injection hs with hs; subst hs; exact h2
  have hln := hln hlen
  have HLN := Lib.hid hln
  have hsz : w1.heap.size ≤ w2.heap.size := Nat.le_trans (by simp) hs2
  have hB2' := hB2
  clear hB1 q0 q1 q2 q3 q4 q5 q6 hcb hcb1 hlt1 hbox1 hbx hc7 cS hlen hln hb2 hs2 HM hm hL
  go_loopw [4, 16] (fun out i wr => ∃ (k : Nat) (v : Value), v = out ∧ k ≤ 12 ∧ i = .int .i64 k ∧ OutAt wr w1.heap.size v (mk k) ∧ Near w1.heap.size w2 wr) (fun _ i _ => 12 - (intOf i).toNat)
  case atStart => exact ⟨0, _, rfl, by omega, rfl, hO2, Near.refl _ _⟩
  case round =>
    clear hO2
    obtain ⟨k, v, rfl, hk, rfl, hO, hN⟩ := hrel
    have hBw := hB2.trans ((hN.below hsz).mono hw1)
    by_cases hlt : k < 12
    · have hA := hA2.near hN
      obtain ⟨u, hl, hu⟩ := sec_look hA k hlt
      have hmk1 := hms k
      cases hi : secIns k with
      | none =>
        rw [hsb k hi] at hmk1
        rw [hi] at hl
        simp only [Option.isSome_none] at hl
        have HK := Lib.hid hmk1
        clear hmk1 hu hA hi
        go_wp2
        go_roundw
        case rel => exact ⟨k + 1, _, rfl, by omega, by go_num, by rw [HK.out]; exact hO, hN⟩
        case measure => simp [intOf]; omega
      | some i =>
        obtain ⟨g, lb, s, rfl, h1, h2, eg, hgv⟩ := (hg hi hBw (hN.box hbx2 (by decide)) (hu (by rw [hi]; rfl))).gives
        rw [h1] at hmk1
        rw [hi] at hl
        simp only [Option.isSome_some] at hl
        have HK := Lib.hid hmk1
        have hkl := HLN.out k
        have hbw := Nat.le_trans hsz hN.size
        have cP : ∀ (y : Value) (w3 : World), Own w3 wr.heap.size 5 y s → Below wr.heap.size wr w3 → Calls Tryz.prog 54 #[v, .int .i64 k, y] w3 fun e w' => ∃ v', e = .returned v' ∧ OutAt w' w1.heap.size v' (sectC (mk k) k s) ∧ Near w1.heap.size w3 w' := fun y w3 hy hb3 =>
          put_section_out w1.heap.size v (mk k) k (by omega) _ y s w3 (hO.below hb3) (Nat.le_trans hbw hb3.size) (by omega) hy (by omega) fun g hg hv => by
            have := (World.ownsRow.lt hy g hg).1
            have := (hO.lt g hv).2
            omega
        clear hmk1 hu hA hi h1
        go_wp2_with fail
        refine hgv.mono ?_
        rintro e w3 ⟨y, rfl, hy, hb3⟩
        dsimp only
        go_wp2_with (go_at_call 54; refine (cP _ _ hy hb3).mono ?_; rintro e w4 ⟨v4, rfl, hO4, n4⟩)
        go_roundw
        case rel => exact ⟨k + 1, _, rfl, by omega, by go_num, by rw [HK.out]; exact hO4, (hN.then hb3).trans n4⟩
        case measure => simp [intOf]; omega
    · obtain rfl : k = 12 := by omega
      obtain ⟨p, c, rfl⟩ := hO.any
      have hcv := hO.string
      generalize mk 12 = Z at *
      obtain ⟨z, hz⟩ : ∃ z, Z.length = z := ⟨_, rfl⟩
      have hZ := HA.out
      rw [hz] at hcv hZ ⊢
      clear hms hg hsb HA
      by_cases hq : (1048576 : Int) < z
      · have hq2 : 1048576 < z := by omega
        rw [if_pos (by omega)] at hZ
        have HZ := Lib.hid hZ
        clear hZ hO hz
        go_wp2
        go_ret2
        exact ⟨by first | rfl | (rw [HZ.out]; rfl), hBw⟩
      · have hq2 : ¬ 1048576 < z := by omega
        rw [if_neg (by omega)] at hZ
        have HZ := Lib.hid hZ
        clear hZ hO hz
        go_wp2
        go_ret2
        exact ⟨by first | rfl | (rw [HZ.out]; rfl), hBw⟩
theorem enc_mod (m : MoV) (w : World) (hL : Laid w) (hm : ModAt w m) :
    Calls Tryz.prog 19 #[m.val] w fun e w' => e = .returned (.tuple #[.string (bs (ans5 m).1), .int .i64 (ans5 m).2]) ∧ Below w.heap.size w w' := by
  cases hr : rightMod m with
  | true => exact enc_mod_right m w hL hm hr
  | false =>
    have hans : ans5 m = ([], 1) := by unfold ans5; rw [hr]; rfl
    rw [hans]
    have cR := fun W (hW : Below w.heap.size w W) => mod_right m W (hL.below hW) (hm.below hW (Nat.le_refl _))
    rw [hr] at cR
    clear hans
    simp only [MoV.val] at cR ⊢
    go_enter Tryz.func19, Tryz.ntmps19
    go_wp2_with (go_at_call 21; refine (cR _ ((Below.refl _ w).alloc (Nat.le_refl _) _)).mono ?_; rintro e w1 ⟨rfl, hb1⟩)
    go_ret2
    exact ⟨rfl, ((Below.refl _ w).alloc (Nat.le_refl _) _).trans (hb1.mono (by simp))⟩
end Go.Proofs.YtdinpakclmnacaaGreatDoor
