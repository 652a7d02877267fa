/-
  'append(l, make([]byte, k)...)' onto an array of the call's own: so many bytes 0 behind. A law on memory; no program is looked at.
-/
import Derived.Test.YtaihmcengecmiaaMemHead
namespace Go.Proofs.Ytaihmcengecmiaa
open Go.RowKit Go.Maps
set_option linter.unusedVariables false
set_option linter.unusedSimpArgs false

theorem zeros_at (k i : Nat) (h : i < k) : (Builtin.zeroCells #[.int .u8 0] k)[i]? = some (.int .u8 0) := by
  simp [Builtin.zeroCells, h, Nat.mod_one]
theorem zeros_one (k : Nat) : ∀ u ∈ (Builtin.zeroCells #[.int .u8 0] k).toList, u.oneCell' = true := by
  intro u hu
  obtain ⟨i, hi, rfl⟩ := List.mem_iff_getElem.1 hu
  have hk : i < k := by simpa [size_zeroCells] using hi
  have := zeros_at k i hk
  rw [Array.getElem?_eq_getElem (by simpa [size_zeroCells] using hk)] at this
  have e := Option.some.inj this
  simp only [Array.getElem_toList]
  rw [e]
  rfl
section
variable {P : Program}
theorem append_zeros (w : World) (t it ty e : TypeId) (i : TypeInfo) (ht : P.underlying t = some (.slice e)) (hit : P.underlying it = some (.int .i64)) (hi : P.info? e = some i) (hz : i.zero = some (.int .u8 0)) (hs : i.size = 1) (hby : i.bytes = 1)
    (g N cap k : Nat) (cur : Array Value) (hg : w.heap[g]? = some (.cells cur e (0, 0))) (hcs : cur.size = cap) (hN : N ≤ cap) (hcm : cap ≤ maxLen) (hb : N + k ≤ 140737488355328) :
    ∃ g' cap' cur' w', (Builtin.append_ #[t, it] ty #[.slice (some ⟨g, 0, none⟩) N cap, .int .i64 (k : Int)]).run P w = .ok (.slice (some ⟨g', 0, none⟩) (N + k) cap') w' ∧ w'.heap[g']? = some (.cells cur' e (0, 0)) ∧ cur'.size = cap' ∧ N + k ≤ cap' ∧ cap' ≤ maxLen ∧
      (∀ j, j < N → cur'[j]? = cur[j]?) ∧ (∀ j, N ≤ j → j < N + k → cur'[j]? = some (.int .u8 0)) ∧ (g' = g ∨ g' = w.heap.size) ∧ w.grownBy w' (some g) := by
  have hk0 : ¬ ((k : Int) < 0) := by omega
  have hw : IntKind.i64.wrap (k : Int) = k := by rw [IntKind.wrap_i64]; omega
  have hbig : ¬ (281474976710656 < (k : Int)) := by omega
  have hzc : (Value.int .u8 0).cells = #[.int .u8 0] := rfl
  by_cases hkz : k = 0
  · subst hkz
    have hw0 : IntKind.i64.wrap 0 = 0 := by decide
    refine ⟨g, cap, cur, w, ?_, hg, hcs, hN, hcm, fun _ _ => rfl, fun j h1 h2 => by omega, .inl rfl, ⟨rfl, rfl, rfl, Nat.le_refl _, fun _ _ _ => rfl⟩⟩
    simp [Builtin.append_, run_underlying ht, run_underlying hit, sizeOf, typeInfo, zeroValue, hi, hz, hs, hby, asInt, asIntOf, hw0, hN, storeCells]
  by_cases hroom : N + k ≤ cap
  · have hst := run_storeCells_at P g N e (Builtin.zeroCells #[.int .u8 0] k).toList 0 cur w hg (by simp [size_zeroCells]; omega) (zeros_one k)
    simp only [Nat.add_zero] at hst
    have hlen : (Builtin.zeroCells #[.int .u8 0] k).toList.length = k := by simp [size_zeroCells]
    rw [hlen] at hst
    refine ⟨g, cap, (cur.toList.take N ++ (Builtin.zeroCells #[.int .u8 0] k).toList ++ cur.toList.drop (N + k)).toArray, _, ?_, setRow_heap w g cur _ e _ hg, ?_, hroom, hcm, fun j hj => ?_, fun j h1 h2 => ?_, .inl rfl, ⟨rfl, rfl, rfl, by rw [setRow_size]; exact Nat.le_refl _, fun q hq hne => setRow_other w g q _ (fun e => hne (by rw [e]))⟩⟩
    · simp only [Builtin.append_, run_underlying ht, run_underlying hit, sizeOf, typeInfo, zeroValue, hi, hz, hs, hby, asInt, asIntOf]
      simp [hw, hk0, hbig, hkz, hroom, Addr.add_lit, hzc, hst, hi, hz, hs, hby, run_underlying ht, run_underlying hit]
    · rw [List.size_toArray, List.length_append, List.length_append, hlen, List.length_take, List.length_drop, Array.length_toList]
      omega
    · rw [List.getElem?_toArray, List.append_assoc, List.getElem?_append_left (by rw [List.length_take, Array.length_toList]; omega), List.getElem?_take, if_pos hj, Array.getElem?_toList]
    · rw [List.getElem?_toArray, List.getElem?_append_left (by rw [List.length_append, List.length_take, hlen, Array.length_toList]; omega), List.getElem?_append_right (by rw [List.length_take, Array.length_toList]; omega), List.length_take, Array.length_toList, Nat.min_eq_left (by omega), Array.getElem?_toList]
      exact zeros_at k _ (by omega)
  · have h48' : ¬ (281474976710656 < Builtin.nextslicecap (N + k) cap * 1) := by
      have := growslice_fits (need := N + k) (old := cap) (bytes := 1) (by omega) (by omega)
      omega
    have h63' : ¬ (9223372036854775807 < ((N : Int) + (k : Int))) := by omega
    have hfo := run_firstCells_some (P := P) w.drew 1 N ⟨g, 0, none⟩ N cap (cur.toList.take N) (by rw [List.length_take, Array.length_toList]; omega) (by
      intro j u hj
      have hadd : (⟨g, 0, none⟩ : Addr).add j = ⟨g, j, none⟩ := by unfold Addr.add; split <;> simp_all
      have hg' : w.drew.heap[g]? = some (.cells cur e (0, 0)) := hg
      rw [hadd, cell_of_row w.drew g j cur e (0, 0) hg']
      rw [List.getElem?_take] at hj
      split at hj
      · rw [← hj, Array.getElem?_toList]
      · cases hj)
    refine ⟨w.heap.size, grownCap w (N + k) cap e, (cur.toList.take N).toArray ++ Builtin.zeroCells #[.int .u8 0] k ++ Builtin.zeroCells #[.int .u8 0] (grownCap w (N + k) cap e - (N + k)), w.drew.alloc (.cells ((cur.toList.take N).toArray ++ Builtin.zeroCells #[.int .u8 0] k ++ Builtin.zeroCells #[.int .u8 0] (grownCap w (N + k) cap e - (N + k))) e), ?_, heap_alloc_new w.drew _, ?_, grownCap_ge _ _ _ _, grownCap_le_maxLen _ _ _ _ (by unfold maxLen; omega), fun j hj => ?_, fun j h1 h2 => ?_, .inr rfl, ⟨rfl, rfl, rfl, by simp, fun q hq _ => Below.heap_alloc w.drew _ q hq⟩⟩
    · simp only [Builtin.append_, run_underlying ht, run_underlying hit, sizeOf, typeInfo, zeroValue, hi, hz, hs, hby, asInt, asIntOf]
      simp [hw, hk0, hbig, hkz, hroom, h48', h63', hzc, hfo, hi, hz, hs, hby, run_underlying ht, run_underlying hit, Question.forced, newRow, grownCap]
      intro h
      omega
    · have := grownCap_ge w (N + k) cap e
      rw [Array.size_append, Array.size_append, size_zeroCells, size_zeroCells, List.size_toArray, List.length_take, Array.length_toList]
      show min N cur.size + k * 1 + (grownCap w (N + k) cap e - (N + k)) * 1 = _
      omega
    · rw [Array.append_assoc, Array.getElem?_append_left (by rw [List.size_toArray, List.length_take, Array.length_toList]; omega), List.getElem?_toArray, List.getElem?_take, if_pos hj, Array.getElem?_toList]
    · rw [Array.getElem?_append_left (by rw [Array.size_append, size_zeroCells, List.size_toArray, List.length_take, Array.length_toList]; show j < min N cur.size + k * 1; omega), Array.getElem?_append_right (by rw [List.size_toArray, List.length_take, Array.length_toList]; omega), List.size_toArray, List.length_take, Array.length_toList, Nat.min_eq_left (by omega)]
      exact zeros_at k _ (by omega)
/-- An append whose run is known by an equation. -/
theorem wpList_append_run {w w' : World} {ops : Array Oper} {rest : List Oper} {o : Oper} {a : Act} {Q : Exit → Act → World → Prop} (hgd : o.guard = none) (s x : Operand) (t t' : TypeId)
    (ho : o.op = .call { callee := .builtin .append, args := #[s, x], argTypes := #[t, t'] }) (v u v' : Value) (hs : a.eval s = v) (hx : a.eval x = u)
    (hr : (Builtin.append_ #[t, t'] o.type #[v, u]).run P w = .ok v' w') (h : wpList P ops Q rest (a.put o.dst v') w') : wpList P ops Q (o :: rest) a w := by
  refine wpList_plain hgd fun K hK => ?_
  unfold Oper.wp execOp
  simp only [ho, resolve, invoke, builtin, Sem.run_bind, Sem.run_pure, Result.andThen_ok, List.map_toArray, List.map_cons, List.map_nil, hs, hx, hr]
  exact hK _ _ h
end
end Go.Proofs.Ytaihmcengecmiaa
