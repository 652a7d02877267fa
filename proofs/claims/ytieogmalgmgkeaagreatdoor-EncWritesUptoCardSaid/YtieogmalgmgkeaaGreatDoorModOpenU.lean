/-
  Arguments that are modules, or lists of what modules are made of, opened, where they hold together no more than the second form's bound. Plain; no statement is proved here.
-/
import Derived.Test.YtieogmalgmgkeaaGreatDoorModAt
import Derived.Deep.Slices
import Derived.Lib.SmallJoins
import Derived.SizedLaws
import Derived.ProofKit
import Derived.OpenShut
import Derived.Test.YtieogmalgmgkeaaGreatDoorRows
import Derived.Test.YtieogmalgmgkeaaGreatDoorModMadeAt
namespace Go.Proofs.YtieogmalgmgkeaaGreatDoor
set_option linter.unusedVariables false
open Go.ChangeShapes Go.WideShapes Go.ChangeAt Go.RowKit

/-- No part of it takes more bytes than the form's reach. -/
def SmallU {H : Type} (t : TypeId) (d : DataW H) : Prop := (∀ n ∈ d.weights Tryz.prog t, n ≤ reachBytes) ∧ Rows.uptoBulk d ≤ 1048576
theorem bulk_oneU {H : Type} (d : DataW H) : 1 ≤ Rows.uptoBulk d := by
  cases d with
  | lit l => cases l <;> simp [Rows.uptoBulk]
  | nil => simp [Rows.uptoBulk]
  | ptr d => simp [Rows.uptoBulk]
  | slice elems spare => simp [Rows.uptoBulk]
  | agg parts => simp [Rows.uptoBulk]
  | iface t d => simp [Rows.uptoBulk]
  | map entries => simp [Rows.uptoBulk]
  | held h => simp [Rows.uptoBulk]
theorem bulk_partU {H : Type} {d : DataW H} {l : List (DataW H)} (h : d ∈ l) : Rows.uptoBulk d ≤ Rows.uptoBulkAll l := by
  induction l with
  | nil => cases h
  | cons x r ih =>
    simp only [Rows.uptoBulkAll]
    cases List.mem_cons.1 h with
    | inl e => subst e; omega
    | inr e => have := ih e; omega
theorem bulk_lenU {H : Type} (l : List (DataW H)) : l.length ≤ Rows.uptoBulkAll l := by
  induction l with
  | nil => simp [Rows.uptoBulkAll]
  | cons x r ih => have := bulk_oneU x; simp only [Rows.uptoBulkAll, List.length_cons]; omega
theorem bulk_appU {H : Type} (l r : List (DataW H)) : Rows.uptoBulkAll (l ++ r) = Rows.uptoBulkAll l + Rows.uptoBulkAll r := by
  induction l with
  | nil => simp [Rows.uptoBulkAll]
  | cons x l ih => simp only [List.cons_append, Rows.uptoBulkAll, ih]; omega
section
variable {H : Type} {enc : TypeId × Value → H} {w : World}

theorem SmallU.part {t : TypeId} {fs : Array Field} {ds : List (DataW H)} (h : SmallU t (.agg ds)) (ht : Tryz.prog.underlying t = some (.struct fs)) {i : Nat} {f : Field} {d : DataW H} (hf : fs[i]? = some f) (hd : ds[i]? = some d) : SmallU f.type d := by
  refine ⟨fun n hn => ?_, ?_⟩
  · refine h.1 n ?_
    unfold DataW.weights
    rw [ht]
    refine DataW.weights_mem_each (j := i) (t := f.type) (d := d) ?_ hd n hn
    simp [hf]
  · have h1 := bulk_partU (List.mem_of_getElem? hd)
    have h2 := h.2
    simp only [Rows.uptoBulk] at h2
    omega
theorem mem_weightsAllU {e : TypeId} {d : DataW H} {n : Nat} (hn : n ∈ d.weights Tryz.prog e) : ∀ {l : List (DataW H)}, d ∈ l → n ∈ DataW.weightsAll Tryz.prog e l
  | [], h => by cases h
  | x :: l, h => by
    unfold DataW.weightsAll
    rcases List.mem_cons.1 h with rfl | h1
    · exact List.mem_append_left _ hn
    · exact List.mem_append_right _ (mem_weightsAllU hn h1)
theorem SmallU.elem {t e : TypeId} {l s : List (DataW H)} (h : SmallU t (.slice l s)) (ht : Tryz.prog.underlying t = some (.slice e)) {d : DataW H} (hd : d ∈ l) : SmallU e d := by
  refine ⟨fun n hn => ?_, ?_⟩
  · refine h.1 n ?_
    unfold DataW.weights
    rw [ht]
    exact List.mem_cons_of_mem _ (List.mem_append_left _ (mem_weightsAllU hn hd))
  · have h1 := bulk_partU hd
    have h2 := h.2
    simp only [Rows.uptoBulk] at h2
    omega
theorem SmallU.room {t e : TypeId} {l s : List (DataW H)} (h : SmallU t (.slice l s)) (ht : Tryz.prog.underlying t = some (.slice e)) : (l.length + s.length) * Tryz.prog.bytesOf e ≤ reachBytes := by
  refine h.1 _ ?_
  unfold DataW.weights
  rw [ht]
  exact List.mem_cons_self
theorem SmallU.count {t : TypeId} {l s : List (DataW H)} (h : SmallU t (.slice l s)) : l.length ≤ 1048576 := by
  have h2 := h.2
  simp only [Rows.uptoBulk] at h2
  have := bulk_lenU l
  omega
theorem SmallU.text {t : TypeId} {s : List UInt8} (h : SmallU (H := H) t (.lit (.string s))) : s.length ≤ 1048576 := by
  have h2 := h.2
  simp only [Rows.uptoBulk] at h2
  omega
theorem list_ofU {α : Type} {p : Nat → α → Prop} : ∀ (n : Nat), (∀ i, i < n → ∃ v, p i v) → ∃ l : List α, l.length = n ∧ ∀ i (h : i < l.length), p i l[i]
  | 0, _ => ⟨[], rfl, fun i h => absurd h (by simp)⟩
  | n + 1, h => by
    obtain ⟨l, hl, hp⟩ := list_ofU n fun i hi => h i (by omega)
    obtain ⟨v, hv⟩ := h n (by omega)
    refine ⟨l ++ [v], by simp [hl], fun i hi => ?_⟩
    by_cases hin : i < l.length
    · rw [List.getElem_append_left hin]; exact hp i hin
    · have : i = n := by simp at hi; omega
      subst this
      simp [hl, hv]
theorem cell_ltU {a : Addr} {v : Value} (h : w.cell? a = some v) : ∃ b o, a = ⟨b, o, none⟩ ∧ b < w.heap.size := by
  obtain ⟨b, o, s⟩ := a
  obtain rfl : s = none := World.cell?_spot h
  refine ⟨b, o, rfl, ?_⟩
  by_cases hb : b < w.heap.size
  · exact hb
  · simp [World.cell?, Array.getElem?_eq_none (by omega : w.heap.size ≤ b)] at h
/-- A list of things that are c cells each. -/
theorem open_rowsU {α : Type} {row : α → List Value} {ok : α → Prop} {t e : TypeId} {c by0 : Nat} (ht : Tryz.prog.underlying t = some (.slice e)) (hc : Tryz.prog.cellsOf e = c) (hpos : 0 < c) (hby : Tryz.prog.bytesOf e = by0)
    (hopen : ∀ {n : Nat} {cs : List Value} {y : DataW H × List MemPlace}, DataW.trod enc Tryz.prog w 0 (fun _ => true) true n e cs = some y → SmallU e y.1 → ∃ v, cs = row v ∧ ok v)
    {fuel : Nat} {v : Value} {x : DataW H × List MemPlace} (h : DataW.trod enc Tryz.prog w 0 (fun _ => true) true fuel t [v] = some x) (hs : SmallU t x.1) :
    ∃ p cap, ∃ l : List α, v = .slice p l.length cap ∧ RowsAt w p c row l ∧ (∀ y ∈ l, ok y) ∧ (l.length * by0 ≤ reachBytes ∧ l.length ≤ 1048576) ∧ l.length ≤ cap := by
  rcases Go.Deep.open_slice ht h with ⟨h0, rfl⟩ | ⟨a, len, cap, m, n, D, Pl, hcs, _, hl, _, hm, rfl, hx⟩
  · simp only [List.cons.injEq, and_true] at h0
    exact ⟨none, 0, [], h0, RowsAt.nil, (fun y hy => by cases hy), ⟨by simp, by simp⟩, by simp⟩
  · simp only [List.cons.injEq, and_true] at hcs
    subst hcs
    simp only [if_true] at hm
    subst hm
    have hall : ∀ i, i < len → ∃ v, w.cells? 0 (a.add (i * Tryz.prog.cellsOf e)) (Tryz.prog.cellsOf e) = some (row v) ∧ ok v := fun i hi => by
      obtain ⟨cs', h1, h2⟩ := hx i (by omega)
      obtain ⟨v, rfl, hv⟩ := hopen h2 (hs.elem ht (List.mem_map.2 ⟨i, List.mem_range.2 hi, rfl⟩))
      exact ⟨v, h1, hv⟩
    obtain ⟨l, hlen, hp⟩ := list_ofU len hall
    refine ⟨some a, m, l, by rw [hlen], fun j hj i v hv => ?_, fun y hy => ?_, ⟨?_, ?_⟩, by omega⟩
    · have h0 : 0 < l.length := by omega
      have hp0 := (hp 0 h0).1
      rw [hc] at hp0
      obtain ⟨_, hln0, hcell0⟩ := World.cells?_some hp0
      have hc0 := (hcell0 0 hpos).trans (List.getElem?_eq_getElem (by omega))
      rw [Nat.zero_mul, show (a.add 0).add 0 = a from rfl] at hc0
      obtain ⟨b, o, rfl, hb⟩ := cell_ltU hc0
      have hpj := (hp j hj).1
      rw [hc] at hpj
      obtain ⟨_, hln, hcell⟩ := World.cells?_some hpj
      have hi : i < c := by have := (List.getElem?_eq_some_iff.1 hv).1; omega
      have hcl := (hcell i hi).trans hv
      rw [Go.WideShapes.add_plain, Go.WideShapes.add_plain] at hcl
      exact ⟨b, o, rfl, hb, hcl⟩
    · obtain ⟨j, hj, rfl⟩ := List.getElem_of_mem hy
      exact (hp j hj).2
    · have hr := hs.room ht
      rw [hby] at hr
      simp only [List.length_map, List.length_range] at hr
      rw [hlen]
      exact Nat.le_trans (Nat.mul_le_mul_right _ (by omega)) hr
    · have hr := hs.count
      simp only [List.length_map, List.length_range] at hr
      omega
/-- A struct whose fields are a cell each. -/
theorem open_fieldsU {t : TypeId} {fs : Array Field} (ht : Tryz.prog.underlying t = some (.struct fs)) (hone : Go.Deep.oneCellFields Tryz.prog fs = true) (hc : Tryz.prog.cellsOf t = fs.size) {n : Nat} {cs : List Value} {x : DataW H × List MemPlace} (h : DataW.trod enc Tryz.prog w 0 (fun _ => true) true n t cs = some x) (hs : SmallU t x.1) :
    cs.length = fs.size ∧ ∀ (i : Nat) (f : Field) (v : Value), fs[i]? = some f → cs[i]? = some v → ∃ m y, DataW.trod enc Tryz.prog w 0 (fun _ => true) true m f.type [v] = some y ∧ SmallU f.type y.1 := by
  obtain ⟨xs, m, _, rfl, hl, hlen, hf⟩ := DataW.trod_struct ht h
  refine ⟨hl.trans hc, fun i f v hfi hv => ?_⟩
  have hk := hf i f hfi
  have hone' := Go.Deep.hone_of hone i f hfi
  have hi : i < fs.size := (Array.getElem?_eq_some_iff.1 hfi).1
  rw [hone'.1, hone'.2] at hk
  have hcs : (cs.drop i).take 1 = [v] := by
    have hi' : i < cs.length := (List.getElem?_eq_some_iff.1 hv).1
    rw [List.drop_eq_getElem_cons hi', (List.getElem?_eq_some_iff.1 hv).2]; rfl
  rw [hcs, List.getElem?_eq_getElem (by omega)] at hk
  refine ⟨m, _, hk, hs.part ht hfi (d := xs[i].1) ?_⟩
  simp [List.getElem?_eq_getElem (show i < xs.length by omega)]

theorem open_i64U {t : TypeId} (ht : Tryz.prog.underlying t = some (.int .i64)) {v : Value} (h : ∃ m y, DataW.trod enc Tryz.prog w 0 (fun _ => true) true m t [v] = some y ∧ SmallU t y.1) : ∃ n, v = .int .i64 n ∧ inI64 n := by
  obtain ⟨m, y, h, _⟩ := h
  obtain ⟨n, hn, _, hw⟩ := DataW.trod_int ht h
  simp only [List.cons.injEq, and_true] at hn
  exact ⟨n, hn, bounds_i64 hw⟩
theorem open_u8U {t : TypeId} (ht : Tryz.prog.underlying t = some (.int .u8)) {v : Value} (h : ∃ m y, DataW.trod enc Tryz.prog w 0 (fun _ => true) true m t [v] = some y ∧ SmallU t y.1) : ∃ n, v = .int .u8 n ∧ 0 ≤ n ∧ n < 256 := by
  obtain ⟨m, y, h, _⟩ := h
  obtain ⟨n, hn, _, hw⟩ := DataW.trod_int ht h
  simp only [List.cons.injEq, and_true] at hn
  have := bounds_u8 hw
  exact ⟨n, hn, by omega, by omega⟩
theorem open_textU {t : TypeId} (ht : Tryz.prog.underlying t = some .string) {v : Value} (h : ∃ m y, DataW.trod enc Tryz.prog w 0 (fun _ => true) true m t [v] = some y ∧ SmallU t y.1) : ∃ s : ByteArray, v = .string s ∧ s.size ≤ maxLen ∧ s.size ≤ 1048576 := by
  obtain ⟨m, y, h, hs⟩ := h
  obtain ⟨s, hn, hy, hw⟩ := DataW.trod_string ht h
  simp only [List.cons.injEq, and_true] at hn
  subst hy
  have := hs.text
  exact ⟨s, hn, hw, by simpa using this⟩
theorem open_truthU {t : TypeId} (ht : Tryz.prog.underlying t = some .bool) {v : Value} (h : ∃ m y, DataW.trod enc Tryz.prog w 0 (fun _ => true) true m t [v] = some y ∧ SmallU t y.1) : ∃ b, v = .bool b := by
  obtain ⟨m, y, h, _⟩ := h
  obtain ⟨b, hn, _⟩ := DataW.trod_bool ht h
  simp only [List.cons.injEq, and_true] at hn
  exact ⟨b, hn⟩
/-- An argument that is a struct: its value, out of its cells. -/
theorem agg_cellsU {P : Program} {r : Reach} {b0 : Nat} {t : TypeId} {fs : Array Field} {v : Value} (ht : P.underlying t = some (.struct fs)) (hv : Value.okWide P w r b0 t v) {cs : List Value} (h : v.cells.toList = cs) : v = .agg ⟨cs⟩ := by
  obtain ⟨ars, rfl, _⟩ := okWide_struct ht hv
  subst h
  rfl
theorem arg_cellU {P : Program} {r : Reach} {b0 : Nat} {t e : TypeId} {v : Value} (ht : P.underlying t = some (.slice e)) (hv : Value.okWide P w r b0 t v) : v.cells.toList = [v] := by
  obtain ⟨a, len, cap, rfl⟩ := okWide_slice ht hv
  rfl
theorem list2U {α : Type} {l : List α} (h : l.length = 2) : ∃ a b, l = [a, b] := by
  match l, h with
  | [a, b], _ => exact ⟨a, b, rfl⟩
theorem list3U {α : Type} {l : List α} (h : l.length = 3) : ∃ a b c, l = [a, b, c] := by
  match l, h with
  | [a, b, c], _ => exact ⟨a, b, c, rfl⟩
theorem list4U {α : Type} {l : List α} (h : l.length = 4) : ∃ a b c d, l = [a, b, c, d] := by
  match l, h with
  | [a, b, c, d], _ => exact ⟨a, b, c, d, rfl⟩
theorem list7U {α : Type} {l : List α} (h : l.length = 7) : ∃ a b c d e f g, l = [a, b, c, d, e, f, g] := by
  match l, h with
  | [a, b, c, d, e, f, g], _ => exact ⟨a, b, c, d, e, f, g, rfl⟩

abbrev ReadsU (enc : TypeId × Value → H) (w : World) (t : TypeId) (v : Value) : Prop := ∃ m y, DataW.trod enc Tryz.prog w 0 (fun _ => true) true m t [v] = some y ∧ SmallU t y.1
theorem open_numsU {v : Value} (h : ReadsU enc w 31 v) : ∃ p cap, ∃ l : List Int, v = .slice p l.length cap ∧ IntsAt w p l ∧ (∀ y ∈ l, inI64 y) ∧ (l.length * 8 ≤ reachBytes ∧ l.length ≤ 1048576) ∧ l.length ≤ cap := by
  obtain ⟨m, y, h, hs⟩ := h
  obtain ⟨p, cap, l, rfl, hr, hi, hm, hc⟩ := open_rowsU (row := fun n : Int => [.int .i64 n]) (ok := inI64) (c := 1) (by0 := 8) Tryz.underlying31 (by kernel_rfl) (by decide) (by kernel_rfl) (fun {n cs y} h hs => by
    have hcl : ∃ v, cs = [v] := by
      obtain ⟨n, hn, _, _⟩ := DataW.trod_int Tryz.underlying3 h
      exact ⟨_, hn⟩
    obtain ⟨v, rfl⟩ := hcl
    obtain ⟨n, rfl, hn⟩ := open_i64U Tryz.underlying3 ⟨_, _, h, hs⟩
    exact ⟨n, rfl, hn⟩) h hs
  refine ⟨p, cap, l, rfl, fun j hj => ?_, hi, hm, hc⟩
  obtain ⟨b, o, hp, hb, hcl⟩ := hr j hj 0 _ rfl
  exact ⟨b, o, hp, hb, by simpa using hcl⟩
theorem open_insU {n : Nat} {cs : List Value} {y : DataW H × List MemPlace} (h : DataW.trod enc Tryz.prog w 0 (fun _ => true) true n 33 cs = some y) (hs : SmallU 33 y.1) : ∃ x : InsV, cs = InsV.row x ∧ InsAt w x := by
  obtain ⟨hl, hf⟩ := open_fieldsU Tryz.underlying33 (by kernel_rfl) (by kernel_rfl) h hs
  obtain ⟨c0, c1, c2, c3, rfl⟩ := list4U hl
  obtain ⟨x0, rfl, b0⟩ := open_i64U Tryz.underlying3 (hf 0 _ c0 rfl rfl)
  obtain ⟨x1, rfl, b1⟩ := open_i64U Tryz.underlying2 (hf 1 _ c1 rfl rfl)
  obtain ⟨x2, rfl, b2⟩ := open_i64U Tryz.underlying2 (hf 2 _ c2 rfl rfl)
  obtain ⟨p, cap, l, rfl, hi, hin, hm, _⟩ := open_numsU (hf 3 _ c3 rfl rfl)
  exact ⟨⟨x0, x1, x2, p, cap, l⟩, rfl, hi, by have := hm.1; unfold reachBytes at this; show l.length ≤ _; omega, b0, b1, b2, hin⟩
theorem open_codeU {v : Value} (h : ReadsU enc w 44 v) : ∃ p cap, ∃ l : List InsV, v = .slice p l.length cap ∧ CodeAt w p l ∧ l.length ≤ 1048576 := by
  obtain ⟨m, y, h, hs⟩ := h
  obtain ⟨p, cap, l, rfl, hr, hi, hm, hc⟩ := open_rowsU (row := InsV.row) (ok := InsAt w) (c := 4) (by0 := 48) Tryz.underlying44 (by kernel_rfl) (by decide) (by kernel_rfl) open_insU h hs
  exact ⟨p, cap, l, rfl, ⟨hr, hi, by have := hm.1; unfold reachBytes at this; omega⟩, hm.2⟩
theorem open_fnU {n : Nat} {cs : List Value} {y : DataW H × List MemPlace} (h : DataW.trod enc Tryz.prog w 0 (fun _ => true) true n 46 cs = some y) (hs : SmallU 46 y.1) : ∃ x : FnV, cs = FnV.row x ∧ (FnAt w x ∧ x.code.length ≤ 1048576) := by
  obtain ⟨hl, hf⟩ := open_fieldsU Tryz.underlying46 (by kernel_rfl) (by kernel_rfl) h hs
  obtain ⟨c0, c1, c2, rfl⟩ := list3U hl
  obtain ⟨x0, rfl, b0⟩ := open_i64U Tryz.underlying3 (hf 0 _ c0 rfl rfl)
  obtain ⟨s, rfl, b1, _⟩ := open_textU Tryz.underlying9 (hf 1 _ c1 rfl rfl)
  obtain ⟨p, cap, l, rfl, hi, hn⟩ := open_codeU (hf 2 _ c2 rfl rfl)
  exact ⟨⟨x0, s, p, cap, l⟩, rfl, ⟨hi, b1, b0⟩, hn⟩
theorem open_tyU {n : Nat} {cs : List Value} {y : DataW H × List MemPlace} (h : DataW.trod enc Tryz.prog w 0 (fun _ => true) true n 51 cs = some y) (hs : SmallU 51 y.1) : ∃ x : TyV, cs = TyV.row x ∧ (x.params.size ≤ maxLen ∧ x.results.size ≤ maxLen) := by
  obtain ⟨hl, hf⟩ := open_fieldsU Tryz.underlying51 (by kernel_rfl) (by kernel_rfl) h hs
  obtain ⟨c0, c1, rfl⟩ := list2U hl
  obtain ⟨s0, rfl, b0, _⟩ := open_textU Tryz.underlying9 (hf 0 _ c0 rfl rfl)
  obtain ⟨s1, rfl, b1, _⟩ := open_textU Tryz.underlying9 (hf 1 _ c1 rfl rfl)
  exact ⟨⟨s0, s1⟩, rfl, b0, b1⟩
theorem open_memU {n : Nat} {cs : List Value} {y : DataW H × List MemPlace} (h : DataW.trod enc Tryz.prog w 0 (fun _ => true) true n 68 cs = some y) (hs : SmallU 68 y.1) : ∃ x : MemV, cs = MemV.row x ∧ (inI64 x.min ∧ inI64 x.max) := by
  obtain ⟨hl, hf⟩ := open_fieldsU Tryz.underlying68 (by kernel_rfl) (by kernel_rfl) h hs
  obtain ⟨c0, c1, rfl⟩ := list2U hl
  obtain ⟨x0, rfl, b0⟩ := open_i64U Tryz.underlying3 (hf 0 _ c0 rfl rfl)
  obtain ⟨x1, rfl, b1⟩ := open_i64U Tryz.underlying3 (hf 1 _ c1 rfl rfl)
  exact ⟨⟨x0, x1⟩, rfl, b0, b1⟩
theorem open_globU {n : Nat} {cs : List Value} {y : DataW H × List MemPlace} (h : DataW.trod enc Tryz.prog w 0 (fun _ => true) true n 70 cs = some y) (hs : SmallU 70 y.1) : ∃ x : GlobV, cs = GlobV.row x ∧ (inI64 x.type ∧ inI64 x.init) := by
  obtain ⟨hl, hf⟩ := open_fieldsU Tryz.underlying70 (by kernel_rfl) (by kernel_rfl) h hs
  obtain ⟨c0, c1, c2, rfl⟩ := list3U hl
  obtain ⟨x0, rfl, b0⟩ := open_i64U Tryz.underlying3 (hf 0 _ c0 rfl rfl)
  obtain ⟨b, rfl⟩ := open_truthU Tryz.underlying4 (hf 1 _ c1 rfl rfl)
  obtain ⟨x2, rfl, b2⟩ := open_i64U Tryz.underlying2 (hf 2 _ c2 rfl rfl)
  exact ⟨⟨x0, b, x2⟩, rfl, b0, b2⟩
theorem open_expU {n : Nat} {cs : List Value} {y : DataW H × List MemPlace} (h : DataW.trod enc Tryz.prog w 0 (fun _ => true) true n 48 cs = some y) (hs : SmallU 48 y.1) : ∃ x : ExpV, cs = ExpV.row x ∧ ((x.name.size ≤ maxLen ∧ inI64 x.kind ∧ inI64 x.index) ∧ x.name.size ≤ 1048576) := by
  obtain ⟨hl, hf⟩ := open_fieldsU Tryz.underlying48 (by kernel_rfl) (by kernel_rfl) h hs
  obtain ⟨c0, c1, c2, rfl⟩ := list3U hl
  obtain ⟨s, rfl, b0, bn⟩ := open_textU Tryz.underlying9 (hf 0 _ c0 rfl rfl)
  obtain ⟨x1, rfl, b1⟩ := open_i64U Tryz.underlying3 (hf 1 _ c1 rfl rfl)
  obtain ⟨x2, rfl, b2⟩ := open_i64U Tryz.underlying3 (hf 2 _ c2 rfl rfl)
  exact ⟨⟨s, x1, x2⟩, rfl, ⟨b0, b1, b2⟩, bn⟩
theorem open_datU {n : Nat} {cs : List Value} {y : DataW H × List MemPlace} (h : DataW.trod enc Tryz.prog w 0 (fun _ => true) true n 72 cs = some y) (hs : SmallU 72 y.1) : ∃ x : DatV, cs = DatV.row x ∧ ((inI64 x.offset ∧ x.bytes.size ≤ maxLen) ∧ x.bytes.size ≤ 1048576) := by
  obtain ⟨hl, hf⟩ := open_fieldsU Tryz.underlying72 (by kernel_rfl) (by kernel_rfl) h hs
  obtain ⟨c0, c1, rfl⟩ := list2U hl
  obtain ⟨x0, rfl, b0⟩ := open_i64U Tryz.underlying3 (hf 0 _ c0 rfl rfl)
  obtain ⟨s, rfl, b1, bn⟩ := open_textU Tryz.underlying9 (hf 1 _ c1 rfl rfl)
  exact ⟨⟨x0, s⟩, rfl, ⟨b0, b1⟩, bn⟩
/-- A list in a module. -/
theorem open_listU {α : Type} {row : α → List Value} {ok : α → Prop} {t e : TypeId} {c by0 : Nat} (ht : Tryz.prog.underlying t = some (.slice e)) (hc : Tryz.prog.cellsOf e = c) (hpos : 0 < c) (hby : Tryz.prog.bytesOf e = by0) (hb0 : 0 < by0)
    (hopen : ∀ {n : Nat} {cs : List Value} {y : DataW H × List MemPlace}, DataW.trod enc Tryz.prog w 0 (fun _ => true) true n e cs = some y → SmallU e y.1 → ∃ v, cs = row v ∧ ok v) {v : Value} (h : ReadsU enc w t v) :
    ∃ p cap, ∃ l : List α, v = .slice p l.length cap ∧ RowsAt w p c row l ∧ (∀ y ∈ l, ok y) ∧ l.length ≤ mostThings := by
  obtain ⟨m, y, h, hs⟩ := h
  obtain ⟨p, cap, l, rfl, hr, hi, hm, _⟩ := open_rowsU ht hc hpos hby hopen h hs
  refine ⟨p, cap, l, rfl, hr, hi, ?_⟩
  have h1 := hm.2
  unfold mostThings
  omega
theorem open_moduleU {n : Nat} {cs : List Value} {y : DataW H × List MemPlace} (h : DataW.trod enc Tryz.prog w 0 (fun _ => true) true n 29 cs = some y) (hs : SmallU 29 y.1) : ∃ m : MoV, cs = m.cells ∧ ModAt w m ∧ (∀ f ∈ m.funcs, f.code.length ≤ 1048576) ∧ (∀ t ∈ m.exports, t.name.size ≤ 1048576) ∧ (∀ t ∈ m.data, t.bytes.size ≤ 1048576) := by
  obtain ⟨hl, hf⟩ := open_fieldsU Tryz.underlying29 (by kernel_rfl) (by kernel_rfl) h hs
  obtain ⟨c0, c1, c2, c3, c4, c5, c6, rfl⟩ := list7U hl
  obtain ⟨tp, tc, types, rfl, t1, t2, t3⟩ := open_listU (c := 2) Tryz.underlying22 (by kernel_rfl) (by decide) (by0 := 32) (by kernel_rfl) (by decide) open_tyU (hf 0 _ c0 rfl rfl)
  obtain ⟨fp, fc, funcs, rfl, f1, f2, f3⟩ := open_listU (c := 3) Tryz.underlying23 (by kernel_rfl) (by decide) (by0 := 48) (by kernel_rfl) (by decide) open_fnU (hf 1 _ c1 rfl rfl)
  obtain ⟨mp, mc, memory, rfl, m1, m2, m3⟩ := open_listU (c := 2) Tryz.underlying24 (by kernel_rfl) (by decide) (by0 := 16) (by kernel_rfl) (by decide) open_memU (hf 2 _ c2 rfl rfl)
  obtain ⟨gp, gc, globals, rfl, g1, g2, g3⟩ := open_listU (c := 3) Tryz.underlying25 (by kernel_rfl) (by decide) (by0 := 24) (by kernel_rfl) (by decide) open_globU (hf 3 _ c3 rfl rfl)
  obtain ⟨ep, ec, exports, rfl, e1, e2, e3⟩ := open_listU (c := 3) Tryz.underlying26 (by kernel_rfl) (by decide) (by0 := 32) (by kernel_rfl) (by decide) open_expU (hf 4 _ c4 rfl rfl)
  obtain ⟨st, rfl, s1⟩ := open_i64U Tryz.underlying3 (hf 5 _ c5 rfl rfl)
  obtain ⟨dp, dc, data, rfl, d1, d2, d3⟩ := open_listU (c := 2) Tryz.underlying27 (by kernel_rfl) (by decide) (by0 := 24) (by kernel_rfl) (by decide) open_datU (hf 6 _ c6 rfl rfl)
  exact ⟨⟨tp, tc, types, fp, fc, funcs, mp, mc, memory, gp, gc, globals, ep, ec, exports, st, dp, dc, data⟩, rfl, ⟨t1, t2, t3, f1, fun x hx => (f2 x hx).1, f3, m1, m2, m3, g1, g2, g3, e1, fun x hx => (e2 x hx).1, e3, s1, d1, fun x hx => (d2 x hx).1, d3⟩, fun x hx => (f2 x hx).2, fun x hx => (e2 x hx).2, fun x hx => (d2 x hx).2⟩

theorem small_ofU {ts : List TypeId} {ds : List (DataW H)} (h : (DataW.weightsEach Tryz.prog ts ds).all (· ≤ reachBytes) = true) (hb : Rows.uptoBulkAll ds ≤ 1048576) {j : Nat} {t : TypeId} {d : DataW H} (ht : ts[j]? = some t) (hd : ds[j]? = some d) : SmallU t d :=
  ⟨fun n hn => of_decide_eq_true (List.all_eq_true.1 h n (DataW.weights_mem_each ht hd n hn)), Nat.le_trans (bulk_partU (List.mem_of_getElem? hd)) hb⟩
theorem MoV.val_cellsU (m : MoV) : m.val = .agg ⟨m.cells⟩ := rfl
theorem open_stepU {n : Nat} {cs : List Value} {y : DataW H × List MemPlace} (h : DataW.trod enc Tryz.prog w 0 (fun _ => true) true n 62 cs = some y) (hs : SmallU 62 y.1) : ∃ x : StepV, cs = StepV.row x ∧ ((0 ≤ x.kind ∧ x.kind < 256) ∧ (0 ≤ x.op ∧ x.op < 256) ∧ inI64 x.a) := by
  obtain ⟨hl, hf⟩ := open_fieldsU Tryz.underlying62 (by kernel_rfl) (by kernel_rfl) h hs
  obtain ⟨c0, c1, c2, c3, rfl⟩ := list4U hl
  obtain ⟨x0, rfl, b0⟩ := open_u8U Tryz.underlying5 (hf 0 _ c0 rfl rfl)
  obtain ⟨x1, rfl, b1⟩ := open_i64U Tryz.underlying2 (hf 1 _ c1 rfl rfl)
  obtain ⟨x2, rfl, _⟩ := open_i64U Tryz.underlying2 (hf 2 _ c2 rfl rfl)
  obtain ⟨x3, rfl, b3⟩ := open_u8U Tryz.underlying5 (hf 3 _ c3 rfl rfl)
  exact ⟨⟨x0, x1, x2, x3⟩, rfl, b0, b3, b1⟩
theorem open_stepsU {v : Value} (h : ReadsU enc w 30 v) : ∃ p cap, ∃ l : List StepV, v = .slice p l.length cap ∧ StepsAt w p l ∧ l.length ≤ cap := by
  obtain ⟨m, y, h, hs⟩ := h
  obtain ⟨p, cap, l, rfl, hr, hi, hm, hc⟩ := open_rowsU (row := StepV.row) (ok := fun x => (0 ≤ x.kind ∧ x.kind < 256) ∧ (0 ≤ x.op ∧ x.op < 256) ∧ inI64 x.a) (c := 4) (by0 := 32) Tryz.underlying30 (by kernel_rfl) (by decide) (by kernel_rfl) open_stepU h hs
  exact ⟨p, cap, l, rfl, ⟨hr, hi, by have := hm.2; unfold mostThings; omega⟩, hc⟩
end
end Go.Proofs.YtieogmalgmgkeaaGreatDoor
