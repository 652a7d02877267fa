/-
  Arguments that are lists, opened. Plain; no program is looked at.
-/
import Derived.Test.YtomffpibdinkaaaGreatDoorVbValBase
import Derived.Deep.Slices
import Derived.Lib.SmallJoins
import Derived.SizedLaws
import Derived.ProofKit
import Derived.OpenShut

namespace Go.Proofs.YtomffpibdinkaaaGreatDoor
open Go.ChangeShapes Go.WideShapes Go.ChangeAt Go.RowKit

/-- No part of it takes more bytes than the form's reach. -/
def Small {H : Type} (t : TypeId) (d : DataW H) : Prop := ∀ n ∈ d.weights Tryz.prog t, n ≤ reachBytes
section
variable {H : Type} {enc : TypeId × Value → H} {w : World}

theorem Small.part {t : TypeId} {fs : Array Field} {ds : List (DataW H)} (h : Small t (.agg ds)) (ht : Tryz.prog.underlying t = some (.struct fs)) {i : Nat} {f : Field} {d : DataW H} (hf : fs[i]? = some f) (hd : ds[i]? = some d) : Small f.type d := by
  intro n hn
  refine h n ?_
  unfold DataW.weights
  rw [ht]
  refine DataW.weights_mem_each (j := i) (t := f.type) (d := d) ?_ hd n hn
  simp [hf]
theorem mem_weightsAll {e : TypeId} {d : DataW H} {n : Nat} (hn : n ∈ d.weights Tryz.prog e) : ∀ {l : List (DataW H)}, d ∈ l → n ∈ DataW.weightsAll Tryz.prog e l
  | [], h => by cases h
  | x :: l, h => by
    unfold DataW.weightsAll
    rcases List.mem_cons.1 h with rfl | h1
    · exact List.mem_append_left _ hn
    · exact List.mem_append_right _ (mem_weightsAll hn h1)
theorem Small.elem {t e : TypeId} {l s : List (DataW H)} (h : Small t (.slice l s)) (ht : Tryz.prog.underlying t = some (.slice e)) {d : DataW H} (hd : d ∈ l) : Small e d := by
  intro n hn
  refine h n ?_
  unfold DataW.weights
  rw [ht]
  exact List.mem_cons_of_mem _ (List.mem_append_left _ (mem_weightsAll hn hd))
theorem Small.room {t e : TypeId} {l s : List (DataW H)} (h : Small t (.slice l s)) (ht : Tryz.prog.underlying t = some (.slice e)) : (l.length + s.length) * Tryz.prog.bytesOf e ≤ reachBytes := by
  refine h _ ?_
  unfold DataW.weights
  rw [ht]
  exact List.mem_cons_self
theorem Small.text {t : TypeId} {s : List UInt8} (h : Small (H := H) t (.lit (.string s))) : s.length ≤ reachBytes := h _ (by unfold DataW.weights; exact List.mem_cons_self)
theorem list_of {α : Type} {p : Nat → α → Prop} : ∀ (n : Nat), (∀ i, i < n → ∃ v, p i v) → ∃ l : List α, l.length = n ∧ ∀ i (h : i < l.length), p i l[i]
  | 0, _ => ⟨[], rfl, fun i h => absurd h (by simp)⟩
  | n + 1, h => by
    obtain ⟨l, hl, hp⟩ := list_of n fun i hi => h i (by omega)
    obtain ⟨v, hv⟩ := h n (by omega)
    refine ⟨l ++ [v], by simp [hl], fun i hi => ?_⟩
    by_cases hin : i < l.length
    · rw [List.getElem_append_left hin]; exact hp i hin
    · have : i = n := by simp at hi; omega
      subst this
      simp [hl, hv]
theorem cell_lt {a : Addr} {v : Value} (h : w.cell? a = some v) : ∃ b o, a = ⟨b, o, none⟩ ∧ b < w.heap.size := by
  obtain ⟨b, o, s⟩ := a
  obtain rfl : s = none := World.cell?_spot h
  refine ⟨b, o, rfl, ?_⟩
  by_cases hb : b < w.heap.size
  · exact hb
  · simp [World.cell?, Array.getElem?_eq_none (by omega : w.heap.size ≤ b)] at h
/-- A list of things that are c cells each. -/
theorem open_rows {α : Type} {row : α → List Value} {ok : α → Prop} {t e : TypeId} {c by0 : Nat} (ht : Tryz.prog.underlying t = some (.slice e)) (hc : Tryz.prog.cellsOf e = c) (hpos : 0 < c) (hby : Tryz.prog.bytesOf e = by0)
    (hopen : ∀ {n : Nat} {cs : List Value} {y : DataW H × List MemPlace}, DataW.trod enc Tryz.prog w 0 (fun _ => true) true n e cs = some y → Small e y.1 → ∃ v, cs = row v ∧ ok v)
    {fuel : Nat} {v : Value} {x : DataW H × List MemPlace} (h : DataW.trod enc Tryz.prog w 0 (fun _ => true) true fuel t [v] = some x) (hs : Small t x.1) :
    ∃ p cap, ∃ l : List α, v = .slice p l.length cap ∧ RowsAt w p c row l ∧ (∀ y ∈ l, ok y) ∧ l.length * by0 ≤ reachBytes ∧ l.length ≤ cap := by
  rcases Go.Deep.open_slice ht h with ⟨h0, rfl⟩ | ⟨a, len, cap, m, n, D, Pl, hcs, _, hl, _, hm, rfl, hx⟩
  · simp only [List.cons.injEq, and_true] at h0
    exact ⟨none, 0, [], h0, RowsAt.nil, (fun y hy => by cases hy), by simp, by simp⟩
  · simp only [List.cons.injEq, and_true] at hcs
    subst hcs
    simp only [if_true] at hm
    subst hm
    have hall : ∀ i, i < len → ∃ v, w.cells? 0 (a.add (i * Tryz.prog.cellsOf e)) (Tryz.prog.cellsOf e) = some (row v) ∧ ok v := fun i hi => by
      obtain ⟨cs', h1, h2⟩ := hx i (by omega)
      obtain ⟨v, rfl, hv⟩ := hopen h2 (hs.elem ht (List.mem_map.2 ⟨i, List.mem_range.2 hi, rfl⟩))
      exact ⟨v, h1, hv⟩
    obtain ⟨l, hlen, hp⟩ := list_of len hall
    refine ⟨some a, m, l, by rw [hlen], fun j hj i v hv => ?_, fun y hy => ?_, ?_, by omega⟩
    · have h0 : 0 < l.length := by omega
      have hp0 := (hp 0 h0).1
      rw [hc] at hp0
      obtain ⟨_, hln0, hcell0⟩ := World.cells?_some hp0
      have hc0 := (hcell0 0 hpos).trans (List.getElem?_eq_getElem (by omega))
      rw [Nat.zero_mul, show (a.add 0).add 0 = a from rfl] at hc0
      obtain ⟨b, o, rfl, hb⟩ := cell_lt hc0
      have hpj := (hp j hj).1
      rw [hc] at hpj
      obtain ⟨_, hln, hcell⟩ := World.cells?_some hpj
      have hi : i < c := by have := (List.getElem?_eq_some_iff.1 hv).1; omega
      have hcl := (hcell i hi).trans hv
      rw [Go.WideShapes.add_plain, Go.WideShapes.add_plain] at hcl
      exact ⟨b, o, rfl, hb, hcl⟩
    · obtain ⟨j, hj, rfl⟩ := List.getElem_of_mem hy
      exact (hp j hj).2
    · have hr := hs.room ht
      rw [hby] at hr
      simp only [List.length_map, List.length_range] at hr
      rw [hlen]
      exact Nat.le_trans (Nat.mul_le_mul_right _ (by omega)) hr
/-- A struct whose fields are a cell each. -/
theorem open_fields {t : TypeId} {fs : Array Field} (ht : Tryz.prog.underlying t = some (.struct fs)) (hone : Go.Deep.oneCellFields Tryz.prog fs = true) (hc : Tryz.prog.cellsOf t = fs.size) {n : Nat} {cs : List Value} {x : DataW H × List MemPlace} (h : DataW.trod enc Tryz.prog w 0 (fun _ => true) true n t cs = some x) (hs : Small t x.1) :
    cs.length = fs.size ∧ ∀ (i : Nat) (f : Field) (v : Value), fs[i]? = some f → cs[i]? = some v → ∃ m y, DataW.trod enc Tryz.prog w 0 (fun _ => true) true m f.type [v] = some y ∧ Small f.type y.1 := by
  obtain ⟨xs, m, _, rfl, hl, hlen, hf⟩ := DataW.trod_struct ht h
  refine ⟨hl.trans hc, fun i f v hfi hv => ?_⟩
  have hk := hf i f hfi
  have hone' := Go.Deep.hone_of hone i f hfi
  have hi : i < fs.size := (Array.getElem?_eq_some_iff.1 hfi).1
  rw [hone'.1, hone'.2] at hk
  have hcs : (cs.drop i).take 1 = [v] := by
    have hi' : i < cs.length := (List.getElem?_eq_some_iff.1 hv).1
    rw [List.drop_eq_getElem_cons hi', (List.getElem?_eq_some_iff.1 hv).2]; rfl
  rw [hcs, List.getElem?_eq_getElem (by omega)] at hk
  refine ⟨m, _, hk, hs.part ht hfi (d := xs[i].1) ?_⟩
  simp [List.getElem?_eq_getElem (show i < xs.length by omega)]

theorem open_i64 {t : TypeId} (ht : Tryz.prog.underlying t = some (.int .i64)) {v : Value} (h : ∃ m y, DataW.trod enc Tryz.prog w 0 (fun _ => true) true m t [v] = some y ∧ Small t y.1) : ∃ n, v = .int .i64 n ∧ inI64 n := by
  obtain ⟨m, y, h, _⟩ := h
  obtain ⟨n, hn, _, hw⟩ := DataW.trod_int ht h
  simp only [List.cons.injEq, and_true] at hn
  exact ⟨n, hn, bounds_i64 hw⟩
theorem open_u8 {t : TypeId} (ht : Tryz.prog.underlying t = some (.int .u8)) {v : Value} (h : ∃ m y, DataW.trod enc Tryz.prog w 0 (fun _ => true) true m t [v] = some y ∧ Small t y.1) : ∃ n, v = .int .u8 n ∧ 0 ≤ n ∧ n < 256 := by
  obtain ⟨m, y, h, _⟩ := h
  obtain ⟨n, hn, _, hw⟩ := DataW.trod_int ht h
  simp only [List.cons.injEq, and_true] at hn
  have := bounds_u8 hw
  exact ⟨n, hn, by omega, by omega⟩
theorem open_text {t : TypeId} (ht : Tryz.prog.underlying t = some .string) {v : Value} (h : ∃ m y, DataW.trod enc Tryz.prog w 0 (fun _ => true) true m t [v] = some y ∧ Small t y.1) : ∃ s : ByteArray, v = .string s ∧ s.size ≤ maxLen ∧ s.size ≤ reachBytes := by
  obtain ⟨m, y, h, hs⟩ := h
  obtain ⟨s, hn, hy, hw⟩ := DataW.trod_string ht h
  simp only [List.cons.injEq, and_true] at hn
  subst hy
  have := hs.text
  exact ⟨s, hn, hw, by simpa using this⟩
theorem open_truth {t : TypeId} (ht : Tryz.prog.underlying t = some .bool) {v : Value} (h : ∃ m y, DataW.trod enc Tryz.prog w 0 (fun _ => true) true m t [v] = some y ∧ Small t y.1) : ∃ b, v = .bool b := by
  obtain ⟨m, y, h, _⟩ := h
  obtain ⟨b, hn, _⟩ := DataW.trod_bool ht h
  simp only [List.cons.injEq, and_true] at hn
  exact ⟨b, hn⟩
/-- An argument that is a struct: its value, out of its cells. -/
theorem agg_cells {P : Program} {r : Reach} {b0 : Nat} {t : TypeId} {fs : Array Field} {v : Value} (ht : P.underlying t = some (.struct fs)) (hv : Value.okWide P w r b0 t v) {cs : List Value} (h : v.cells.toList = cs) : v = .agg ⟨cs⟩ := by
  obtain ⟨ars, rfl, _⟩ := okWide_struct ht hv
  subst h
  rfl
theorem arg_cell {P : Program} {r : Reach} {b0 : Nat} {t e : TypeId} {v : Value} (ht : P.underlying t = some (.slice e)) (hv : Value.okWide P w r b0 t v) : v.cells.toList = [v] := by
  obtain ⟨a, len, cap, rfl⟩ := okWide_slice ht hv
  rfl
theorem list2 {α : Type} {l : List α} (h : l.length = 2) : ∃ a b, l = [a, b] := by
  match l, h with
  | [a, b], _ => exact ⟨a, b, rfl⟩
theorem list3 {α : Type} {l : List α} (h : l.length = 3) : ∃ a b c, l = [a, b, c] := by
  match l, h with
  | [a, b, c], _ => exact ⟨a, b, c, rfl⟩
theorem list4 {α : Type} {l : List α} (h : l.length = 4) : ∃ a b c d, l = [a, b, c, d] := by
  match l, h with
  | [a, b, c, d], _ => exact ⟨a, b, c, d, rfl⟩
theorem list7 {α : Type} {l : List α} (h : l.length = 7) : ∃ a b c d e f g, l = [a, b, c, d, e, f, g] := by
  match l, h with
  | [a, b, c, d, e, f, g], _ => exact ⟨a, b, c, d, e, f, g, rfl⟩

abbrev Reads (enc : TypeId × Value → H) (w : World) (t : TypeId) (v : Value) : Prop := ∃ m y, DataW.trod enc Tryz.prog w 0 (fun _ => true) true m t [v] = some y ∧ Small t y.1
theorem open_nums {v : Value} (h : Reads enc w 36 v) : ∃ p cap, ∃ l : List Int, v = .slice p l.length cap ∧ IntsAt w p l ∧ (∀ y ∈ l, inI64 y) ∧ l.length * 8 ≤ reachBytes ∧ l.length ≤ cap := by
  obtain ⟨m, y, h, hs⟩ := h
  obtain ⟨p, cap, l, rfl, hr, hi, hm, hc⟩ := open_rows (row := fun n : Int => [.int .i64 n]) (ok := inI64) (c := 1) (by0 := 8) Tryz.underlying36 (by kernel_rfl) (by decide) (by kernel_rfl) (fun {n cs y} h hs => by
    have hcl : ∃ v, cs = [v] := by
      obtain ⟨n, hn, _, _⟩ := DataW.trod_int Tryz.underlying3 h
      exact ⟨_, hn⟩
    obtain ⟨v, rfl⟩ := hcl
    obtain ⟨n, rfl, hn⟩ := open_i64 Tryz.underlying3 ⟨_, _, h, hs⟩
    exact ⟨n, rfl, hn⟩) h hs
  refine ⟨p, cap, l, rfl, fun j hj => ?_, hi, hm, hc⟩
  obtain ⟨b, o, hp, hb, hcl⟩ := hr j hj 0 _ rfl
  exact ⟨b, o, hp, hb, by simpa using hcl⟩
theorem open_ins {n : Nat} {cs : List Value} {y : DataW H × List MemPlace} (h : DataW.trod enc Tryz.prog w 0 (fun _ => true) true n 38 cs = some y) (hs : Small 38 y.1) : ∃ x : InsV, cs = InsV.row x ∧ InsAt w x := by
  obtain ⟨hl, hf⟩ := open_fields Tryz.underlying38 (by kernel_rfl) (by kernel_rfl) h hs
  obtain ⟨c0, c1, c2, c3, rfl⟩ := list4 hl
  obtain ⟨x0, rfl, b0⟩ := open_i64 Tryz.underlying3 (hf 0 _ c0 rfl rfl)
  obtain ⟨x1, rfl, b1⟩ := open_i64 Tryz.underlying2 (hf 1 _ c1 rfl rfl)
  obtain ⟨x2, rfl, b2⟩ := open_i64 Tryz.underlying2 (hf 2 _ c2 rfl rfl)
  obtain ⟨p, cap, l, rfl, hi, hin, hm, _⟩ := open_nums (hf 3 _ c3 rfl rfl)
  exact ⟨⟨x0, x1, x2, p, cap, l⟩, rfl, hi, by unfold reachBytes at hm; show l.length ≤ _; omega, b0, b1, b2, hin⟩
theorem open_code {v : Value} (h : Reads enc w 33 v) : ∃ p cap, ∃ l : List InsV, v = .slice p l.length cap ∧ CodeAt w p l ∧ l.length ≤ cap := by
  obtain ⟨m, y, h, hs⟩ := h
  obtain ⟨p, cap, l, rfl, hr, hi, hm, hc⟩ := open_rows (row := InsV.row) (ok := InsAt w) (c := 4) (by0 := 48) Tryz.underlying33 (by kernel_rfl) (by decide) (by kernel_rfl) open_ins h hs
  exact ⟨p, cap, l, rfl, ⟨hr, hi, by unfold reachBytes at hm; omega⟩, hc⟩
theorem open_fn {n : Nat} {cs : List Value} {y : DataW H × List MemPlace} (h : DataW.trod enc Tryz.prog w 0 (fun _ => true) true n 35 cs = some y) (hs : Small 35 y.1) : ∃ x : FnV, cs = FnV.row x ∧ FnAt w x := by
  obtain ⟨hl, hf⟩ := open_fields Tryz.underlying35 (by kernel_rfl) (by kernel_rfl) h hs
  obtain ⟨c0, c1, c2, rfl⟩ := list3 hl
  obtain ⟨x0, rfl, b0⟩ := open_i64 Tryz.underlying3 (hf 0 _ c0 rfl rfl)
  obtain ⟨s, rfl, b1, _⟩ := open_text Tryz.underlying9 (hf 1 _ c1 rfl rfl)
  obtain ⟨p, cap, l, rfl, hi, _⟩ := open_code (hf 2 _ c2 rfl rfl)
  exact ⟨⟨x0, s, p, cap, l⟩, rfl, hi, b1, b0⟩
theorem open_ty {n : Nat} {cs : List Value} {y : DataW H × List MemPlace} (h : DataW.trod enc Tryz.prog w 0 (fun _ => true) true n 51 cs = some y) (hs : Small 51 y.1) : ∃ x : TyV, cs = TyV.row x ∧ (x.params.size ≤ maxLen ∧ x.results.size ≤ maxLen) := by
  obtain ⟨hl, hf⟩ := open_fields Tryz.underlying51 (by kernel_rfl) (by kernel_rfl) h hs
  obtain ⟨c0, c1, rfl⟩ := list2 hl
  obtain ⟨s0, rfl, b0, _⟩ := open_text Tryz.underlying9 (hf 0 _ c0 rfl rfl)
  obtain ⟨s1, rfl, b1, _⟩ := open_text Tryz.underlying9 (hf 1 _ c1 rfl rfl)
  exact ⟨⟨s0, s1⟩, rfl, b0, b1⟩
theorem open_mem {n : Nat} {cs : List Value} {y : DataW H × List MemPlace} (h : DataW.trod enc Tryz.prog w 0 (fun _ => true) true n 47 cs = some y) (hs : Small 47 y.1) : ∃ x : MemV, cs = MemV.row x ∧ (inI64 x.min ∧ inI64 x.max) := by
  obtain ⟨hl, hf⟩ := open_fields Tryz.underlying47 (by kernel_rfl) (by kernel_rfl) h hs
  obtain ⟨c0, c1, rfl⟩ := list2 hl
  obtain ⟨x0, rfl, b0⟩ := open_i64 Tryz.underlying3 (hf 0 _ c0 rfl rfl)
  obtain ⟨x1, rfl, b1⟩ := open_i64 Tryz.underlying3 (hf 1 _ c1 rfl rfl)
  exact ⟨⟨x0, x1⟩, rfl, b0, b1⟩
theorem open_glob {n : Nat} {cs : List Value} {y : DataW H × List MemPlace} (h : DataW.trod enc Tryz.prog w 0 (fun _ => true) true n 71 cs = some y) (hs : Small 71 y.1) : ∃ x : GlobV, cs = GlobV.row x ∧ (inI64 x.type ∧ inI64 x.init) := by
  obtain ⟨hl, hf⟩ := open_fields Tryz.underlying71 (by kernel_rfl) (by kernel_rfl) h hs
  obtain ⟨c0, c1, c2, rfl⟩ := list3 hl
  obtain ⟨x0, rfl, b0⟩ := open_i64 Tryz.underlying3 (hf 0 _ c0 rfl rfl)
  obtain ⟨b, rfl⟩ := open_truth Tryz.underlying4 (hf 1 _ c1 rfl rfl)
  obtain ⟨x2, rfl, b2⟩ := open_i64 Tryz.underlying2 (hf 2 _ c2 rfl rfl)
  exact ⟨⟨x0, b, x2⟩, rfl, b0, b2⟩
theorem open_exp {n : Nat} {cs : List Value} {y : DataW H × List MemPlace} (h : DataW.trod enc Tryz.prog w 0 (fun _ => true) true n 45 cs = some y) (hs : Small 45 y.1) : ∃ x : ExpV, cs = ExpV.row x ∧ (x.name.size ≤ maxLen ∧ inI64 x.kind ∧ inI64 x.index) := by
  obtain ⟨hl, hf⟩ := open_fields Tryz.underlying45 (by kernel_rfl) (by kernel_rfl) h hs
  obtain ⟨c0, c1, c2, rfl⟩ := list3 hl
  obtain ⟨s, rfl, b0, _⟩ := open_text Tryz.underlying9 (hf 0 _ c0 rfl rfl)
  obtain ⟨x1, rfl, b1⟩ := open_i64 Tryz.underlying3 (hf 1 _ c1 rfl rfl)
  obtain ⟨x2, rfl, b2⟩ := open_i64 Tryz.underlying3 (hf 2 _ c2 rfl rfl)
  exact ⟨⟨s, x1, x2⟩, rfl, b0, b1, b2⟩
theorem open_dat {n : Nat} {cs : List Value} {y : DataW H × List MemPlace} (h : DataW.trod enc Tryz.prog w 0 (fun _ => true) true n 73 cs = some y) (hs : Small 73 y.1) : ∃ x : DatV, cs = DatV.row x ∧ (inI64 x.offset ∧ x.bytes.size ≤ maxLen) := by
  obtain ⟨hl, hf⟩ := open_fields Tryz.underlying73 (by kernel_rfl) (by kernel_rfl) h hs
  obtain ⟨c0, c1, rfl⟩ := list2 hl
  obtain ⟨x0, rfl, b0⟩ := open_i64 Tryz.underlying3 (hf 0 _ c0 rfl rfl)
  obtain ⟨s, rfl, b1, _⟩ := open_text Tryz.underlying9 (hf 1 _ c1 rfl rfl)
  exact ⟨⟨x0, s⟩, rfl, b0, b1⟩
/-- A list in a module. -/
theorem open_list {α : Type} {row : α → List Value} {ok : α → Prop} {t e : TypeId} {c by0 : Nat} (ht : Tryz.prog.underlying t = some (.slice e)) (hc : Tryz.prog.cellsOf e = c) (hpos : 0 < c) (hby : Tryz.prog.bytesOf e = by0) (hb0 : 0 < by0)
    (hopen : ∀ {n : Nat} {cs : List Value} {y : DataW H × List MemPlace}, DataW.trod enc Tryz.prog w 0 (fun _ => true) true n e cs = some y → Small e y.1 → ∃ v, cs = row v ∧ ok v) {v : Value} (h : Reads enc w t v) :
    ∃ p cap, ∃ l : List α, v = .slice p l.length cap ∧ RowsAt w p c row l ∧ (∀ y ∈ l, ok y) ∧ l.length ≤ mostThings := by
  obtain ⟨m, y, h, hs⟩ := h
  obtain ⟨p, cap, l, rfl, hr, hi, hm, _⟩ := open_rows ht hc hpos hby hopen h hs
  refine ⟨p, cap, l, rfl, hr, hi, ?_⟩
  have : l.length * 1 ≤ l.length * by0 := Nat.mul_le_mul_left _ hb0
  unfold reachBytes at hm
  unfold mostThings
  omega
theorem open_module {n : Nat} {cs : List Value} {y : DataW H × List MemPlace} (h : DataW.trod enc Tryz.prog w 0 (fun _ => true) true n 31 cs = some y) (hs : Small 31 y.1) : ∃ m : MoV, cs = m.cells ∧ ModAt w m := by
  obtain ⟨hl, hf⟩ := open_fields Tryz.underlying31 (by kernel_rfl) (by kernel_rfl) h hs
  obtain ⟨c0, c1, c2, c3, c4, c5, c6, rfl⟩ := list7 hl
  obtain ⟨tp, tc, types, rfl, t1, t2, t3⟩ := open_list (c := 2) Tryz.underlying24 (by kernel_rfl) (by decide) (by0 := 32) (by kernel_rfl) (by decide) open_ty (hf 0 _ c0 rfl rfl)
  obtain ⟨fp, fc, funcs, rfl, f1, f2, f3⟩ := open_list (c := 3) Tryz.underlying25 (by kernel_rfl) (by decide) (by0 := 48) (by kernel_rfl) (by decide) open_fn (hf 1 _ c1 rfl rfl)
  obtain ⟨mp, mc, memory, rfl, m1, m2, m3⟩ := open_list (c := 2) Tryz.underlying26 (by kernel_rfl) (by decide) (by0 := 16) (by kernel_rfl) (by decide) open_mem (hf 2 _ c2 rfl rfl)
  obtain ⟨gp, gc, globals, rfl, g1, g2, g3⟩ := open_list (c := 3) Tryz.underlying27 (by kernel_rfl) (by decide) (by0 := 24) (by kernel_rfl) (by decide) open_glob (hf 3 _ c3 rfl rfl)
  obtain ⟨ep, ec, exports, rfl, e1, e2, e3⟩ := open_list (c := 3) Tryz.underlying28 (by kernel_rfl) (by decide) (by0 := 32) (by kernel_rfl) (by decide) open_exp (hf 4 _ c4 rfl rfl)
  obtain ⟨st, rfl, s1⟩ := open_i64 Tryz.underlying3 (hf 5 _ c5 rfl rfl)
  obtain ⟨dp, dc, data, rfl, d1, d2, d3⟩ := open_list (c := 2) Tryz.underlying29 (by kernel_rfl) (by decide) (by0 := 24) (by kernel_rfl) (by decide) open_dat (hf 6 _ c6 rfl rfl)
  exact ⟨⟨tp, tc, types, fp, fc, funcs, mp, mc, memory, gp, gc, globals, ep, ec, exports, st, dp, dc, data⟩, rfl, ⟨t1, t2, t3, f1, f2, f3, m1, m2, m3, g1, g2, g3, e1, e2, e3, s1, d1, d2, d3⟩⟩

theorem small_of {ts : List TypeId} {ds : List (DataW H)} (h : (DataW.weightsEach Tryz.prog ts ds).all (· ≤ reachBytes) = true) {j : Nat} {t : TypeId} {d : DataW H} (ht : ts[j]? = some t) (hd : ds[j]? = some d) : Small t d :=
  fun n hn => of_decide_eq_true (List.all_eq_true.1 h n (DataW.weights_mem_each ht hd n hn))
def u8row (n : Int) : List Value := [.int .u8 n]
def u16row (n : Int) : List Value := [.int .u16 n]
/-- A list of bytes, of words, that came in. -/
structure BytesAt (w : World) (p : Option Addr) (l : List Int) : Prop where
  rows : RowsAt w p 1 u8row l
  within : ∀ n ∈ l, 0 ≤ n ∧ n < 256
  most : l.length ≤ mostThings
structure WordsAt (w : World) (p : Option Addr) (l : List Int) : Prop where
  rows : RowsAt w p 1 u16row l
  within : ∀ n ∈ l, 0 ≤ n ∧ n < 65536
  most : l.length ≤ mostThings
theorem open_bytes {v : Value} (h : Reads enc w 61 v) : ∃ p cap, ∃ l : List Int, v = .slice p l.length cap ∧ BytesAt w p l ∧ l.length ≤ cap := by
  obtain ⟨m, y, h, hs⟩ := h
  obtain ⟨p, cap, l, rfl, hr, hi, hm, hc⟩ := open_rows (row := u8row) (ok := fun n => 0 ≤ n ∧ n < 256) (c := 1) (by0 := 1) Tryz.underlying61 (by kernel_rfl) (by decide) (by kernel_rfl) (fun {n cs y} h hs => by
    have hcl : ∃ v, cs = [v] := by
      obtain ⟨n, hn, _, _⟩ := DataW.trod_int Tryz.underlying5 h
      exact ⟨_, hn⟩
    obtain ⟨v, rfl⟩ := hcl
    obtain ⟨n, rfl, hn⟩ := open_u8 Tryz.underlying5 ⟨_, _, h, hs⟩
    exact ⟨n, rfl, hn⟩) h hs
  exact ⟨p, cap, l, rfl, ⟨hr, hi, by unfold reachBytes at hm; unfold mostThings; omega⟩, hc⟩
theorem MoV.val_cells (m : MoV) : m.val = .agg ⟨m.cells⟩ := rfl
end
end Go.Proofs.YtomffpibdinkaaaGreatDoor


namespace Go.Proofs.YtomffpibdinkaaaGreatDoor
open Go Go.ChangeShapes Go.WideShapes Go.ChangeAt Go.RowKit
def boolRow (b : Bool) : List Value := [.bool b]
structure BoolsAt (w : World) (p : Option Addr) (l : List Bool) : Prop where
  rows : RowsAt w p 1 boolRow l
  most : l.length ≤ mostThings
theorem BoolsAt.below {w w' : World} {p : Option Addr} {l : List Bool} {B : Nat} (h : BoolsAt w p l) (hB : Below B w w') (hs : w.heap.size ≤ B) : BoolsAt w' p l := ⟨h.rows.below hB hs, h.most⟩
section
variable {H : Type} {enc : TypeId × Value → H} {w : World}
theorem open_bools {v : Value} (h : Reads enc w 56 v) : ∃ p cap, ∃ l : List Bool, v = .slice p l.length cap ∧ BoolsAt w p l ∧ l.length ≤ cap := by
  obtain ⟨m, y, h, hs⟩ := h
  obtain ⟨p, cap, l, rfl, hr, hi, hm, hc⟩ := open_rows (row := boolRow) (ok := fun _ => True) (c := 1) (by0 := 1) Tryz.underlying56 (by kernel_rfl) (by decide) (by kernel_rfl) (fun {n cs y} h hs => by
    obtain ⟨b, hn, _⟩ := DataW.trod_bool Tryz.underlying4 h
    exact ⟨b, hn, trivial⟩) h hs
  exact ⟨p, cap, l, rfl, ⟨hr, by unfold reachBytes at hm; unfold mostThings; omega⟩, hc⟩
end
end Go.Proofs.YtomffpibdinkaaaGreatDoor
