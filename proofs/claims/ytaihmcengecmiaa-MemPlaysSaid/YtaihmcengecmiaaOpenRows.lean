/-
  Arguments that are lists of structs, opened: from how they read to where they lie. Plain; no statement is proved here.
-/
import Derived.Test.YtaihmcengecmiaaProg
import Derived.Below
import Derived.Deep.Slices
import Derived.Lib.SmallJoins
import Derived.SizedLaws
import Derived.ProofKit
import Derived.OpenShut
namespace Go.Proofs.Ytaihmcengecmiaa
open Go.ChangeShapes Go.WideShapes Go.ChangeAt Go.RowKit
set_option linter.unusedVariables false

def RowsAt {α : Type} (w : World) (p : Option Addr) (c : Nat) (row : α → List Value) (l : List α) : Prop :=
  ∀ j (hj : j < l.length) (i : Nat) (v : Value), (row l[j])[i]? = some v → ∃ b o, p = some ⟨b, o, none⟩ ∧ b < w.heap.size ∧ w.cell? ⟨b, o + j * c + i, none⟩ = some v
theorem RowsAt.below {α : Type} {w w' : World} {p : Option Addr} {c : Nat} {row : α → List Value} {l : List α} {B : Nat} (h : RowsAt w p c row l) (hB : Below B w w') (hs : w.heap.size ≤ B) : RowsAt w' p c row l := fun j hj i v hv => by
  obtain ⟨b, o, hp, hb, hc⟩ := h j hj i v hv
  exact ⟨b, o, hp, Nat.lt_of_lt_of_le hb hB.size, by rw [hB.cell (p := ⟨b, o + j * c + i, none⟩) (by show b < B; omega)]; exact hc⟩
theorem RowsAt.nil {α : Type} {w : World} {p : Option Addr} {c : Nat} {row : α → List Value} : RowsAt w p c row [] := fun j hj => absurd hj (by simp)
theorem RowsAt.start {α : Type} {w : World} {p : Option Addr} {c : Nat} {row : α → List Value} {l : List α} (h : RowsAt w p c row l) {j : Nat} (hj : j < l.length) {v : Value} {r : List Value} (hr : row l[j] = v :: r) : ∃ b o, p = some ⟨b, o, none⟩ ∧ b < w.heap.size := by
  obtain ⟨b, o, hp, hb, _⟩ := h j hj 0 v (by rw [hr]; rfl)
  exact ⟨b, o, hp, hb⟩
theorem RowsAt.cell {α : Type} {w : World} {b o : Nat} {c : Nat} {row : α → List Value} {l : List α} (h : RowsAt w (some ⟨b, o, none⟩) c row l) {j : Nat} (hj : j < l.length) (i : Nat) {v : Value} (hv : (row l[j])[i]? = some v) : w.cell? ⟨b, o + j * c + i, none⟩ = some v := by
  obtain ⟨b', o', e, _, hc⟩ := h j hj i v hv
  injection e with e; injection e with e1 e2; subst e1; subst e2; exact hc
def inI64 (n : Int) : Prop := -9223372036854775808 ≤ n ∧ n ≤ 9223372036854775807
def Small {H : Type} (t : TypeId) (d : DataW H) : Prop := ∀ n ∈ d.weights Try.prog t, n ≤ reachBytes
section
variable {H : Type} {enc : TypeId × Value → H} {w : World}
theorem Small.part {t : TypeId} {fs : Array Field} {ds : List (DataW H)} (h : Small t (.agg ds)) (ht : Try.prog.underlying t = some (.struct fs)) {i : Nat} {f : Field} {d : DataW H} (hf : fs[i]? = some f) (hd : ds[i]? = some d) : Small f.type d := by
  intro n hn
  refine h n ?_
  unfold DataW.weights
  rw [ht]
  refine DataW.weights_mem_each (j := i) (t := f.type) (d := d) ?_ hd n hn
  simp [hf]
theorem mem_weightsAll {e : TypeId} {d : DataW H} {n : Nat} (hn : n ∈ d.weights Try.prog e) : ∀ {l : List (DataW H)}, d ∈ l → n ∈ DataW.weightsAll Try.prog e l
  | [], h => by cases h
  | x :: l, h => by
    unfold DataW.weightsAll
    rcases List.mem_cons.1 h with rfl | h1
    · exact List.mem_append_left _ hn
    · exact List.mem_append_right _ (mem_weightsAll hn h1)
theorem Small.elem {t e : TypeId} {l s : List (DataW H)} (h : Small t (.slice l s)) (ht : Try.prog.underlying t = some (.slice e)) {d : DataW H} (hd : d ∈ l) : Small e d := by
  intro n hn
  refine h n ?_
  unfold DataW.weights
  rw [ht]
  exact List.mem_cons_of_mem _ (List.mem_append_left _ (mem_weightsAll hn hd))
theorem Small.room {t e : TypeId} {l s : List (DataW H)} (h : Small t (.slice l s)) (ht : Try.prog.underlying t = some (.slice e)) : (l.length + s.length) * Try.prog.bytesOf e ≤ reachBytes := by
  refine h _ ?_
  unfold DataW.weights
  rw [ht]
  exact List.mem_cons_self
theorem Small.text {t : TypeId} {s : List UInt8} (h : Small (H := H) t (.lit (.string s))) : s.length ≤ reachBytes := h _ (by unfold DataW.weights; exact List.mem_cons_self)
theorem list_of {α : Type} {p : Nat → α → Prop} : ∀ (n : Nat), (∀ i, i < n → ∃ v, p i v) → ∃ l : List α, l.length = n ∧ ∀ i (h : i < l.length), p i l[i]
  | 0, _ => ⟨[], rfl, fun i h => absurd h (by simp)⟩
  | n + 1, h => by
    obtain ⟨l, hl, hp⟩ := list_of n fun i hi => h i (by omega)
    obtain ⟨v, hv⟩ := h n (by omega)
    refine ⟨l ++ [v], by simp [hl], fun i hi => ?_⟩
    by_cases hin : i < l.length
    · rw [List.getElem_append_left hin]; exact hp i hin
    · have : i = n := by simp at hi; omega
      subst this
      simp [hl, hv]
theorem cell_lt {a : Addr} {v : Value} (h : w.cell? a = some v) : ∃ b o, a = ⟨b, o, none⟩ ∧ b < w.heap.size := by
  obtain ⟨b, o, s⟩ := a
  obtain rfl : s = none := World.cell?_spot h
  refine ⟨b, o, rfl, ?_⟩
  by_cases hb : b < w.heap.size
  · exact hb
  · simp [World.cell?, Array.getElem?_eq_none (by omega : w.heap.size ≤ b)] at h
theorem open_rows {α : Type} {row : α → List Value} {ok : α → Prop} {t e : TypeId} {c by0 : Nat} (ht : Try.prog.underlying t = some (.slice e)) (hc : Try.prog.cellsOf e = c) (hpos : 0 < c) (hby : Try.prog.bytesOf e = by0)
    (hopen : ∀ {n : Nat} {cs : List Value} {y : DataW H × List MemPlace}, DataW.trod enc Try.prog w 0 (fun _ => true) true n e cs = some y → Small e y.1 → ∃ v, cs = row v ∧ ok v)
    {fuel : Nat} {v : Value} {x : DataW H × List MemPlace} (h : DataW.trod enc Try.prog w 0 (fun _ => true) true fuel t [v] = some x) (hs : Small t x.1) :
    ∃ p cap, ∃ l : List α, v = .slice p l.length cap ∧ RowsAt w p c row l ∧ (∀ y ∈ l, ok y) ∧ l.length * by0 ≤ reachBytes ∧ l.length ≤ cap := by
  rcases Go.Deep.open_slice ht h with ⟨h0, rfl⟩ | ⟨a, len, cap, m, n, D, Pl, hcs, _, hl, _, hm, rfl, hx⟩
  · simp only [List.cons.injEq, and_true] at h0
    exact ⟨none, 0, [], h0, RowsAt.nil, (fun y hy => by cases hy), by simp, by simp⟩
  · simp only [List.cons.injEq, and_true] at hcs
    subst hcs
    simp only [if_true] at hm
    subst hm
    have hall : ∀ i, i < len → ∃ v, w.cells? 0 (a.add (i * Try.prog.cellsOf e)) (Try.prog.cellsOf e) = some (row v) ∧ ok v := fun i hi => by
      obtain ⟨cs', h1, h2⟩ := hx i (by omega)
      obtain ⟨v, rfl, hv⟩ := hopen h2 (hs.elem ht (List.mem_map.2 ⟨i, List.mem_range.2 hi, rfl⟩))
      exact ⟨v, h1, hv⟩
    obtain ⟨l, hlen, hp⟩ := list_of len hall
    refine ⟨some a, m, l, by rw [hlen], fun j hj i v hv => ?_, fun y hy => ?_, ?_, by omega⟩
    · have h0 : 0 < l.length := by omega
      have hp0 := (hp 0 h0).1
      rw [hc] at hp0
      obtain ⟨_, hln0, hcell0⟩ := World.cells?_some hp0
      have hc0 := (hcell0 0 hpos).trans (List.getElem?_eq_getElem (by omega))
      rw [Nat.zero_mul, show (a.add 0).add 0 = a from rfl] at hc0
      obtain ⟨b, o, rfl, hb⟩ := cell_lt hc0
      have hpj := (hp j hj).1
      rw [hc] at hpj
      obtain ⟨_, hln, hcell⟩ := World.cells?_some hpj
      have hi : i < c := by have := (List.getElem?_eq_some_iff.1 hv).1; omega
      have hcl := (hcell i hi).trans hv
      rw [Go.WideShapes.add_plain, Go.WideShapes.add_plain] at hcl
      exact ⟨b, o, rfl, hb, hcl⟩
    · obtain ⟨j, hj, rfl⟩ := List.getElem_of_mem hy
      exact (hp j hj).2
    · have hr := hs.room ht
      rw [hby] at hr
      simp only [List.length_map, List.length_range] at hr
      rw [hlen]
      exact Nat.le_trans (Nat.mul_le_mul_right _ (by omega)) hr
theorem open_fields {t : TypeId} {fs : Array Field} (ht : Try.prog.underlying t = some (.struct fs)) (hone : Go.Deep.oneCellFields Try.prog fs = true) (hc : Try.prog.cellsOf t = fs.size) {n : Nat} {cs : List Value} {x : DataW H × List MemPlace} (h : DataW.trod enc Try.prog w 0 (fun _ => true) true n t cs = some x) (hs : Small t x.1) :
    cs.length = fs.size ∧ ∀ (i : Nat) (f : Field) (v : Value), fs[i]? = some f → cs[i]? = some v → ∃ m y, DataW.trod enc Try.prog w 0 (fun _ => true) true m f.type [v] = some y ∧ Small f.type y.1 := by
  obtain ⟨xs, m, _, rfl, hl, hlen, hf⟩ := DataW.trod_struct ht h
  refine ⟨hl.trans hc, fun i f v hfi hv => ?_⟩
  have hk := hf i f hfi
  have hone' := Go.Deep.hone_of hone i f hfi
  have hi : i < fs.size := (Array.getElem?_eq_some_iff.1 hfi).1
  rw [hone'.1, hone'.2] at hk
  have hcs : (cs.drop i).take 1 = [v] := by
    have hi' : i < cs.length := (List.getElem?_eq_some_iff.1 hv).1
    rw [List.drop_eq_getElem_cons hi', (List.getElem?_eq_some_iff.1 hv).2]; rfl
  rw [hcs, List.getElem?_eq_getElem (by omega)] at hk
  refine ⟨m, _, hk, hs.part ht hfi (d := xs[i].1) ?_⟩
  simp [List.getElem?_eq_getElem (show i < xs.length by omega)]
theorem open_i64 {t : TypeId} (ht : Try.prog.underlying t = some (.int .i64)) {v : Value} (h : ∃ m y, DataW.trod enc Try.prog w 0 (fun _ => true) true m t [v] = some y ∧ Small t y.1) : ∃ n, v = .int .i64 n ∧ inI64 n := by
  obtain ⟨m, y, h, _⟩ := h
  obtain ⟨n, hn, _, hw⟩ := DataW.trod_int ht h
  simp only [List.cons.injEq, and_true] at hn
  exact ⟨n, hn, bounds_i64 hw⟩
theorem open_u8 {t : TypeId} (ht : Try.prog.underlying t = some (.int .u8)) {v : Value} (h : ∃ m y, DataW.trod enc Try.prog w 0 (fun _ => true) true m t [v] = some y ∧ Small t y.1) : ∃ n, v = .int .u8 n ∧ 0 ≤ n ∧ n < 256 := by
  obtain ⟨m, y, h, _⟩ := h
  obtain ⟨n, hn, _, hw⟩ := DataW.trod_int ht h
  simp only [List.cons.injEq, and_true] at hn
  have := bounds_u8 hw
  exact ⟨n, hn, by omega, by omega⟩
theorem open_text {t : TypeId} (ht : Try.prog.underlying t = some .string) {v : Value} (h : ∃ m y, DataW.trod enc Try.prog w 0 (fun _ => true) true m t [v] = some y ∧ Small t y.1) : ∃ s : ByteArray, v = .string s ∧ s.size ≤ maxLen ∧ s.size ≤ reachBytes := by
  obtain ⟨m, y, h, hs⟩ := h
  obtain ⟨s, hn, hy, hw⟩ := DataW.trod_string ht h
  simp only [List.cons.injEq, and_true] at hn
  subst hy
  have := hs.text
  exact ⟨s, hn, hw, by simpa using this⟩
theorem open_truth {t : TypeId} (ht : Try.prog.underlying t = some .bool) {v : Value} (h : ∃ m y, DataW.trod enc Try.prog w 0 (fun _ => true) true m t [v] = some y ∧ Small t y.1) : ∃ b, v = .bool b := by
  obtain ⟨m, y, h, _⟩ := h
  obtain ⟨b, hn, _⟩ := DataW.trod_bool ht h
  simp only [List.cons.injEq, and_true] at hn
  exact ⟨b, hn⟩
theorem small_of {ts : List TypeId} {ds : List (DataW H)} (h : (DataW.weightsEach Try.prog ts ds).all (· ≤ reachBytes) = true) {j : Nat} {t : TypeId} {d : DataW H} (ht : ts[j]? = some t) (hd : ds[j]? = some d) : Small t d :=
  fun n hn => of_decide_eq_true (List.all_eq_true.1 h n (DataW.weights_mem_each ht hd n hn))
theorem open_u64 {t : TypeId} (ht : Try.prog.underlying t = some (.int .u64)) {v : Value} (h : ∃ m y, DataW.trod enc Try.prog w 0 (fun _ => true) true m t [v] = some y ∧ Small t y.1) : ∃ n, v = .int .u64 n ∧ 0 ≤ n ∧ n ≤ 18446744073709551615 := by
  obtain ⟨m, y, h, _⟩ := h
  obtain ⟨n, hn, _, hw⟩ := DataW.trod_int ht h
  simp only [List.cons.injEq, and_true] at hn
  have := bounds_u64 hw
  exact ⟨n, hn, by omega, by omega⟩
end
end Go.Proofs.Ytaihmcengecmiaa
