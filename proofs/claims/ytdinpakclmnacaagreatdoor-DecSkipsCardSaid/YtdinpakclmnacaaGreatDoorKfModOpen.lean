/-
  Facts and contracts that the proof calls.
-/
import Derived.Test.YtdinpakclmnacaaGreatDoorKfOpRefRows
import Derived.Lib.SmallJoins
namespace Go.Proofs.YtdinpakclmnacaaGreatDoor
set_option maxRecDepth 100000
set_option maxHeartbeats 16000000
open Go.ChangeShapes Go.WideShapes Go.ChangeAt Go.RowKit
def Small {H : Type} (t : TypeId) (d : DataW H) : Prop := ∀ n ∈ d.weights Tryz.prog t, n ≤ reachBytes
section
variable {H : Type} {enc : TypeId × Value → H} {w : World}
theorem Small.part {t : TypeId} {fs : Array Field} {ds : List (DataW H)} (h : Small t (.agg ds)) (ht : Tryz.prog.underlying t = some (.struct fs)) {i : Nat} {f : Field} {d : DataW H} (hf : fs[i]? = some f) (hd : ds[i]? = some d) : Small f.type d := by
  intro n hn
  refine h n ?_
  unfold DataW.weights
  rw [ht]
  refine DataW.weights_mem_each (j := i) (t := f.type) (d := d) ?_ hd n hn
  simp [hf]
theorem mem_weightsAll {e : TypeId} {d : DataW H} {n : Nat} (hn : n ∈ d.weights Tryz.prog e) : ∀ {l : List (DataW H)}, d ∈ l → n ∈ DataW.weightsAll Tryz.prog e l
  | [], h => by cases h
  | x :: l, h => by
    unfold DataW.weightsAll
    rcases List.mem_cons.1 h with rfl | h1
    · exact List.mem_append_left _ hn
    · exact List.mem_append_right _ (mem_weightsAll hn h1)
theorem Small.elem {t e : TypeId} {l s : List (DataW H)} (h : Small t (.slice l s)) (ht : Tryz.prog.underlying t = some (.slice e)) {d : DataW H} (hd : d ∈ l) : Small e d := by
  intro n hn
  refine h n ?_
  unfold DataW.weights
  rw [ht]
  exact List.mem_cons_of_mem _ (List.mem_append_left _ (mem_weightsAll hn hd))
theorem Small.room {t e : TypeId} {l s : List (DataW H)} (h : Small t (.slice l s)) (ht : Tryz.prog.underlying t = some (.slice e)) : (l.length + s.length) * Tryz.prog.bytesOf e ≤ reachBytes := by
  refine h _ ?_
  unfold DataW.weights
  rw [ht]
  exact List.mem_cons_self
theorem list_of {α : Type} {p : Nat → α → Prop} : ∀ (n : Nat), (∀ i, i < n → ∃ v, p i v) → ∃ l : List α, l.length = n ∧ ∀ i (h : i < l.length), p i l[i]
  | 0, _ => ⟨[], rfl, fun i h => absurd h (by simp)⟩
  | n + 1, h => by
    obtain ⟨l, hl, hp⟩ := list_of n fun i hi => h i (by omega)
    obtain ⟨v, hv⟩ := h n (by omega)
    refine ⟨l ++ [v], by simp [hl], fun i hi => ?_⟩
    by_cases hin : i < l.length
    · rw [List.getElem_append_left hin]; exact hp i hin
    · have : i = n := by simp at hi; omega
      subst this
      simp [hl, hv]
theorem cell_lt {a : Addr} {v : Value} (h : w.cell? a = some v) : ∃ b o, a = ⟨b, o, none⟩ ∧ b < w.heap.size := by
  obtain ⟨b, o, s⟩ := a
  obtain rfl : s = none := World.cell?_spot h
  refine ⟨b, o, rfl, ?_⟩
  by_cases hb : b < w.heap.size
  · exact hb
  · simp [World.cell?, Array.getElem?_eq_none (by omega : w.heap.size ≤ b)] at h
theorem open_rows {α : Type} {row : α → List Value} {ok : α → Prop} {t e : TypeId} {c by0 : Nat} (ht : Tryz.prog.underlying t = some (.slice e)) (hc : Tryz.prog.cellsOf e = c) (hpos : 0 < c) (hby : Tryz.prog.bytesOf e = by0)
    (hopen : ∀ {n : Nat} {cs : List Value} {y : DataW H × List MemPlace}, DataW.trod enc Tryz.prog w 0 (fun _ => true) true n e cs = some y → Small e y.1 → ∃ v, cs = row v ∧ ok v)
    {fuel : Nat} {v : Value} {x : DataW H × List MemPlace} (h : DataW.trod enc Tryz.prog w 0 (fun _ => true) true fuel t [v] = some x) (hs : Small t x.1) :
    ∃ p cap, ∃ l : List α, v = .slice p l.length cap ∧ RowsAt w p c row l ∧ (∀ y ∈ l, ok y) ∧ l.length * by0 ≤ reachBytes ∧ l.length ≤ cap := by
  rcases Go.Deep.open_slice ht h with ⟨h0, rfl⟩ | ⟨a, len, cap, m, n, D, Pl, hcs, _, hl, _, hm, rfl, hx⟩
  · simp only [List.cons.injEq, and_true] at h0
    exact ⟨none, 0, [], h0, RowsAt.nil, (fun y hy => by cases hy), by simp, by simp⟩
  · simp only [List.cons.injEq, and_true] at hcs
    subst hcs
    simp only [if_true] at hm
    subst hm
    have hall : ∀ i, i < len → ∃ v, w.cells? 0 (a.add (i * Tryz.prog.cellsOf e)) (Tryz.prog.cellsOf e) = some (row v) ∧ ok v := fun i hi => by
      obtain ⟨cs', h1, h2⟩ := hx i (by omega)
      obtain ⟨v, rfl, hv⟩ := hopen h2 (hs.elem ht (List.mem_map.2 ⟨i, List.mem_range.2 hi, rfl⟩))
      exact ⟨v, h1, hv⟩
    obtain ⟨l, hlen, hp⟩ := list_of len hall
    refine ⟨some a, m, l, by rw [hlen], fun j hj i v hv => ?_, fun y hy => ?_, ?_, by omega⟩
    · have h0 : 0 < l.length := by omega
      have hp0 := (hp 0 h0).1
      rw [hc] at hp0
      obtain ⟨_, hln0, hcell0⟩ := World.cells?_some hp0
      have hc0 := (hcell0 0 hpos).trans (List.getElem?_eq_getElem (by omega))
      rw [Nat.zero_mul, show (a.add 0).add 0 = a from rfl] at hc0
      obtain ⟨b, o, rfl, hb⟩ := cell_lt hc0
      have hpj := (hp j hj).1
      rw [hc] at hpj
      obtain ⟨_, hln, hcell⟩ := World.cells?_some hpj
      have hi : i < c := by have := (List.getElem?_eq_some_iff.1 hv).1; omega
      have hcl := (hcell i hi).trans hv
      rw [Go.WideShapes.add_plain, Go.WideShapes.add_plain] at hcl
      exact ⟨b, o, rfl, hb, hcl⟩
    · obtain ⟨j, hj, rfl⟩ := List.getElem_of_mem hy
      exact (hp j hj).2
    · have hr := hs.room ht
      rw [hby] at hr
      simp only [List.length_map, List.length_range] at hr
      rw [hlen]
      exact Nat.le_trans (Nat.mul_le_mul_right _ (by omega)) hr
theorem open_fields {t : TypeId} {fs : Array Field} (ht : Tryz.prog.underlying t = some (.struct fs)) (hone : Go.Deep.oneCellFields Tryz.prog fs = true) (hc : Tryz.prog.cellsOf t = fs.size) {n : Nat} {cs : List Value} {x : DataW H × List MemPlace} (h : DataW.trod enc Tryz.prog w 0 (fun _ => true) true n t cs = some x) (hs : Small t x.1) :
    cs.length = fs.size ∧ ∀ (i : Nat) (f : Field) (v : Value), fs[i]? = some f → cs[i]? = some v → ∃ m y, DataW.trod enc Tryz.prog w 0 (fun _ => true) true m f.type [v] = some y ∧ Small f.type y.1 := by
  obtain ⟨xs, m, _, rfl, hl, hlen, hf⟩ := DataW.trod_struct ht h
  refine ⟨hl.trans hc, fun i f v hfi hv => ?_⟩
  have hk := hf i f hfi
  have hone' := Go.Deep.hone_of hone i f hfi
  have hi : i < fs.size := (Array.getElem?_eq_some_iff.1 hfi).1
  rw [hone'.1, hone'.2] at hk
  have hcs : (cs.drop i).take 1 = [v] := by
    have hi' : i < cs.length := (List.getElem?_eq_some_iff.1 hv).1
    rw [List.drop_eq_getElem_cons hi', (List.getElem?_eq_some_iff.1 hv).2]; rfl
  rw [hcs, List.getElem?_eq_getElem (by omega)] at hk
  refine ⟨m, _, hk, hs.part ht hfi (d := xs[i].1) ?_⟩
  simp [List.getElem?_eq_getElem (show i < xs.length by omega)]
theorem open_i64 {t : TypeId} (ht : Tryz.prog.underlying t = some (.int .i64)) {v : Value} (h : ∃ m y, DataW.trod enc Tryz.prog w 0 (fun _ => true) true m t [v] = some y ∧ Small t y.1) : ∃ n, v = .int .i64 n ∧ inI64 n := by
  obtain ⟨m, y, h, _⟩ := h
  obtain ⟨n, hn, _, hw⟩ := DataW.trod_int ht h
  simp only [List.cons.injEq, and_true] at hn
  exact ⟨n, hn, bounds_i64 hw⟩
theorem open_u8 {t : TypeId} (ht : Tryz.prog.underlying t = some (.int .u8)) {v : Value} (h : ∃ m y, DataW.trod enc Tryz.prog w 0 (fun _ => true) true m t [v] = some y ∧ Small t y.1) : ∃ n, v = .int .u8 n ∧ 0 ≤ n ∧ n < 256 := by
  obtain ⟨m, y, h, _⟩ := h
  obtain ⟨n, hn, _, hw⟩ := DataW.trod_int ht h
  simp only [List.cons.injEq, and_true] at hn
  have := bounds_u8 hw
  exact ⟨n, hn, by omega, by omega⟩
theorem list4 {α : Type} {l : List α} (h : l.length = 4) : ∃ a b c d, l = [a, b, c, d] := by
  match l, h with
  | [a, b, c, d], _ => exact ⟨a, b, c, d, rfl⟩
abbrev Reads (enc : TypeId × Value → H) (w : World) (t : TypeId) (v : Value) : Prop := ∃ m y, DataW.trod enc Tryz.prog w 0 (fun _ => true) true m t [v] = some y ∧ Small t y.1
theorem open_nums {v : Value} (h : Reads enc w 23 v) : ∃ p cap, ∃ l : List Int, v = .slice p l.length cap ∧ IntsAt w p l ∧ (∀ y ∈ l, inI64 y) ∧ l.length * 8 ≤ reachBytes ∧ l.length ≤ cap := by
  obtain ⟨m, y, h, hs⟩ := h
  obtain ⟨p, cap, l, rfl, hr, hi, hm, hc⟩ := open_rows (row := fun n : Int => [.int .i64 n]) (ok := inI64) (c := 1) (by0 := 8) Tryz.underlying23 (by kernel_rfl) (by decide) (by kernel_rfl) (fun {n cs y} h hs => by
    have hcl : ∃ v, cs = [v] := by
      obtain ⟨n, hn, _, _⟩ := DataW.trod_int Tryz.underlying3 h
      exact ⟨_, hn⟩
    obtain ⟨v, rfl⟩ := hcl
    obtain ⟨n, rfl, hn⟩ := open_i64 Tryz.underlying3 ⟨_, _, h, hs⟩
    exact ⟨n, rfl, hn⟩) h hs
  refine ⟨p, cap, l, rfl, fun j hj => ?_, hi, hm, hc⟩
  obtain ⟨b, o, hp, hb, hcl⟩ := hr j hj 0 _ rfl
  exact ⟨b, o, hp, hb, by simpa using hcl⟩
theorem small_of {ts : List TypeId} {ds : List (DataW H)} (h : (DataW.weightsEach Tryz.prog ts ds).all (· ≤ reachBytes) = true) {j : Nat} {t : TypeId} {d : DataW H} (ht : ts[j]? = some t) (hd : ds[j]? = some d) : Small t d :=
  fun n hn => of_decide_eq_true (List.all_eq_true.1 h n (DataW.weights_mem_each ht hd n hn))
def u8row (n : Int) : List Value := [.int .u8 n]
structure BytesAt (w : World) (p : Option Addr) (l : List Int) : Prop where
  rows : RowsAt w p 1 u8row l
  within : ∀ n ∈ l, 0 ≤ n ∧ n < 256
  most : l.length ≤ mostThings
theorem open_bytes {v : Value} (h : Reads enc w 24 v) : ∃ p cap, ∃ l : List Int, v = .slice p l.length cap ∧ BytesAt w p l ∧ l.length ≤ cap := by
  obtain ⟨m, y, h, hs⟩ := h
  obtain ⟨p, cap, l, rfl, hr, hi, hm, hc⟩ := open_rows (row := u8row) (ok := fun n => 0 ≤ n ∧ n < 256) (c := 1) (by0 := 1) Tryz.underlying24 (by kernel_rfl) (by decide) (by kernel_rfl) (fun {n cs y} h hs => by
    have hcl : ∃ v, cs = [v] := by
      obtain ⟨n, hn, _, _⟩ := DataW.trod_int Tryz.underlying5 h
      exact ⟨_, hn⟩
    obtain ⟨v, rfl⟩ := hcl
    obtain ⟨n, rfl, hn⟩ := open_u8 Tryz.underlying5 ⟨_, _, h, hs⟩
    exact ⟨n, rfl, hn⟩) h hs
  exact ⟨p, cap, l, rfl, ⟨hr, hi, by unfold reachBytes at hm; unfold mostThings; omega⟩, hc⟩
end
end Go.Proofs.YtdinpakclmnacaaGreatDoor
