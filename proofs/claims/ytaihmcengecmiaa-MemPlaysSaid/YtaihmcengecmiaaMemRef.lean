/-
  The document's own memory: made, grown, asked, loaded, stored, read, written. Contracts that the proofs call; no statement is proved here.
-/
import Derived.Test.YtaihmcengecmiaaMemZeros
import Derived.Laws.MakeOwn
namespace Go.Proofs.Ytaihmcengecmiaa
open Go.RowKit Go.Maps
set_option linter.unusedVariables false
set_option linter.unusedSimpArgs false
variable {O O' : Nat → Prop} {B b n : Nat} {m : Int} {f : Nat → UInt8} {g cap : Nat} {cur : Array Value} {w w' w'' : World}

structure RefIs (O : Nat → Prop) (B b n : Nat) (m : Int) (f : Nat → UInt8) (g cap : Nat) (cur : Array Value) (w : World) : Prop where
  box : w.heap[b]? = some (.cells #[.slice (some ⟨g, 0, none⟩) (n * 65536) cap, .int .i64 m] 58 (0, 0))
  row : w.heap[g]? = some (.cells cur 5 (0, 0))
  size : cur.size = cap
  fit : n * 65536 ≤ cap
  capm : cap ≤ maxLen
  at' : ∀ i, i < n * 65536 → cur[i]? = some (.int .u8 ((f i).toNat : Int))
  zero : ∀ i, n * 65536 ≤ i → f i = 0
  top : n ≤ 256
  ob : O b
  og : O g
  low : ∀ k, O k → B ≤ k ∧ k < w.heap.size
def RefAt (O : Nat → Prop) (B b n : Nat) (m : Int) (f : Nat → UInt8) (w : World) : Prop := ∃ g cap cur, RefIs O B b n m f g cap cur w
theorem RefIs.cells (h : RefIs O B b n m f g cap cur w) : w.cell? ⟨b, 0, none⟩ = some (.slice (some ⟨g, 0, none⟩) (n * 65536) cap) ∧ w.cell? ⟨b, 1, none⟩ = some (.int .i64 m) := by simp [World.cell?, h.box]
theorem RefAt.kept (h : RefAt O B b n m f w) (hk : Kept O' w w') (ha : ∀ k, O k → ¬ O' k) : RefAt O B b n m f w' := by
  obtain ⟨g, cap, cur, h⟩ := h
  have hb : ∀ k, O k → w'.heap[k]? = w.heap[k]? := fun k hO => hk.block k (h.low k hO).2 (ha k hO)
  exact ⟨g, cap, cur, (hb b h.ob).trans h.box, (hb g h.og).trans h.row, h.size, h.fit, h.capm, h.at', h.zero, h.top, h.ob, h.og, fun k hO => ⟨(h.low k hO).1, Nat.lt_of_lt_of_le (h.low k hO).2 hk.size⟩⟩
theorem RefAt.below (h : RefAt O B b n m f w) (hb : Below w.heap.size w w') : RefAt O B b n m f w' := h.kept (Kept.of_below hb (fun _ => False)) (fun _ _ e => e)
theorem RefAt.low (h : RefAt O B b n m f w) : ∀ k, O k → B ≤ k ∧ k < w.heap.size := by
  obtain ⟨g, cap, cur, h⟩ := h
  exact h.low
theorem RefAt.keeps (h : RefAt O B b n m f w) (hB : B ≤ w.heap.size) (hk : Kept O w w') : Below B w w' := hk.below (fun k hk => (h.low k hk).1) hB
theorem RefIs.byte (h : RefIs O B b n m f g cap cur w) (a : Nat) (ha : a < n * 65536) : w.cell? ⟨g, a, none⟩ = some (.int .u8 ((f a).toNat : Int)) ∧ w.frozen? ⟨g, a, none⟩ = false := by
  refine ⟨?_, by simp [World.frozen?, h.row]⟩
  simp only [World.cell?, h.row]
  simpa using h.at' a ha
theorem RefIs.ne (h : RefIs O B b n m f g cap cur w) : g ≠ b := fun e => by
  subst e
  have := h.box.symm.trans h.row
  simp at this
/-- A byte is set. -/
theorem RefIs.set (h : RefIs O B b n m f g cap cur w) (a : Nat) (ha : a < n * 65536) (c : UInt8) : RefIs O B b n m (fun i => if i = a then c else f i) g cap (cur.setIfInBounds a (.int .u8 (c.toNat : Int))) (w.setCell ⟨g, a, none⟩ (.int .u8 (c.toNat : Int))) := by
  refine ⟨(Below.heap_setCell _ _ _ _ (Ne.symm h.ne)).trans h.box, heap_setCell_same w g a _ _ _ h.row, by simpa using h.size, h.fit, h.capm, fun i hi => ?_, fun i hi => by rw [if_neg (by omega)]; exact h.zero i hi, h.top, h.ob, h.og, fun k hO => ⟨(h.low k hO).1, by rw [setCell_size]; exact (h.low k hO).2⟩⟩
  rw [Array.getElem?_setIfInBounds]
  have := h.size
  have := h.fit
  by_cases e : a = i
  · rw [if_pos e, if_pos (by omega), if_pos e.symm]
  · rw [if_neg e, if_neg (fun x => e x.symm)]
    exact h.at' i hi
set_option maxRecDepth 100000 in
set_option maxHeartbeats 1000000 in
theorem rpages_is (h : RefAt O B b n m f w) : Calls Try.prog 13 #[.pointer (some ⟨b, 0, none⟩)] w fun e w' => e = .returned (.int .i64 n) ∧ w = w' := by
  obtain ⟨g, cap, cur, h⟩ := h
  obtain ⟨c0, c1⟩ := h.cells
  have htop := h.top
  clear h
  have e1 : ((n : Int) * 65536) / 65536 = n := by omega
  go_enter Try.func13, Try.ntmps13
  go_wp2
  go_ret
  exact ⟨rfl, rfl⟩
set_option maxRecDepth 100000 in
set_option maxHeartbeats 1000000 in
theorem rhas_is (h : RefAt O B b n m f w) (at' : Nat) (hat : at' < 18446744073709551616) (size : Int) (h1 : -9223372036854775808 ≤ size) (h2 : size ≤ 9223372036854775807) :
    Calls Try.prog 33 #[.pointer (some ⟨b, 0, none⟩), .int .u64 at', .int .i64 size] w fun e w' => e = .returned (.bool (inN n at' size)) ∧ w = w' := by
  obtain ⟨g, cap, cur, h⟩ := h
  obtain ⟨c0, c1⟩ := h.cells
  have htop := h.top
  clear h
  have hn : (n : Int) ≤ 256 := by omega
  unfold inN
  by_cases g1 : 0 ≤ size
  · by_cases g2 : (at' : Int) ≤ n * 65536
    · by_cases g3 : size ≤ n * 65536 - at'
      · rw [decide_eq_true ⟨g1, g2, g3⟩]
        go_enter Try.func33, Try.ntmps33
        go_wp2
        go_ret
        exact ⟨rfl, rfl⟩
      · rw [decide_eq_false (fun e => g3 e.2.2)]
        go_enter Try.func33, Try.ntmps33
        go_wp2
        go_ret
        exact ⟨rfl, rfl⟩
    · rw [decide_eq_false (fun e => g2 e.2.1)]
      go_enter Try.func33, Try.ntmps33
      go_wp2
      go_ret
      exact ⟨rfl, rfl⟩
  · rw [decide_eq_false (fun e => g1 e.1)]
    go_enter Try.func33, Try.ntmps33
    go_wp2
    go_ret
    exact ⟨rfl, rfl⟩
set_option maxRecDepth 100000 in
set_option maxHeartbeats 1000000 in
theorem width_is (size : Int) (w : World) : Calls Try.prog 34 #[.int .i64 size] w fun e w' => e = .returned (.bool (isSize size)) ∧ w = w' := by
  by_cases hs : isSize size = true
  · rw [hs]
    have hc : size = 1 ∨ size = 2 ∨ size = 4 ∨ size = 8 := by unfold isSize at hs; exact of_decide_eq_true hs
    clear hs
    rcases hc with rfl | rfl | rfl | rfl
    all_goals
      go_enter Try.func34, Try.ntmps34
      go_wp2
      go_ret
      exact ⟨rfl, rfl⟩
  · have hs' : isSize size = false := by simpa using hs
    rw [hs']
    have hc : ¬ (size = 1 ∨ size = 2 ∨ size = 4 ∨ size = 8) := by unfold isSize at hs'; exact of_decide_eq_false hs'
    have e1 : (size == 1) = false := beq_eq_false_iff_ne.2 (by omega)
    have e2 : (size == 2) = false := beq_eq_false_iff_ne.2 (by omega)
    have e4 : (size == 4) = false := beq_eq_false_iff_ne.2 (by omega)
    have e8 : (size == 8) = false := beq_eq_false_iff_ne.2 (by omega)
    clear hs hs' hc
    go_enter Try.func34, Try.ntmps34
    go_wp2
    go_ret
    exact ⟨rfl, rfl⟩
end Go.Proofs.Ytaihmcengecmiaa
