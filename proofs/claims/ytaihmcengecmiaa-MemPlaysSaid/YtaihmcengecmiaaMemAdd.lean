/-
  Package mem: pages are added; a memory grows. Contracts that the proofs call; no statement is proved here.
-/
import Derived.Test.YtaihmcengecmiaaMemStore
import Derived.Maps.AppendAt
import Derived.OwnWalk
namespace Go.Proofs.Ytaihmcengecmiaa
open Go.RowKit Go.Maps
set_option linter.unusedVariables false
set_option linter.unusedSimpArgs false
variable {O O' : Nat → Prop} {B b n most : Nat} {f : Nat → UInt8} {v : Value} {mb : Nat} {ps : List Nat} {w w' w'' : World}

theorem page_info : (Try.prog.info? 72).map (fun i => (i.zero, i.size, i.bytes)) = some (some (.pointer none), 1, 8) := by kernel_rfl
theorem cells_new (w : World) (c : List Value) (t : TypeId) : ∀ j u, c[j]? = some u → (w.alloc (.cells c.toArray t)).cell? ((⟨w.heap.size, 0, none⟩ : Addr).add j) = some u := by
  intro j u hj
  have e : (⟨w.heap.size, 0, none⟩ : Addr).add j = ⟨w.heap.size, j, none⟩ := by
    unfold Addr.add; split
    · rename_i h0; rw [h0]
    · simp
  rw [e, World.cell?_alloc_new]; simpa using hj
theorem MemIs.row_ne (h : MemIs O B b n most f v mb ps w) : v.ownBlock ≠ some b := fun e => by
  rcases h.row.2 with ⟨rfl, _⟩ | ⟨g', cap, cur, rfl, _, hg', _⟩
  · cases e
  · have e : g' = b := Option.some.inj e
    subst e
    have := h.box.symm.trans hg'
    simp at this
/-- Which blocks a memory holds that has a page more. -/
def More (O : Nat → Prop) (p : Nat) (v : Value) : Nat → Prop := fun k => O k ∨ k = p ∨ v.ownBlock = some k
/-- A page more. -/
theorem MemIs.push (h : MemIs O B b n most f v mb ps w) (hn : n < most) (hB : B ≤ w.heap.size) {w2 w3 : World} (hw2 : Below w.heap.size w w2) (hpg : w2.heap[w.heap.size]? = some (.cells pageZ 74 (0, 0))) (hg : w2.grownBy w3 v.ownBlock)
    {v' : Value} (ho : w3.ownsRow B 72 1 v' (n + 1) (ps.map pgV ++ [pgV w.heap.size])) (hv : v'.ownBlock = v.ownBlock ∨ v'.ownBlock = some w2.heap.size) :
    MemIs (More O w.heap.size v') B b (n + 1) most f v' mb (ps ++ [w.heap.size]) (w3.setCell ⟨b, 0, none⟩ v') ∧ Kept O w (w3.setCell ⟨b, 0, none⟩ v') := by
  have h2 := h.kept (Kept.of_below hw2 (fun _ => False)) (fun _ _ e => e)
  have hs2 := hw2.size
  have hs3 := hg.size
  have hpl : w.heap.size < w2.heap.size := in_heap hpg
  have hbv : v.ownBlock ≠ some b := fun e => by
    rcases h.row.2 with ⟨rfl, _⟩ | ⟨g', cap, cur, rfl, _, hg', _⟩
    · cases e
    · have e : g' = b := Option.some.inj e
      subst e
      have := h.box.symm.trans hg'
      simp at this
  have hb3 : w3.heap[b]? = some (.cells #[v, .int .i64 (most : Int), .map (some mb)] 55 (0, 0)) := (hg.block b h2.blt (fun e => hbv e.symm)).trans h2.box
  have hbs := heap_setCell_same w3 b 0 _ _ v' hb3
  have hoth : ∀ k, k ≠ b → (w3.setCell ⟨b, 0, none⟩ v').heap[k]? = w3.heap[k]? := fun k hk => Below.heap_setCell _ _ _ _ hk
  have hv'b : v'.ownBlock ≠ some b := fun e => by
    rcases hv with e2 | e2
    · exact hbv (e2.symm.trans e)
    · have : w2.heap.size = b := Option.some.inj (e2.symm.trans e)
      have := h.blt
      omega
  have old : ∀ k, O k → k ≠ b → v.ownBlock ≠ some k → (w3.setCell ⟨b, 0, none⟩ v').heap[k]? = w.heap[k]? := fun k hO hk hvk => by
    have := (h.low k hO).2
    rw [hoth k hk, hg.block k (by omega) (fun e => hvk e.symm), hw2.block k this]
  refine ⟨⟨by rw [hbs]; rfl, ⟨by simpa using h.len, ?_⟩, h.szs.same (old mb h.om ?_ ?_), fun k p hp => ?_, ?_, Nat.succ_le_of_lt hn, h.top, fun i hi => h.zero i (Nat.le_trans (Nat.mul_le_mul_right _ (Nat.le_succ n)) hi), .inl h.ob, .inl h.om, ?_, fun g hg => .inr (.inr hg), ?_⟩, ?_⟩
  · rcases ho.2 with ⟨_, e⟩ | ⟨g, cap, cur, e1, e2, e3, e4⟩
    · omega
    · refine .inr ⟨g, cap, cur, e1, e2, ?_, by simpa using e4⟩
      rw [hoth g (fun e => hv'b (by rw [e1, ← e]; rfl))]
      exact e3
  · intro e
    obtain ⟨es, c, hm, _⟩ := h.szs
    rw [e] at hm
    have := hm.symm.trans h.box
    simp at this
  · intro e
    rcases h.row.2 with ⟨rfl, _⟩ | ⟨g', cap, cur, rfl, _, hg', _⟩
    · cases e
    · have e : g' = mb := Option.some.inj e
      subst e
      obtain ⟨es, c, hm, _⟩ := h.szs
      have := hm.symm.trans hg'
      simp at this
  · by_cases hk : k < ps.length
    · rw [List.getElem?_append_left hk] at hp
      have hm := List.mem_of_getElem? hp
      obtain ⟨n1, n2, n3⟩ := h.page_ne hm
      obtain ⟨cs, hc, r⟩ := h.pgs k p hp
      exact ⟨cs, (old p (h.op p hm) n1 (fun e => n3 p e rfl)).trans hc, r⟩
    · have hkl : k = ps.length := by
        have := (List.getElem?_eq_some_iff.1 hp).1
        simp at this
        omega
      subst hkl
      have : p = w.heap.size := by simpa using hp.symm
      subst this
      refine ⟨pageZ, ?_, pageZ_size, fun i hi => ?_⟩
      · rw [hoth _ (by have := h.blt; omega), hg.block _ hpl (fun e => ?_)]
        · exact hpg
        · rcases h.row.2 with ⟨rfl, _⟩ | ⟨g', cap, cur, rfl, _, hg', _⟩
          · cases e
          · have e : g' = w.heap.size := (Option.some.inj e).symm
            have := in_heap hg'
            omega
      · rw [pageZ_at hi, h.zero _ (by rw [h.len]; omega)]
        rfl
  · intro k j p hk hj
    have key : ∀ (k j : Nat), (ps ++ [w.heap.size])[k]? = some p → (ps ++ [w.heap.size])[j]? = some p → k < ps.length → k = j := fun k j hk hj hl => by
      rw [List.getElem?_append_left hl] at hk
      by_cases hl2 : j < ps.length
      · rw [List.getElem?_append_left hl2] at hj
        exact h.one k j p hk hj
      · have hlj := (List.getElem?_eq_some_iff.1 hj).1
        simp at hlj
        have e : j = ps.length := by omega
        subst e
        have e2 : p = w.heap.size := by simpa using hj.symm
        have := (h.low p (h.op p (List.mem_of_getElem? hk))).2
        omega
    by_cases hl : k < ps.length
    · exact key k j hk hj hl
    · by_cases hl2 : j < ps.length
      · exact (key j k hj hk hl2).symm
      · have h1 := (List.getElem?_eq_some_iff.1 hk).1
        have h2 := (List.getElem?_eq_some_iff.1 hj).1
        simp at h1 h2
        omega
  · intro p hp
    rcases List.mem_append.1 hp with e | e
    · exact .inl (h.op p e)
    · exact .inr (.inl (by simpa using e))
  · rw [setCell_size]
    intro k hk
    rcases hk with e | e | e
    · have := h.low k e
      exact ⟨this.1, by omega⟩
    · exact ⟨by omega, by omega⟩
    · have := ho.lt k e
      exact this
  · refine ((Kept.of_below hw2 O).trans (O' := O) ⟨hg.os, hg.tape, hg.output, hg.size, fun k hk hn => hg.block k hk (fun e => hn (h.ov k e.symm))⟩ (fun _ e _ => e)).setCell h.ob 0 v'
end Go.Proofs.Ytaihmcengecmiaa
