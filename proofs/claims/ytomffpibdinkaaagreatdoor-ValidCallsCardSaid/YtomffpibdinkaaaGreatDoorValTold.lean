/-
  Package valid: what op tells of an instruction, taken and put: walked. Contracts that the proofs call; no statement is proved here.
-/
import Derived.Test.YtomffpibdinkaaaGreatDoorValCall
namespace Go.Proofs.YtomffpibdinkaaaGreatDoor
open Go.RowKit
set_option linter.unusedVariables false
set_option linter.unusedSimpArgs false
variable {w0 : World} {B M : Nat} {m : MoV} {lo wh : ByteArray} {s : VS} {sv ov : Value} {w : World}

def toldV (B : Nat) (r : Rw) : Value := .agg #[.pointer (some ⟨B, 0, none⟩), .string r.name, .int .i64 r.shape, .string r.params, .string r.results]
def toldO (B : Nat) (r : Rw) : Obj := .cells #[.pointer (some ⟨B, 0, none⟩), .string r.name, .int .i64 r.shape, .string r.params, .string r.results] 126
theorem box_told {W : World} {b B : Nat} {r : Rw} (h : W.heap[b]? = some (toldO B r)) : W.cell? ⟨b, 0, none⟩ = some (.pointer (some ⟨B, 0, none⟩)) ∧ W.cell? ⟨b, 1, none⟩ = some (.string r.name) ∧ W.cell? ⟨b, 2, none⟩ = some (.int .i64 r.shape) ∧ W.cell? ⟨b, 3, none⟩ = some (.string r.params) ∧ W.cell? ⟨b, 4, none⟩ = some (.string r.results) := by
  unfold toldO at h
  refine ⟨?_, ?_, ?_, ?_, ?_⟩ <;> (rw [World.cell?, h]; rfl)
set_option maxRecDepth 100000 in
set_option maxHeartbeats 8000000 in
theorem s_told (h : WAt w0 B M m lo wh s sv ov w) (hr : Room7 s) (r : Rw) (hp : r.params.size ≤ 1000) (hq : r.results.size ≤ 1000) (x : InsV) : Calls Tryz.prog 88 #[toldV B r, x.val] w (DidV w0 B M m lo wh ((s.take r.params.data.toList).put r.results.data.toList) sv ov w (.tuple #[])) := by
  have h1 := h.alloc (toldO B r)
  have m1 : MovV B sv ov w (w.alloc (toldO B r)) sv ov := MovV.of ((Below.refl _ _).alloc (Nat.le_refl _) _)
  have n1 : (w.alloc (toldO B r)).heap[w.heap.size]? = some (toldO B r) := heap_alloc_new _ _
  have a1 := h.apart (Nat.le_refl w.heap.size)
  obtain ⟨hI, mI, nI, aI⟩ := h1.boxed x
  have n2 := (Below.heap_alloc (w.alloc (toldO B r)) (insObj x) _ (in_heap7 n1)).trans n1
  obtain ⟨WI, hWI⟩ : ∃ W, W = (w.alloc (toldO B r)).alloc (insObj x) := ⟨_, rfl⟩
  rw [← hWI] at hI mI n2
  obtain ⟨k0, k1, k2, k3, k4⟩ := box_told n2
  have ct := v_take hI hr.ne r.params (by omega)
  have hl := take_len7 s r.params.data.toList
  have hst := hr.stk
  have MM := Lib.hid (m1.trans mI)
  unfold toldO insObj at hWI
  unfold toldV InsV.val
  clear h h1 m1 nI mI hI n1
  go_enter Tryz.func88, Tryz.ntmps88
  go_wp2_with fail
  rw [← hWI]
  clear hWI
  refine ct.mono ?_
  rintro e w2 ⟨sv2, ov2, rfl, h2, m2⟩
  obtain ⟨n3, a3⟩ := m2.keeps (w0 := w0) n2 a1
  obtain ⟨j0, j1, j2, j3, j4⟩ := box_told n3
  have cp := v_put h2 r.results (by omega)
  clear ct k0 k1 k2 k3 k4 h2
  go_wp2_with (go_at_call 107; (with_reducible refine cp.mono ?_); rintro e w3 ⟨sv3, ov3, rfl, h3, m3⟩)
  go_end0
  exact ⟨_, _, rfl, h3, (MM.out.trans m2).trans m3⟩
set_option maxRecDepth 100000 in
set_option maxHeartbeats 8000000 in
theorem s_toldMem (h : WAt w0 B M m lo wh s sv ov w) (hr : Room7 s) (r : Rw) (hp : r.params.size ≤ 1000) (hq : r.results.size ≤ 1000) (x : InsV) : Calls Tryz.prog 89 #[toldV B r, x.val] w (DidV w0 B M m lo wh ((((s.ask (decide (0 < m.memory.length) && decide (x.a ≤ power7 x.op))).take r.params.data.toList)).put r.results.data.toList) sv ov w (.tuple #[])) := by
  have h1 := h.alloc (toldO B r)
  have m1 : MovV B sv ov w (w.alloc (toldO B r)) sv ov := MovV.of ((Below.refl _ _).alloc (Nat.le_refl _) _)
  have n1 : (w.alloc (toldO B r)).heap[w.heap.size]? = some (toldO B r) := heap_alloc_new _ _
  have a1 := h.apart (Nat.le_refl w.heap.size)
  obtain ⟨hI, mI, nI, aI⟩ := h1.boxed x
  have n2 := (Below.heap_alloc (w.alloc (toldO B r)) (insObj x) _ (in_heap7 n1)).trans n1
  have e9 : (w.alloc (toldO B r)).heap.size = w.heap.size + 1 := by simp
  rw [e9] at nI aI
  obtain ⟨WI, hWI⟩ : ∃ W, W = (w.alloc (toldO B r)).alloc (insObj x) := ⟨_, rfl⟩
  rw [← hWI] at hI mI n2 nI
  obtain ⟨k0, k1, k2, k3, k4⟩ := box_told n2
  obtain ⟨c0, c1, c2, c3⟩ := box_ins nI
  have g2 : WI.cell? ⟨B, 2, none⟩ = some (.slice m.mp m.memory.length m.mc) := hI.cell 2
  obtain ⟨L, hL⟩ : ∃ L, m.memory.length = L := ⟨_, rfl⟩
  rw [hL] at g2 ⊢
  have MM := m1.trans mI
  obtain ⟨v, hv⟩ : ∃ v : Bool, (decide (0 < L) && decide (x.a ≤ power7 x.op)) = v := ⟨_, rfl⟩
  rw [hv]
  have ca := v_ask hI.drew v
  have cs := fun (W : World) (sv2 ov2 : Value) (h2 : WAt w0 B M m lo wh (s.ask v) sv2 ov2 W) => s_told h2 ⟨by rw [ask_opens]; exact hr.ne, by rw [ask_stack]; exact hr.stk, by rw [ask_opens]; exact hr.opn, by rw [ask_opens]; exact hr.res⟩ r hp hq x
  have cw := fun (W : World) => v_power x.op W
  have HM := Lib.hid MM
  have mD : MovV B sv ov WI WI.drew sv ov := MovV.of (Below.refl _ _).drew
  unfold toldO insObj at hWI
  unfold toldV InsV.val at cs ⊢
  clear h h1 m1 mI hI n1 hL MM
  by_cases hl : 0 < L
  · have q0 : (0 : Int) < (L : Int) := by omega
    have q1 : decide (x.a ≤ power7 x.op) = v := by rw [← hv]; simp [hl]
    clear hv
    go_enter Tryz.func89, Tryz.ntmps89
    go_wp2
    rw [← hWI]
    clear hWI
    go_still_tail 18, (by kernel_rfl)
    still_call ((cw _).mono fun e w' ⟨h1, h2⟩ => ⟨h1, h2.symm⟩)
    repeat still_step
    refine wpStill_nil ?_
    change wpList _ _ _ _ _ WI.drew
    go_wp2_with (go_at_call 106; refine ca.mono ?_; rintro e w2 ⟨sv2, ov2, rfl, h2, m2⟩; have cs2 := cs _ _ _ h2; obtain ⟨n3, _⟩ := (mD.trans m2).keeps (w0 := w0) n2 a1; obtain ⟨n4, _⟩ := (mD.trans m2).keeps (w0 := w0) nI aI; obtain ⟨j0, j1, j2, j3, j4⟩ := box_told n3; obtain ⟨d0, d1, d2, d3⟩ := box_ins n4)
    go_wp2_with (go_at_call 88; (with_reducible refine cs2.mono ?_); rintro e w3 ⟨sv3, ov3, rfl, h3, m3⟩)
    go_end0
    exact ⟨_, _, rfl, h3, (HM.out.trans (mD.trans m2)).trans m3⟩
  · have hL0 : L = 0 := by omega
    subst hL0
    have q1 : false = v := by rw [← hv]; rfl
    subst q1
    clear hv hl
    go_enter Tryz.func89, Tryz.ntmps89
    go_wp2
    rw [← hWI]
    clear hWI
    go_still_tail 18, (by kernel_rfl)
    change wpList _ _ _ _ _ WI.drew
    go_wp2_with (go_at_call 106; refine ca.mono ?_; rintro e w2 ⟨sv2, ov2, rfl, h2, m2⟩; have cs2 := cs _ _ _ h2; obtain ⟨n3, _⟩ := (mD.trans m2).keeps (w0 := w0) n2 a1; obtain ⟨n4, _⟩ := (mD.trans m2).keeps (w0 := w0) nI aI; obtain ⟨j0, j1, j2, j3, j4⟩ := box_told n3; obtain ⟨d0, d1, d2, d3⟩ := box_ins n4)
    go_wp2_with (go_at_call 88; (with_reducible refine cs2.mono ?_); rintro e w3 ⟨sv3, ov3, rfl, h3, m3⟩)
    go_end0
    exact ⟨_, _, rfl, h3, (HM.out.trans (mD.trans m2)).trans m3⟩
end Go.Proofs.YtomffpibdinkaaaGreatDoor
