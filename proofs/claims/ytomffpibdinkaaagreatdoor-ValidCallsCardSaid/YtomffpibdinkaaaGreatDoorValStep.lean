/-
  Package valid's map of steps: asked, and what is met put in. Contracts that the proofs call; no statement is proved here.
-/
import Derived.Test.YtomffpibdinkaaaGreatDoorValMap
namespace Go.Proofs.YtomffpibdinkaaaGreatDoor
open Go.RowKit Go.Maps
set_option linter.unusedVariables false
set_option linter.unusedSimpArgs false
variable {w0 : World} {B M : Nat} {m : MoV} {lo wh : ByteArray} {s : VS} {sv ov : Value} {w : World}

theorem code_range {c : Int} {r : Rw} (h : byCode c = some r) : 0 ≤ c ∧ c < 256 := by
  have hbd := byCode_bd h
  have hc : r.code = c := by simpa using List.find?_some h
  omega
/-- What turns only the map, and lays anew. -/
structure MovM (M : Nat) (w w' : World) : Prop where
  os : w'.os = w.os
  tape : w'.tape = w.tape
  output : w'.output = w.output
  size : w.heap.size ≤ w'.heap.size
  block : ∀ k, k < w.heap.size → k ≠ M → w'.heap[k]? = w.heap[k]?
theorem MovM.of {w w' : World} (h : Below w.heap.size w w') : MovM M w w' := ⟨h.os, h.tape, h.output, h.size, fun k hk _ => h.block k hk⟩
theorem MovM.grown {w w1 w2 : World} (h : MovM M w w1) (g : w1.grownBy w2 (some M)) : MovM M w w2 :=
  ⟨g.os.trans h.os, g.tape.trans h.tape, g.output.trans h.output, Nat.le_trans h.size g.size, fun k hk h1 => (g.block k (Nat.lt_of_lt_of_le hk h.size) (fun e => by injection e with e; exact h1 e)).trans (h.block k hk h1)⟩
/-- The walk as it was, the map turned. -/
theorem WAt.map (h : WAt w0 B M m lo wh s sv ov w) {w' : World} (k : MovM M w w') : WAt w0 B M m lo wh s sv ov w' := by
  have hM := h.hM
  have hl := h.hl
  have hB := h.hB
  exact ⟨⟨k.os.trans h.below.os, k.tape.trans h.below.tape, k.output.trans h.below.output, Nat.le_trans h.below.size k.size, fun i hi => (k.block i (Nat.lt_of_lt_of_le hi h.below.size) (by omega)).trans (h.below.block i hi)⟩,
    (k.block _ (Nat.lt_trans hM hl) (by omega)).trans h.box, own_same7 h.stk fun g hg => k.block g (own_lt7 h.stk g hg).2 (by have := (own_lt7 h.stk g hg).1; omega), own_same7 h.opn fun g hg => k.block g (own_lt7 h.opn g hg).2 (by have := (own_lt7 h.opn g hg).1; omega), h.far, hB, hM, Nat.lt_of_lt_of_le hl k.size, h.wf, h.few⟩
/-- The walk, with its steps. -/
def WSt (w0 : World) (B M : Nat) (m : MoV) (lo wh : ByteArray) (s : VS) (sv ov : Value) (w : World) : Prop := WAt w0 B M m lo wh s sv ov w ∧ ∃ D, Steps7 M B w D
theorem Steps7.put {M b : Nat} {w w' : World} {D : DataW Unit} (h : Steps7 M b w D) {c : Int} {r : Rw} (hc : byCode c = some r) (hno : Maps.has D (.int .i64 c) = false)
    (hown : w'.ownsMap Tryz.prog 3 stepRead M (cnt7 (fun c => Maps.has D (.int .i64 (c : Int))) 256 + 1) (D.put (.int .i64 c) (datOf7 b c r))) : Steps7 M b w' (D.put (.int .i64 c) (datOf7 b c r)) := by
  have hr := code_range hc
  obtain ⟨k, rfl⟩ := Int.eq_ofNat_of_zero_le hr.1
  have hk : WideAt.IsKeyLit (.int .i64 (k : Int)) := trivial
  refine ⟨?_, h.map.put _ _, fun c' r' hc' hh => ?_, fun c' hc' => ?_⟩
  · have e := cnt7_more (p := fun c => Maps.has D (.int .i64 (c : Int))) (q := fun c => Maps.has (D.put (.int .i64 (k : Int)) (datOf7 b k r)) (.int .i64 (c : Int))) (c := k) hno (has_put_same h.map hk _) (fun j hj => has_put_other (key_ne7 (by omega)) _) 256
    rw [if_pos (by omega)] at e
    rw [e]
    exact hown
  · by_cases he : c' = (k : Int)
    · subst he
      have : r' = r := by rw [hc] at hc'; injection hc' with e; exact e.symm
      subst this
      exact atKey_put_same h.map hk _ _
    · rw [has_put_other (key_ne7 he)] at hh
      rw [atKey_put_other (key_ne7 he)]
      exact h.known c' r' hc' hh
  · by_cases he : c' = (k : Int)
    · subst he
      exact has_put_same h.map hk _
    · rw [has_put_other (key_ne7 he)]
      exact h.all c' hc'
theorem step_zero (w : World) : (zeroValue 116).run Tryz.prog w = .ok .nilFunc w := by kernel_rfl
theorem box_info7 (w : World) (a : ByteArray) (b : Int) (c d : ByteArray) : (w.alloc (.cells #[.string a, .int .i64 b, .string c, .string d] 120)).cell? ⟨w.heap.size, 0, none⟩ = some (.string a) ∧ (w.alloc (.cells #[.string a, .int .i64 b, .string c, .string d] 120)).cell? ⟨w.heap.size, 1, none⟩ = some (.int .i64 b) ∧ (w.alloc (.cells #[.string a, .int .i64 b, .string c, .string d] 120)).cell? ⟨w.heap.size, 2, none⟩ = some (.string c) ∧ (w.alloc (.cells #[.string a, .int .i64 b, .string c, .string d] 120)).cell? ⟨w.heap.size, 3, none⟩ = some (.string d) := by
  have h := heap_alloc_new w (.cells #[.string a, .int .i64 b, .string c, .string d] 120)
  refine ⟨?_, ?_, ?_, ?_⟩ <;> (rw [World.cell?, h]; rfl)
set_option maxRecDepth 100000 in
set_option maxHeartbeats 8000000 in
theorem v_step (hL : Spaces w0) (h : WSt w0 B M m lo wh s sv ov w) (c : Int) (r : Rw) (hc : byCode c = some r) : Calls Tryz.prog 57 #[.pointer (some ⟨B, 0, none⟩), .int .i64 c] w fun e w' => e = .returned (valOf7 B c r) ∧ WSt w0 B M m lo wh s sv ov w' ∧ MovM M w w' := by
  obtain ⟨h, D, hD⟩ := h
  have hr := code_range hc
  have x1 : w.cell? ⟨B, 1, none⟩ = none ∨ True := .inr trivial
  have x7 : w.cell? ⟨B, 7, none⟩ = some (.map (some M)) := h.cell 7
  have law : Keyed Tryz.prog 3 := int_keyed Tryz.underlying3
  have hkey := keyOf_int_mk Tryz.underlying3 (WalkArith.wf_i64 (⟨by omega, by omega⟩ : -9223372036854775808 ≤ c ∧ c ≤ 9223372036854775807))
  obtain ⟨v, vp, hlk, hv⟩ := hD.own.look_ok law Tryz.underlying109 (step_zero _) nilRead hkey
  cases hh : Maps.has D (.int .i64 c) with
  | true =>
    rw [hh] at hlk
    rw [hD.known c r hc hh] at hv
    have e := read_inv7 hv
    subst e
    have HS : Hid (WSt w0 B M m lo wh s sv ov w) := Lib.hid ⟨h, D, hD⟩
    generalize valOf7 B c r = V at *
    clear hv h hD x1 hkey law hc
    go_enter Tryz.func57, Tryz.ntmps57
    go_wp2
    go_ret
    exact ⟨rfl, HS.out, MovM.of (Below.refl _ _)⟩
  | false =>
    rw [hh] at hlk
    have hat : D.atKey (.int .i64 c) .nil = .nil := atKey_of_not_has hh _
    rw [hat] at hv
    have e : v = .nilFunc := by
      unfold stepRead at hv
      split at hv
      · simp [stepD] at hv
      · simp [toldD] at hv
      · rfl
      · simp at hv
    subst e
    have hf : fnOf7 c = none := by
      cases hq : fnOf7 c with
      | none => rfl
      | some n => have := hD.all c (by rw [hq]; simp); rw [hh] at this; cases this
    have hval : valOf7 B c r = toldF (toldFn r) B r := by unfold valOf7; rw [hf]
    rw [hval]
    have co := op_of c (by omega) (by omega) w (hL.below h.below)
    rw [hc] at co
    have hmk := read_mk7 B c r
    rw [hval] at hmk
    have hup := fun (W : World) (hb : W.heap[M]? = w.heap[M]?) => (hD.same hb).own.update law Tryz.underlying109 (by have := cnt7_le (fun c => Maps.has D (.int .i64 (c : Int))) 256; unfold maxLen; omega) hkey hmk
    have hput := fun (W : World) hown => hD.put (w' := W) hc hh hown
    have HP := Lib.hid hput
    have HW := Lib.hid h
    have hlM := h.hl
    have hlB := h.hM
    clear hv hat hf hval hmk hkey law hD h hh hc hput x1
    unfold toldF toldV at *
    simp only [infoVal, Option.isSome] at co
    obtain ⟨rc, rn, rs, rp, rr⟩ := r
    dsimp only at *
    by_cases h5 : rs = 5
    · subst h5
      have hval : toldFn ⟨rc, rn, 5, rp, rr⟩ = 89 := by unfold toldFn; rfl
      rw [hval] at hup ⊢
      clear hval
      go_enter Tryz.func57, Tryz.ntmps57
      go_wp2_with (go_at_call 68; (with_reducible refine co.mono ?_); rintro e w3 ⟨rfl, hb3⟩; have hB3 := hb3.alloc hb3.size (.cells #[.string rn, .int .i64 5, .string rp, .string rr] 120); obtain ⟨w4, hu, hown4, hg4⟩ := hup (w3.alloc (.cells #[.string rn, .int .i64 5, .string rp, .string rr] 120)) (hB3.block M hlM); obtain ⟨y0, y1, y2, y3⟩ := box_info7 w3 rn 5 rp rr; have y7 : (w3.alloc (.cells #[.string rn, .int .i64 5, .string rp, .string rr] 120)).cell? ⟨B, 7, none⟩ = some (.map (some M)) := (HW.out.at' hB3).cell 7)
      go_ret
      exact ⟨rfl, ⟨HW.out.map ((MovM.of hB3).grown hg4), _, HP.out _ hown4⟩, (MovM.of hB3).grown hg4⟩
    · by_cases h6 : rs = 6
      · subst h6
        have hval : toldFn ⟨rc, rn, 6, rp, rr⟩ = 89 := by unfold toldFn; rfl
        rw [hval] at hup ⊢
        clear hval
        go_enter Tryz.func57, Tryz.ntmps57
        go_wp2_with (go_at_call 68; (with_reducible refine co.mono ?_); rintro e w3 ⟨rfl, hb3⟩; have hB3 := hb3.alloc hb3.size (.cells #[.string rn, .int .i64 6, .string rp, .string rr] 120); obtain ⟨w4, hu, hown4, hg4⟩ := hup (w3.alloc (.cells #[.string rn, .int .i64 6, .string rp, .string rr] 120)) (hB3.block M hlM); obtain ⟨y0, y1, y2, y3⟩ := box_info7 w3 rn 6 rp rr; have y7 : (w3.alloc (.cells #[.string rn, .int .i64 6, .string rp, .string rr] 120)).cell? ⟨B, 7, none⟩ = some (.map (some M)) := (HW.out.at' hB3).cell 7)
        go_ret
        exact ⟨rfl, ⟨HW.out.map ((MovM.of hB3).grown hg4), _, HP.out _ hown4⟩, (MovM.of hB3).grown hg4⟩
      · have q5 : (rs == 5) = false := beq_eq_false_iff_ne.2 h5
        have q6 : (rs == 6) = false := beq_eq_false_iff_ne.2 h6
        have hn : ¬ (rs = 5 ∨ rs = 6) := fun h => h.elim h5 h6
        have hval : toldFn ⟨rc, rn, rs, rp, rr⟩ = 88 := by unfold toldFn; exact if_neg hn
        rw [hval] at hup ⊢
        clear hval hn h5 h6
        go_enter Tryz.func57, Tryz.ntmps57
        go_wp2_with (go_at_call 68; (with_reducible refine co.mono ?_); rintro e w3 ⟨rfl, hb3⟩; have hB3 := hb3.alloc hb3.size (.cells #[.string rn, .int .i64 rs, .string rp, .string rr] 120); obtain ⟨w4, hu, hown4, hg4⟩ := hup (w3.alloc (.cells #[.string rn, .int .i64 rs, .string rp, .string rr] 120)) (hB3.block M hlM); obtain ⟨y0, y1, y2, y3⟩ := box_info7 w3 rn rs rp rr; have y7 : (w3.alloc (.cells #[.string rn, .int .i64 rs, .string rp, .string rr] 120)).cell? ⟨B, 7, none⟩ = some (.map (some M)) := (HW.out.at' hB3).cell 7)
        go_ret
        exact ⟨rfl, ⟨HW.out.map ((MovM.of hB3).grown hg4), _, HP.out _ hown4⟩, (MovM.of hB3).grown hg4⟩
end Go.Proofs.YtomffpibdinkaaaGreatDoor
