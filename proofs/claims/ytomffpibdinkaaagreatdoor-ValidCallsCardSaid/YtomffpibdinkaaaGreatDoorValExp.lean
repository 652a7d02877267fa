/-
  Package valid: a module's exports: walked. Contracts that the proofs call; no statement is proved here.
-/
import Derived.Test.YtomffpibdinkaaaGreatDoorValKey
import Derived.Deep.RegionHeld3
namespace Go.Proofs.YtomffpibdinkaaaGreatDoor
open Go.RowKit Go.Maps
set_option linter.unusedVariables false
set_option linter.unusedSimpArgs false

def able7 (m : MoV) (k : Int) : Nat := if k = 0 then m.funcs.length else if k = 2 then m.memory.length else if k = 3 then m.globals.length else 0
def exp1 (m : MoV) (e : ExpV) : Bool := decide (0 ≤ e.index ∧ e.index < (able7 m e.kind : Int))
def expD : List ExpV → Nat → DataW Unit → DataW Unit
  | [], _, D => D
  | e :: l, k, D => expD l (k + 1) (D.put (keyL e.name) (.lit (.int .i64 k)))
def exports7 (m : MoV) : Bool := m.exports.all (exp1 m) && decide ((Maps.size (expD m.exports 0 (.map [])) : Int) = m.exports.length)
set_option maxRecDepth 100000 in
set_option maxHeartbeats 4000000 in
theorem v_exportable (w : World) (m : MoV) (k : Int) : Calls Tryz.prog 54 #[m.val, .int .i64 k] w fun e w' => e = .returned (.int .i64 (able7 m k : Int)) ∧ Below w.heap.size w w' := by
  have hB1 : Below w.heap.size w (w.alloc (modObj m)) := (Below.refl _ _).alloc (Nat.le_refl _) _
  obtain ⟨R, hR⟩ : ∃ R : Nat, able7 m k = R := ⟨_, rfl⟩
  rw [hR]
  unfold able7 at hR
  unfold modObj at hB1
  unfold MoV.val
  by_cases h0 : k = 0
  · rw [if_pos h0] at hR
    subst hR h0
    go_enter Tryz.func54, Tryz.ntmps54
    go_wp2
    go_ret
    exact ⟨rfl, hB1⟩
  · have q0 : (k == 0) = false := beq_eq_false_iff_ne.2 h0
    rw [if_neg h0] at hR
    by_cases h2 : k = 2
    · rw [if_pos h2] at hR
      subst hR h2
      go_enter Tryz.func54, Tryz.ntmps54
      go_wp2
      go_ret
      exact ⟨rfl, hB1⟩
    · have q2 : (k == 2) = false := beq_eq_false_iff_ne.2 h2
      rw [if_neg h2] at hR
      by_cases h3 : k = 3
      · rw [if_pos h3] at hR
        subst hR h3
        go_enter Tryz.func54, Tryz.ntmps54
        go_wp2
        go_ret
        exact ⟨rfl, hB1⟩
      · have q3 : (k == 3) = false := beq_eq_false_iff_ne.2 h3
        rw [if_neg h3] at hR
        subst hR
        go_enter Tryz.func54, Tryz.ntmps54
        go_wp2
        go_ret
        exact ⟨rfl, hB1⟩
theorem ownsMap7 {P : Program} {k : TypeId} {R : Value → Option (DataW Unit × List MemPlace)} {b n : Nat} {D : DataW Unit} {w w' : World} (h : w.ownsMap P k R b n D) (e : w'.heap[b]? = w.heap[b]?) : w'.ownsMap P k R b n D := by
  obtain ⟨es, c, h1, h2⟩ := h
  exact ⟨es, c, e.trans h1, h2⟩
theorem exp_rows {W : World} {p : Option Addr} {l : List ExpV} (h : RowsAt W p 3 ExpV.row l) {j : Nat} (hj : j < l.length) : ∃ b o, p = some ⟨b, o, none⟩ ∧ b < W.heap.size ∧ W.cell? ⟨b, o + j * 3, none⟩ = some (.string l[j].name) ∧ W.cell? ⟨b, o + j * 3 + 1, none⟩ = some (.int .i64 l[j].kind) ∧ W.cell? ⟨b, o + j * 3 + 2, none⟩ = some (.int .i64 l[j].index) := by
  obtain ⟨b, o, hp, hb⟩ := h.start hj rfl
  rw [hp] at h
  exact ⟨b, o, hp, hb, h.cell hj 0 rfl, h.cell hj 1 rfl, h.cell hj 2 rfl⟩
set_option maxRecDepth 100000 in
set_option maxHeartbeats 8000000 in
theorem v_exports (w : World) (m : MoV) (hm : ModAt w m) (hel : m.exports.length ≤ 1000000) : Calls Tryz.prog 23 #[m.val] w fun e w' => e = .returned (.bool (exports7 m)) ∧ Below w.heap.size w w' := by
  obtain ⟨R, hR⟩ : ∃ R, exports7 m = R := ⟨_, rfl⟩
  rw [hR]
  have HR := Lib.hid hR
  obtain ⟨W1, hW1⟩ : ∃ W, W = w.alloc (modObj m) := ⟨_, rfl⟩
  have hB1 : Below w.heap.size w W1 := by rw [hW1]; exact (Below.refl _ _).alloc (Nat.le_refl _) _
  have hb1 : W1.heap[w.heap.size]? = some (modObj m) := by rw [hW1]; exact heap_alloc_new _ _
  have hmm := @run_makeMap Tryz.prog
  obtain ⟨W2, hW2⟩ : ∃ W, W = W1.alloc (.map #[] 0) := ⟨_, rfl⟩
  have o0 : W2.ownsMap Tryz.prog 104 (plainElem (H := Unit) Tryz.prog 3) W1.heap.size 0 (.map []) := by rw [hW2]; exact World.ownsMap_made W1 Tryz.prog 104 _
  have hB2 : Below w.heap.size w W2 := by rw [hW2]; exact hB1.alloc hB1.size _
  have hb2 : W2.heap[w.heap.size]? = some (modObj m) := by rw [hW2]; exact (Below.heap_alloc W1 _ _ (in_heap7 hb1)).trans hb1
  have hs1 : w.heap.size < W1.heap.size := in_heap7 hb1
  have hlM : W1.heap.size < W2.heap.size := by rw [hW2]; simp
  obtain ⟨q0, q1, q2, q3, q4, q5, q6⟩ := box_seven7 hb2
  have HM := Lib.hid hm
  have law := name_keyed
  unfold MoV.val
  have hs2 : W1.heap.size = w.heap.size + 1 := by rw [hW1]; simp only [push_size7]
  rw [hW1] at hW2
  rw [hs2] at o0 hlM
  unfold modObj at hW2
  clear hm hR hb1 hB1 hW1 hs1 hs2
  go_enter Tryz.func23, Tryz.ntmps23
  go_wp2
  rw [← hW2]
  clear hW2
  obtain ⟨L, hLL⟩ : ∃ L, m.exports.length = L := ⟨_, rfl⟩
  have HLL := Lib.hid hLL
  have HR2 : Hid (((m.exports.drop 0).all (exp1 m) && decide ((Maps.size (expD (m.exports.drop 0) 0 (.map [])) : Int) = (L : Int))) = R) := Lib.hid (by rw [← HR.out, ← hLL]; rfl)
  rw [hLL]
  rw [hLL] at hel
  clear hLL q0 q1 q2 q3 q4 q5 q6
  go_loopw [4, 5, 10] (fun u v i wr => ∃ (j : Nat) (D : DataW Unit), i = .int .i64 j ∧ j ≤ L ∧ Hid (((m.exports.drop j).all (exp1 m) && decide ((Maps.size (expD (m.exports.drop j) j D) : Int) = (L : Int))) = R) ∧ wr.ownsMap Tryz.prog 104 (plainElem (H := Unit) Tryz.prog 3) (w.heap.size + 1) j D ∧ Below w.heap.size w wr ∧ wr.heap[w.heap.size]? = some (modObj m) ∧ w.heap.size + 1 < wr.heap.size) (fun _ _ i _ => (L : Int).toNat - (intOf i).toNat)
  case atStart => exact ⟨0, _, rfl, Nat.zero_le _, HR2, o0, hB2, hb2, hlM⟩
  case round =>
    clear o0 hB2 hb2 hlM HR2
    obtain ⟨j, D, rfl, hj, HK, hown, hB, hbm, hlH⟩ := hrel
    by_cases hjl : j < L
    · have hjx : j < m.exports.length := by rw [HLL.out]; exact hjl
      obtain ⟨cb, co, hcp, hcb, e0, e1, e2⟩ := exp_rows (HM.out.below hB (Nat.le_refl _)).exports hjx
      obtain ⟨hnm, hki, hix⟩ := HM.out.exportsIn _ (List.getElem_mem hjx)
      have HK1 : Hid (((m.exports[j] :: m.exports.drop (j + 1)).all (exp1 m) && decide ((Maps.size (expD (m.exports[j] :: m.exports.drop (j + 1)) j D) : Int) = (L : Int))) = R) := Lib.hid (by rw [← List.drop_eq_getElem_cons hjx]; exact HK.out)
      generalize m.exports[j] = f at *
      obtain ⟨nm, ki, ix⟩ := f
      dsimp only at e0 e1 e2 hnm hki hix
      have j0 : (0 : Int) ≤ (j : Int) := by omega
      have j1 : (j : Int) < (L : Int) := by omega
      have jw : IntKind.i64.wrap ((j : Int) + 1) = ((j + 1 : Nat) : Int) := by rw [show (j : Int) + 1 = ((j + 1 : Nat) : Int) by omega]; exact IntWalk.i64_in _ (by omega)
      obtain ⟨WX, hWX⟩ : ∃ W, W = wr.alloc (.cells #[.string nm, .int .i64 ki, .int .i64 ix] 45) := ⟨_, rfl⟩
      have hownX : WX.ownsMap Tryz.prog 104 (plainElem (H := Unit) Tryz.prog 3) (w.heap.size + 1) j D := by rw [hWX]; exact hown.alloc _
      have hbX : WX.heap[wr.heap.size]? = some (.cells #[.string nm, .int .i64 ki, .int .i64 ix] 45) := by rw [hWX]; exact heap_alloc_new _ _
      have hmX : WX.heap[w.heap.size]? = some (modObj m) := by rw [hWX]; exact (Below.heap_alloc wr _ _ (in_heap7 hbm)).trans hbm
      have hBX : Below w.heap.size w WX := by rw [hWX]; exact hB.alloc hB.size _
      have hzX : WX.heap.size = wr.heap.size + 1 := by rw [hWX]; simp only [push_size7]
      obtain ⟨w4, hu, hown4, hg4⟩ := hownX.update law Tryz.underlying102 (by unfold maxLen; omega) (key7 nm hnm) (plainElem_int (H := Unit) Tryz.underlying3 (WalkArith.wf_i64 (show -9223372036854775808 ≤ (j : Int) ∧ (j : Int) ≤ 9223372036854775807 by omega)))
      have hb4 := (hg4.block wr.heap.size (by omega) (fun e => by injection e with e; omega)).trans hbX
      have hm4 := (hg4.block w.heap.size (by omega) (fun e => by injection e with e; omega)).trans hmX
      have hB4 : Below w.heap.size w w4 := hBX.grown hg4 (by omega) (fun k hk => by injection hk with hk; omega)
      have hz4 : wr.heap.size < w4.heap.size := in_heap7 hb4
      obtain ⟨x0, x1, x2⟩ := box_three7 hbX
      obtain ⟨y0, y1, y2⟩ := box_three7 hb4
      obtain ⟨q0, q1, q2, q3, q4, q5, q6⟩ := box_seven7 hm4
      have ce := fun W => v_exportable W m ki
      unfold MoV.val at ce
      obtain ⟨ex, hx⟩ : ∃ ex, exp1 m ⟨nm, ki, ix⟩ = ex := ⟨_, rfl⟩
      have cw := fun W => v_within ix (able7 m ki : Int) W
      have hx2 : decide (0 ≤ ix ∧ ix < (able7 m ki : Int)) = ex := hx
      rw [hx2] at cw
      have HX := Lib.hid hx
      have HB4 := Lib.hid hb4
      have HO4 := Lib.hid hown4
      have HM4 := Lib.hid hm4
      clear hx hx2 hb4 hown4 hm4 hown hownX hbX hmX hBX hg4 HK hB hbm
      rw [hWX] at hu x0 x1 x2
      clear hWX hzX
      rw [hcp]
      go_wp2
      have hS4 : w4.cell? ⟨wr.heap.size, 1, none⟩ = some (.int .i64 ki) ∧ w4.cell? ⟨wr.heap.size, 2, none⟩ = some (.int .i64 ix) ∧ w4.cell? ⟨w.heap.size, 0, none⟩ = some (.slice m.tp m.types.length m.tc) ∧ w4.cell? ⟨w.heap.size, 1, none⟩ = some (.slice m.fp m.funcs.length m.fc) ∧ w4.cell? ⟨w.heap.size, 2, none⟩ = some (.slice m.mp m.memory.length m.mc) ∧ w4.cell? ⟨w.heap.size, 3, none⟩ = some (.slice m.gp m.globals.length m.gc) ∧ w4.cell? ⟨w.heap.size, 4, none⟩ = some (.slice (some ⟨cb, co, none⟩) L m.ec) ∧ w4.cell? ⟨w.heap.size, 5, none⟩ = some (.int .i64 m.start) ∧ w4.cell? ⟨w.heap.size, 6, none⟩ = some (.slice m.dp m.data.length m.dc) := ⟨y1, y2, q0, q1, q2, q3, by rw [q4, HLL.out, hcp], q5, q6⟩
      rw [hcp, HLL.out] at ce
      clear y0 y1 y2 q0 q1 q2 q3 q4 q5 q6
      go_region_held3 (fun W => W.cell? ⟨wr.heap.size, 1, none⟩ = some (.int .i64 ki) ∧ W.cell? ⟨wr.heap.size, 2, none⟩ = some (.int .i64 ix) ∧ W.cell? ⟨w.heap.size, 0, none⟩ = some (.slice m.tp m.types.length m.tc) ∧ W.cell? ⟨w.heap.size, 1, none⟩ = some (.slice m.fp m.funcs.length m.fc) ∧ W.cell? ⟨w.heap.size, 2, none⟩ = some (.slice m.mp m.memory.length m.mc) ∧ W.cell? ⟨w.heap.size, 3, none⟩ = some (.slice m.gp m.globals.length m.gc) ∧ W.cell? ⟨w.heap.size, 4, none⟩ = some (.slice (some ⟨cb, co, none⟩) L m.ec) ∧ W.cell? ⟨w.heap.size, 5, none⟩ = some (.int .i64 m.start) ∧ W.cell? ⟨w.heap.size, 6, none⟩ = some (.slice m.dp m.data.length m.dc)) (first | exact hS4 | exact hS5) (first
        | (go_at_call 54; refine (ce _).mono ?_; rintro e w5 ⟨rfl, hb5⟩; have k5 := (hb5.block wr.heap.size hz4).trans HB4.out; obtain ⟨z0, z1, z2⟩ := box_three7 k5; have hB5 := hB4.drew.trans (hb5.mono hB4.size); have o5 := hb5.block (w.heap.size + 1) (by have := hz4; show w.heap.size + 1 < w4.heap.size; omega); have m5 := (hb5.block w.heap.size (by have := hz4; show w.heap.size < w4.heap.size; omega)).trans HM4.out; have s5 : w.heap.size + 1 < w5.heap.size := (by have := hb5.size; have h9 : w4.heap.size ≤ w5.heap.size := this; omega); obtain ⟨q0, q1, q2, q3, q4, q5, q6⟩ := box_seven7 m5; have hS5 : w5.cell? ⟨wr.heap.size, 1, none⟩ = some (.int .i64 ki) ∧ w5.cell? ⟨wr.heap.size, 2, none⟩ = some (.int .i64 ix) ∧ w5.cell? ⟨w.heap.size, 0, none⟩ = some (.slice m.tp m.types.length m.tc) ∧ w5.cell? ⟨w.heap.size, 1, none⟩ = some (.slice m.fp m.funcs.length m.fc) ∧ w5.cell? ⟨w.heap.size, 2, none⟩ = some (.slice m.mp m.memory.length m.mc) ∧ w5.cell? ⟨w.heap.size, 3, none⟩ = some (.slice m.gp m.globals.length m.gc) ∧ w5.cell? ⟨w.heap.size, 4, none⟩ = some (.slice (some ⟨cb, co, none⟩) L m.ec) ∧ w5.cell? ⟨w.heap.size, 5, none⟩ = some (.int .i64 m.start) ∧ w5.cell? ⟨w.heap.size, 6, none⟩ = some (.slice m.dp m.data.length m.dc) := ⟨z1, z2, q0, q1, q2, q3, by rw [q4, HLL.out, hcp], q5, q6⟩; clear z0 z1 z2 q0 q1 q2 q3 q4 q5 q6)
        | (go_at_call 53; refine (cw _).mono ?_; rintro e w6 ⟨rfl, rfl⟩))
      all_goals
        have own5 := ownsMap7 HO4.out o5
        cases ex with
        | false =>
          have hRf : false = R := by rw [← HK1.out, List.all_cons, HX.out]; rfl
          subst hRf
          go_wp2
          go_ret
          exact ⟨rfl, hB5⟩
        | true =>
          have HK2 : Hid (((m.exports.drop (j + 1)).all (exp1 m) && decide ((Maps.size (expD (m.exports.drop (j + 1)) (j + 1) (D.put (keyL nm) (.lit (.int .i64 (j : Int))))) : Int) = (L : Int))) = R) := Lib.hid (by rw [← HK1.out, List.all_cons, HX.out]; rfl)
          go_wp2
          go_roundw
          case rel => exact ⟨j + 1, _, by go_num, by omega, HK2, own5, hB5, m5, s5⟩
          case measure => simp [intOf]; omega
    · have hjL : j = L := by omega
      subst hjL
      have hRt : decide ((Maps.size D : Int) = (j : Int)) = R := by rw [← HK.out, ← HLL.out, List.drop_length]; rfl
      have hlen := hown.len Tryz.underlying102
      obtain ⟨q0, q1, q2, q3, q4, q5, q6⟩ := box_seven7 hbm
      rw [HLL.out] at q4
      clear HK
      go_wp2
      go_ret
      exact ⟨by rw [← hRt]; rfl, hB⟩
end Go.Proofs.YtomffpibdinkaaaGreatDoor
