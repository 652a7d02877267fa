/-
  Package valid: a function's type; a call: walked. Contracts that the proofs call; no statement is proved here.
-/
import Derived.Test.YtomffpibdinkaaaGreatDoorValTable
import Derived.Laws.ResultCell
namespace Go.Proofs.YtomffpibdinkaaaGreatDoor
open Go.RowKit
set_option linter.unusedVariables false
set_option linter.unusedSimpArgs false
variable {w0 : World} {B M : Nat} {m : MoV} {lo wh : ByteArray} {s : VS} {sv ov : Value} {w : World}

def tyOr (o : Option TyV) : TyV := o.getD ⟨⟨#[]⟩, ⟨#[]⟩⟩
def TyV.val7 (t : TyV) : Value := .agg #[.string t.params, .string t.results]
theorem box_mod7 {W : World} {b : Nat} {u0 u1 u2 u3 u4 u5 u6 : Value} {t : TypeId} (h : W.heap[b]? = some (.cells #[u0, u1, u2, u3, u4, u5, u6] t)) : W.cell? ⟨b, 0, none⟩ = some u0 ∧ W.cell? ⟨b, 1, none⟩ = some u1 := by
  constructor <;> (rw [World.cell?, h]; rfl)
theorem box_two7 {W : World} {b : Nat} {u0 u1 : Value} {t : TypeId} (h : W.heap[b]? = some (.cells #[u0, u1] t)) : W.cell? ⟨b, 0, none⟩ = some u0 ∧ W.cell? ⟨b, 1, none⟩ = some u1 ∧ W.frozen? ⟨b, 0, none⟩ = false ∧ W.frozen? ⟨b, 1, none⟩ = false := by
  refine ⟨by rw [World.cell?, h]; rfl, by rw [World.cell?, h]; rfl, by simp [World.frozen?, h], by simp [World.frozen?, h]⟩
set_option maxRecDepth 100000 in
set_option maxHeartbeats 8000000 in
theorem v_typeOf (hm : ModAt w m) (n : Int) (hn : inI64 n) : Calls Tryz.prog 55 #[m.val, .int .i64 n] w fun e w' => e = .returned (.tuple #[(tyOr (typeOf7 m n)).val7, .bool (typeOf7 m n).isSome]) ∧ Below w.heap.size w w' := by
  obtain ⟨W1, hW1⟩ : ∃ W, W = (w.alloc (.cells #[.slice m.tp m.types.length m.tc, .slice m.fp m.funcs.length m.fc, .slice m.mp m.memory.length m.mc, .slice m.gp m.globals.length m.gc, .slice m.ep m.exports.length m.ec, .int .i64 m.start, .slice m.dp m.data.length m.dc] 31)).alloc (.cells #[.string ⟨#[]⟩, .string ⟨#[]⟩] 51) := ⟨_, rfl⟩
  have hB : Below w.heap.size w W1 := by rw [hW1]; exact ((Below.refl _ _).alloc (Nat.le_refl _) _).alloc (by simp) _
  have hm1 := hm.below hB (Nat.le_refl _)
  have hb1 : W1.heap[w.heap.size]? = some (.cells #[.slice m.tp m.types.length m.tc, .slice m.fp m.funcs.length m.fc, .slice m.mp m.memory.length m.mc, .slice m.gp m.globals.length m.gc, .slice m.ep m.exports.length m.ec, .int .i64 m.start, .slice m.dp m.data.length m.dc] 31) := by
    rw [hW1]
    exact (Below.heap_alloc _ _ _ (by simp)).trans (heap_alloc_new _ _)
  have hb2 : W1.heap[w.heap.size + 1]? = some (.cells #[.string ⟨#[]⟩, .string ⟨#[]⟩] 51) := by
    rw [hW1]
    have := heap_alloc_new (w.alloc (.cells #[.slice m.tp m.types.length m.tc, .slice m.fp m.funcs.length m.fc, .slice m.mp m.memory.length m.mc, .slice m.gp m.globals.length m.gc, .slice m.ep m.exports.length m.ec, .int .i64 m.start, .slice m.dp m.data.length m.dc] 31)) (.cells #[.string ⟨#[]⟩, .string ⟨#[]⟩] 51)
    simpa using this
  obtain ⟨a0, a1⟩ := box_mod7 hb1
  obtain ⟨b0, b1, f0, f1⟩ := box_two7 hb2
  have cw := fun W => v_within n (m.funcs.length : Int) W
  have hfl := hm.funcsMost
  have htl := hm.typesMost
  unfold mostThings at hfl htl
  obtain ⟨n0, n1⟩ := hn
  have HB := fun q => Lib.hid (below_drewN hB q)
  by_cases hi : 0 ≤ n ∧ n < (m.funcs.length : Int)
  · have hd : decide (0 ≤ n ∧ n < (m.funcs.length : Int)) = true := decide_eq_true hi
    rw [hd] at cw
    obtain ⟨j, rfl⟩ := Int.eq_ofNat_of_zero_le hi.1
    have hj : j < m.funcs.length := by omega
    have hR := hm1.funcs
    obtain ⟨gb, go, hp, hgb⟩ := hR.start hj rfl
    rw [hp] at hR a1
    have k0 : W1.cell? ⟨gb, go + j * 3 + 0, none⟩ = some (.int .i64 m.funcs[j].type) := hR.cell hj 0 rfl
    simp only [Nat.add_zero] at k0
    have cv := fun W => v_within m.funcs[j].type (m.types.length : Int) W
    have z0 : (0 : Int) ≤ (j : Int) := by omega
    have z1 : (j : Int) < (m.funcs.length : Int) := by omega
    by_cases hk : 0 ≤ m.funcs[j].type ∧ m.funcs[j].type < (m.types.length : Int)
    · have hd2 : decide (0 ≤ m.funcs[j].type ∧ m.funcs[j].type < (m.types.length : Int)) = true := decide_eq_true hk
      rw [hd2] at cv
      obtain ⟨i, hi2⟩ := Int.eq_ofNat_of_zero_le hk.1
      have hil : i < m.types.length := by omega
      have e : typeOf7 m (j : Int) = some m.types[i] := by
        unfold typeOf7
        rw [if_pos hi, Int.toNat_natCast, List.getElem?_eq_getElem hj]
        simp only
        rw [if_pos hk, hi2, Int.toNat_natCast, List.getElem?_eq_getElem hil]
      rw [e]
      have hT := hm1.types
      obtain ⟨tb, tq, hp2, htb⟩ := hT.start hil rfl
      rw [hp2] at hT a0
      have t0 : W1.cell? ⟨tb, tq + i * 2 + 0, none⟩ = some (.string m.types[i].params) := hT.cell hil 0 rfl
      have t1 : W1.cell? ⟨tb, tq + i * 2 + 1, none⟩ = some (.string m.types[i].results) := hT.cell hil 1 rfl
      simp only [Nat.add_zero] at t0
      rw [hi2] at k0 cv
      have y0 : (0 : Int) ≤ (i : Int) := by omega
      have y1 : (i : Int) < (m.types.length : Int) := by omega
      dsimp only [tyOr, Option.getD, TyV.val7, Option.isSome]
      generalize m.types[i] = b at *
      unfold MoV.val
      rw [hp, hp2]
      rw [hp, hp2] at hW1
      clear e hp hp2 hd hd2 hR hT hm hm1 hi hk hi2 hb1 hb2 hB
      generalize hL : m.funcs.length = L at *
      generalize hL2 : m.types.length = L2 at *
      clear hL hL2
      go_enter Tryz.func55, Tryz.ntmps55
      go_wp2
      rw [← hW1]
      clear hW1
      go_quiet ((go_at_call 53; first | (with_reducible refine Calls.quiet_of_same ((cw _).mono fun e w' ⟨h1, h2⟩ => ⟨h1, h2.symm⟩)) | (with_reducible refine Calls.quiet_of_same ((cv _).mono fun e w' ⟨h1, h2⟩ => ⟨h1, h2.symm⟩))))
      go_wp2
      go_region
      go_wp2
      refine bodyPost_ret (v := .tuple #[.agg #[.string b.params, .string b.results], .bool true]) ?_ rfl ?_
      · rw [results_cell_tmp rfl]; go_simp
      · exact ⟨rfl, ((HB _).out.setCell (Nat.le_succ _) _).setCell (Nat.le_succ _) _⟩
    · have hd2 : decide (0 ≤ m.funcs[j].type ∧ m.funcs[j].type < (m.types.length : Int)) = false := decide_eq_false hk
      rw [hd2] at cv
      have e : typeOf7 m (j : Int) = none := by
        unfold typeOf7
        rw [if_pos hi, Int.toNat_natCast, List.getElem?_eq_getElem hj]
        simp only
        rw [if_neg hk]
      rw [e]
      dsimp only [tyOr, Option.getD, TyV.val7, Option.isSome]
      have hin := (hm.funcsIn _ (List.getElem_mem hj)).2.2
      unfold MoV.val
      rw [hp]
      rw [hp] at hW1
      clear e hp hd hd2 hR hm hm1 hi hk hb1 hb2 hB
      generalize m.funcs[j].type = ft at *
      generalize hL : m.funcs.length = L at *
      generalize hL2 : m.types.length = L2 at *
      clear hL hL2
      go_enter Tryz.func55, Tryz.ntmps55
      go_wp2
      rw [← hW1]
      clear hW1
      go_quiet ((go_at_call 53; first | (with_reducible refine Calls.quiet_of_same ((cw _).mono fun e w' ⟨h1, h2⟩ => ⟨h1, h2.symm⟩)) | (with_reducible refine Calls.quiet_of_same ((cv _).mono fun e w' ⟨h1, h2⟩ => ⟨h1, h2.symm⟩))))
      go_wp2
      refine bodyPost_ret (v := .tuple #[.agg #[.string ⟨#[]⟩, .string ⟨#[]⟩], .bool false]) ?_ rfl ?_
      · rw [results_cell_tmp rfl]; go_simp
      · exact ⟨rfl, ((HB _).out.setCell (Nat.le_succ _) _).setCell (Nat.le_succ _) _⟩
  · have hd : decide (0 ≤ n ∧ n < (m.funcs.length : Int)) = false := decide_eq_false hi
    rw [hd] at cw
    have e : typeOf7 m n = none := by unfold typeOf7; rw [if_neg hi]
    rw [e]
    dsimp only [tyOr, Option.getD, TyV.val7, Option.isSome]
    unfold MoV.val
    clear e hd hm hm1 hi hb1 hb2 hB
    go_enter Tryz.func55, Tryz.ntmps55
    go_wp2
    rw [← hW1]
    clear hW1
    go_quiet ((go_at_call 53; first | (with_reducible refine Calls.quiet_of_same ((cw _).mono fun e w' ⟨h1, h2⟩ => ⟨h1, h2.symm⟩))))
    go_wp2
    refine bodyPost_ret (v := .tuple #[.agg #[.string ⟨#[]⟩, .string ⟨#[]⟩], .bool false]) ?_ rfl ?_
    · rw [results_cell_tmp rfl]; go_simp
    · exact ⟨rfl, ((HB _).out.setCell (Nat.le_succ _) _).setCell (Nat.le_succ _) _⟩
theorem push7 (W : World) (o : Obj) (b : Nat) : (W.alloc o).heap[b]? = if b = W.heap.size then some o else W.heap[b]? := by
  show (W.heap.push o)[b]? = _
  rw [Array.getElem?_push]
theorem push_size7 (W : World) (o : Obj) : (W.alloc o).heap.size = W.heap.size + 1 := by
  show (W.heap.push o).size = _
  rw [Array.size_push]
theorem drew_heap7 (W : World) : W.drew.heap = W.heap := rfl
theorem tyOr_short {m : MoV} (h : ∀ t ∈ m.types, t.params.size ≤ 1000000 ∧ t.results.size ≤ 1) (n : Int) : (tyOr (typeOf7 m n)).params.size ≤ 1000000 ∧ (tyOr (typeOf7 m n)).results.size ≤ 1 := by
  have hz : (tyOr none).params.size ≤ 1000000 ∧ (tyOr none).results.size ≤ 1 := by decide
  unfold typeOf7
  split
  · split
    · split
      · rename_i f hf ht
        cases hq : m.types[f.type.toNat]? with
        | none => exact hz
        | some t => exact h t (List.mem_of_getElem? hq)
      · exact hz
    · exact hz
  · exact hz
set_option maxRecDepth 100000 in
set_option maxHeartbeats 8000000 in
theorem s_call (h : WAt w0 B M m lo wh s sv ov w) (hr : Room7 s) (hm : ModAt w0 m) (hts : ∀ t ∈ m.types, t.params.size ≤ 1000000 ∧ t.results.size ≤ 1) (x : InsV) (ha : inI64 x.a) : Calls Tryz.prog 80 #[.pointer (some ⟨B, 0, none⟩), x.val] w (DidV w0 B M m lo wh (((s.ask (typeOf7 m x.a).isSome).take (tyOr (typeOf7 m x.a)).params.data.toList).put (tyOr (typeOf7 m x.a)).results.data.toList) sv ov w (.tuple #[])) := by
  obtain ⟨hI, mI, nI, aI⟩ := h.boxed x
  clear h
  obtain ⟨WI, hWI⟩ : ∃ W, W = w.alloc (insObj x) := ⟨_, rfl⟩
  rw [← hWI] at hI mI nI
  obtain ⟨c0, c1, c2, c3⟩ := box_ins nI
  have ct := fun (W : World) (hb : Below WI.heap.size WI W) => v_typeOf (hm.below (hI.below.trans (hb.mono hI.below.size)) (Nat.le_refl _)) x.a ha
  obtain ⟨hq1, hq2⟩ := tyOr_short hts x.a
  obtain ⟨ok, hok⟩ : ∃ ok, (typeOf7 m x.a).isSome = ok := ⟨_, rfl⟩
  obtain ⟨⟨tp, tr⟩, ht⟩ : ∃ t, tyOr (typeOf7 m x.a) = t := ⟨_, rfl⟩
  rw [hok, ht] at ct
  rw [ht] at hq1 hq2
  rw [hok, ht]
  dsimp only [TyV.val7] at ct hq1 hq2 ⊢
  have g0 : WI.cell? ⟨B, 0, none⟩ = some (.slice m.tp m.types.length m.tc) := hI.cell 0
  have g1 : WI.cell? ⟨B, 1, none⟩ = some (.slice m.fp m.funcs.length m.fc) := hI.cell 1
  have g2 : WI.cell? ⟨B, 2, none⟩ = some (.slice m.mp m.memory.length m.mc) := hI.cell 2
  have g3 : WI.cell? ⟨B, 3, none⟩ = some (.slice m.gp m.globals.length m.gc) := hI.cell 3
  have g4 : WI.cell? ⟨B, 4, none⟩ = some (.slice m.ep m.exports.length m.ec) := hI.cell 4
  have g5 : WI.cell? ⟨B, 5, none⟩ = some (.int .i64 m.start) := hI.cell 5
  have g6 : WI.cell? ⟨B, 6, none⟩ = some (.slice m.dp m.data.length m.dc) := hI.cell 6
  have hst := hr.stk
  have hne := hr.ne
  have hlB : B < WI.heap.size := Nat.lt_trans hI.hM hI.hl
  have hl1 : w.heap.size < WI.heap.size := in_heap7 nI
  have HI := Lib.hid hI
  have HM := Lib.hid mI
  unfold insObj at hWI
  unfold InsV.val
  unfold MoV.val at ct
  clear hok ht hm hts hI mI nI
  go_enter Tryz.func80, Tryz.ntmps80
  go_wp2
  rw [← hWI]
  clear hWI
  go_cut [4, 5] from 16 (fun s4 s5 W => ∃ (A0 : Nat), s4 = .pointer (some ⟨A0, 0, none⟩) ∧ s5 = .bool ok ∧ W.heap[A0]? = some (.cells #[.string tp, .string tr] 51) ∧ WI.heap.size ≤ A0 ∧ Below WI.heap.size WI W)
  case first =>
    go_region_with (go_at_call 55; refine (ct _ (by repeat (first | exact Below.refl _ _ | refine Below.drew ?_ | refine Below.alloc ?_ (by first | (simp; done) | (simp; omega)) _))).mono ?_; rintro e w8 ⟨rfl, hb8⟩; have hF : Below WI.heap.size WI w8 := Below.trans (by repeat (first | exact Below.refl _ _ | refine Below.drew ?_ | refine Below.alloc ?_ (by first | (simp; done) | (simp; omega)) _) : Below WI.heap.size WI _) (hb8.mono (by simp only [drew_heap7, push_size7]; omega)); (first | (have hz8 : w8.heap[WI.heap.size]? = some (.cells #[.string ⟨#[]⟩, .string ⟨#[]⟩] 51) := (hb8.block _ (by simp only [drew_heap7, push_size7]; omega)).trans (by simp only [drew_heap7, push7, push_size7]; simp); obtain ⟨i0, i1, j0, j1⟩ := box_two7 hz8; have hl8 := in_heap7 hz8) | skip))
    all_goals
      go_wp2
      go_meet
      first
        | exact ⟨w8.heap.size, rfl, rfl, heap_alloc_new _ _, hF.size, hF.alloc hF.size _⟩
        | exact ⟨WI.heap.size, rfl, rfl, by rw [heap_setCell_same _ _ _ _ _ _ (heap_setCell_same _ _ _ _ _ _ hz8)]; rfl, Nat.le_refl _, (hF.setCell (Nat.le_refl _) _).setCell (Nat.le_refl _) _⟩
  case rest =>
    obtain ⟨A0, rfl, rfl, hbx, hA, hBW⟩ := hcut
    have hW := HI.out.at' hBW
    have aF := HI.out.apart hA
    have MM := HM.out.then hBW
    have ca := v_ask hW ok
    clear hW ct hBW g0 g1 g2 g3 g4 g5 g6 c0 c1 c2 c3
    go_wp2_with fail
    refine ca.mono ?_
    rintro e w4 ⟨sv4, ov4, rfl, h4, m4⟩
    obtain ⟨n4, a4⟩ := m4.keeps (w0 := w0) hbx aF
    obtain ⟨k0, k1, _, _⟩ := box_two7 n4
    have ctk := v_take h4 (by rw [ask_opens]; exact hne) tp (by omega)
    have hl4 := take_len7 (s.ask ok) tp.data.toList
    rw [ask_stack] at hl4
    obtain ⟨s5, hs5⟩ : ∃ s5, (s.ask ok).take tp.data.toList = s5 := ⟨_, rfl⟩
    rw [hs5] at ctk hl4
    have HS5 := Lib.hid hs5
    have M4 := Lib.hid (MM.trans m4)
    clear ca h4 hs5 MM m4
    go_wp2_with fail
    refine ctk.mono ?_
    rintro e w5 ⟨sv5, ov5, rfl, h5, m5⟩
    obtain ⟨n5, a5⟩ := m5.keeps (w0 := w0) n4 a4
    obtain ⟨k0, k1, _, _⟩ := box_two7 n5
    have cp := v_put h5 tr (by omega)
    have M5 := Lib.hid (M4.out.trans m5)
    clear ctk h5 m5 M4
    go_wp2_with (go_at_call 107; (with_reducible refine cp.mono ?_); rintro e w6 ⟨sv6, ov6, rfl, h6, m6⟩)
    go_end0
    exact ⟨_, _, rfl, HS5.out ▸ h6, M5.out.trans m6⟩
end Go.Proofs.YtomffpibdinkaaaGreatDoor
