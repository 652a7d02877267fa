/-
  Two copies of made's module, laid in variables: what is read of the second, and what a store into it makes of it. Plain; no statement is proved here.
-/
import Derived.Test.YtnonedmkdcbmfaaGreatDoorZModHead
namespace Go.Proofs.YtnonedmkdcbmfaaGreatDoor
open Go.RowKit
abbrev sevenOf (m : MoV) : Array Value := #[.slice m.tp 1 m.tc, .slice m.fp 1 m.fc, .slice m.mp 1 m.mc, .slice m.gp 2 m.gc, .slice m.ep 1 m.ec, .int .i64 (-1), .slice m.dp 1 m.dc]
theorem copy_val {w : World} {b1 b2 bc b3 b4 b5 b6 b7 H : Nat} {pc : Option Addr} {cc : Nat} {code : List PI} {m : MoV} {f : FnV} (h : Own1 w b1 b2 bc b3 b4 b5 b6 b7 m f) (L : Like (madeV H pc cc code 2 5 (-5) 0 (-1)) m (madeF pc cc code) f) : m.val = .agg (sevenOf m) := by
  unfold MoV.val sevenOf
  rw [L.types, h.one, L.memory, L.globals, L.exports, L.start, L.data]; rfl
theorem box_seven {W : World} {M : Nat} {v0 v1 v2 v3 v4 v5 v6 : Value} (h : W.heap[M]? = some (.cells #[v0, v1, v2, v3, v4, v5, v6] 29)) : W.cell? ⟨M, 0, none⟩ = some v0 ∧ W.cell? ⟨M, 1, none⟩ = some v1 ∧ W.cell? ⟨M, 2, none⟩ = some v2 ∧ W.cell? ⟨M, 3, none⟩ = some v3 ∧ W.cell? ⟨M, 4, none⟩ = some v4 ∧ W.cell? ⟨M, 5, none⟩ = some v5 ∧ W.cell? ⟨M, 6, none⟩ = some v6 := by
  refine ⟨?_, ?_, ?_, ?_, ?_, ?_, ?_⟩ <;> simp [World.cell?, h]
theorem box_alloc {W : World} {M : Nat} {v0 v1 v2 v3 v4 v5 v6 : Value} (h : W.heap[M]? = some (.cells #[v0, v1, v2, v3, v4, v5, v6] 29)) : (∀ o, (W.alloc o).cell? ⟨M, 0, none⟩ = some v0) ∧ (∀ o, (W.alloc o).cell? ⟨M, 1, none⟩ = some v1) ∧ (∀ o, (W.alloc o).cell? ⟨M, 2, none⟩ = some v2) ∧ (∀ o, (W.alloc o).cell? ⟨M, 3, none⟩ = some v3) ∧ (∀ o, (W.alloc o).cell? ⟨M, 4, none⟩ = some v4) ∧ (∀ o, (W.alloc o).cell? ⟨M, 5, none⟩ = some v5) ∧ (∀ o, (W.alloc o).cell? ⟨M, 6, none⟩ = some v6) := by
  have k : ∀ o, (W.alloc o).heap[M]? = some (.cells #[v0, v1, v2, v3, v4, v5, v6] 29) := fun o => (Below.heap_alloc W o M (heap_in h)).trans h
  exact ⟨fun o => (box_seven (k o)).1, fun o => (box_seven (k o)).2.1, fun o => (box_seven (k o)).2.2.1, fun o => (box_seven (k o)).2.2.2.1, fun o => (box_seven (k o)).2.2.2.2.1, fun o => (box_seven (k o)).2.2.2.2.2.1, fun o => (box_seven (k o)).2.2.2.2.2.2⟩
/-- The second copy: where it lies, and what holds of it. -/
structure Sec (W : World) (B T : Nat) (m : MoV) (f : FnV) (gf gk gd n : Nat) : Prop where
  own : ∃ b1 b2 bc b3 b4 b5 b6, Own1 W b1 b2 bc b3 b4 b5 b6 T m f ∧ B ≤ b1
  fine : Fine m f
  fp : m.fp = some ⟨gf, 0, none⟩
  cp : f.cp = some ⟨gk, 0, none⟩
  dp : m.dp = some ⟨gd, 0, none⟩
  len : f.code.length = n
  data : m.data = [⟨100, someBytes⟩]
theorem Sec.mk0 {W : World} {B b1 b2 bc b3 b4 b5 b6 T H : Nat} {pc : Option Addr} {cc : Nat} {code : List PI} {m : MoV} {f : FnV} (h : Own1 W b1 b2 bc b3 b4 b5 b6 T m f) (hB : B ≤ b1) (hF : Fine m f) (L : Like (madeV H pc cc code 2 5 (-5) 0 (-1)) m (madeF pc cc code) f) (hne : code ≠ []) : ∃ gf gk gd, Sec W B T m f gf gk gd code.length := by
  have hn : f.code.length = code.length := by rw [L.len]; simp [madeF]
  have hp : 0 < code.length := List.length_pos_iff.2 hne
  obtain ⟨gf, h1, _⟩ := own_nil h.funcs.1 (by omega)
  obtain ⟨gk, h2, _⟩ := own_nil h.code.1 (by omega)
  have hd : m.data = [⟨100, someBytes⟩] := L.data
  obtain ⟨gd, h3, _⟩ := own_nil h.data.1 (by rw [hd]; simp)
  exact ⟨gf, gk, gd, ⟨⟨_, _, _, _, _, _, _, h, hB⟩, hF, h1, h2, h3, hn, hd⟩⟩
theorem Sec.below {W W' : World} {B T : Nat} {m : MoV} {f : FnV} {gf gk gd n : Nat} (h : Sec W B T m f gf gk gd n) (hb : Below W.heap.size W W') : Sec W' B T m f gf gk gd n := by
  obtain ⟨b1, b2, bc, b3, b4, b5, b6, ho, hB⟩ := h.own
  exact { h with own := ⟨b1, b2, bc, b3, b4, b5, b6, ho.below hb, hB⟩ }
theorem Sec.at {W : World} {B T : Nat} {m : MoV} {f : FnV} {gf gk gd n : Nat} (h : Sec W B T m f gf gk gd n) : ModAt W m := by
  obtain ⟨b1, b2, bc, b3, b4, b5, b6, ho, _⟩ := h.own
  exact ho.modAt h.fine
theorem Sec.one {W : World} {B T : Nat} {m : MoV} {f : FnV} {gf gk gd n : Nat} (h : Sec W B T m f gf gk gd n) : m.funcs = [f] := h.fine.one
/-- What is read of it, and where it lies. -/
theorem Sec.reads {W : World} {B T : Nat} {m : MoV} {f : FnV} {gf gk gd n : Nat} (h : Sec W B T m f gf gk gd n) {k : Nat} (hk : k < n) :
    W.cell? ⟨gf, 2, none⟩ = some (.slice (some ⟨gk, 0, none⟩) n f.cc) ∧ (∃ x : InsV, f.code[k]? = some x ∧ W.cell? ⟨gk, k * 4 + 1, none⟩ = some (.int .i64 x.a) ∧ inI64 x.a) ∧ W.frozen? ⟨gk, k * 4 + 1, none⟩ = false ∧ W.cell? ⟨gd, 0, none⟩ = some (.int .i64 100) ∧ W.frozen? ⟨gd, 0, none⟩ = false ∧ B ≤ gf ∧ gf < gk ∧ gk < gd ∧ gd < T ∧ n ≤ f.cc := by
  obtain ⟨b1, b2, bc, b3, b4, b5, b6, ho, hB⟩ := h.own
  have := ho.o1; have := ho.o2; have := ho.oc; have := ho.o3; have := ho.o4; have := ho.o5; have := ho.o6
  have hkl : k < f.code.length := by rw [h.len]; exact hk
  have hx : f.code[k]? = some f.code[k] := List.getElem?_eq_getElem hkl
  obtain ⟨e1, e2, e3, e4, _⟩ := ho.turn hx 0
  obtain ⟨g, d1, d2, d3, d4, _⟩ := ho.setOffset h.data 0
  rw [h.cp] at e1
  rw [h.dp] at d1
  injection e1 with e1; injection e1 with e1; subst e1
  injection d1 with d1; injection d1 with d1; subst d1
  have hr := rows_own (l := [f]) (n := 1) (row := FnV.row) (by simpa using ho.funcs.1) rfl (fun _ _ => rfl)
  rw [h.fp] at hr
  have hc := hr.cell (j := 0) (by simp) 2 (v := .slice f.cp f.code.length f.cc) rfl
  rw [h.cp, h.len] at hc
  have hf1 := ho.funcs.2 gf (by rw [h.fp]; rfl)
  have hf2 := (ho.funcs.1.lt gf (by rw [h.fp]; rfl)).1
  have hk1 := (ho.code.1.lt gk (by rw [h.cp]; rfl)).1
  have hd1 := (ho.data.1.lt gd (by rw [h.dp]; rfl)).1
  have hd2 := ho.data.2 gd (by rw [h.dp]; rfl)
  have hk2 := ho.code.2 gk (by rw [h.cp]; rfl)
  have hcap : n ≤ f.cc := by
    have h0 := ho.code.1
    rw [h.cp, h.len] at h0
    obtain ⟨n', rfl⟩ : ∃ n', n = n' + 1 := ⟨n - 1, by omega⟩
    obtain ⟨g, cp, e, _, _, hcp, _⟩ := own_block h0
    cases e; exact hcp
  exact ⟨by simpa using hc, ⟨_, hx, e3, (h.fine.code _ (List.getElem_mem hkl)).2.2.1⟩, e2, d3, d2, by omega, by omega, by omega, by omega, hcap⟩
theorem Sec.turn {W : World} {B T : Nat} {m : MoV} {f : FnV} {gf gk gd n : Nat} (h : Sec W B T m f gf gk gd n) {k : Nat} {x : InsV} (hx : f.code[k]? = some x) (a : Int) (ha : inI64 a) : Sec (W.setCell ⟨gk, k * 4 + 1, none⟩ (.int .i64 a)) B T { m with funcs := [turned f k x a] } (turned f k x a) gf gk gd n := by
  obtain ⟨b1, b2, bc, b3, b4, b5, b6, ho, hB⟩ := h.own
  obtain ⟨e1, _, _, _, h5⟩ := ho.turn hx a
  rw [h.cp] at e1
  injection e1 with e1; injection e1 with e1; subst e1
  exact ⟨⟨_, _, _, _, _, _, _, h5, hB⟩, h.fine.turned hx ha, h.fp, h.cp, h.dp, by show (f.code.set _ _).length = n; rw [List.length_set]; exact h.len, h.data⟩
theorem turned_back {f : FnV} {k : Nat} {x : InsV} (hx : f.code[k]? = some x) (a : Int) : turned (turned f k x a) k { x with a := a } x.a = f := by
  unfold turned
  simp only [List.set_set]
  have : f.code.set k x = f.code := by
    obtain ⟨hk, e⟩ := List.getElem?_eq_some_iff.1 hx
    rw [← e]; exact List.set_getElem_self hk
  rw [this]
theorem Sec.back {W : World} {B T : Nat} {m : MoV} {f : FnV} {gf gk gd n : Nat} {k : Nat} {x : InsV} (hm : m.funcs = [f]) (hx : f.code[k]? = some x) (a : Int) (hxa : inI64 x.a) (h : Sec W B T { m with funcs := [turned f k x a] } (turned f k x a) gf gk gd n) : Sec (W.setCell ⟨gk, k * 4 + 1, none⟩ (.int .i64 x.a)) B T m f gf gk gd n := by
  have hk : k < f.code.length := (List.getElem?_eq_some_iff.1 hx).1
  have h2 := h.turn (k := k) (x := { x with a := a }) (by show (f.code.set k _)[k]? = _; rw [List.getElem?_set_self hk]) x.a hxa
  rw [turned_back hx a] at h2
  obtain ⟨tp, tc, types, fp, fc, funcs, mp, mc, memory, gp, gc, globals, ep, ec, exports, start, dp, dc, data⟩ := m
  simp only at hm
  subst hm
  exact h2
theorem Sec.offset {W : World} {B T : Nat} {m : MoV} {f : FnV} {gf gk gd n : Nat} (h : Sec W B T m f gf gk gd n) : ModAt (W.setCell ⟨gd, 0, none⟩ (.int .i64 7)) { m with data := [⟨7, someBytes⟩] } := by
  obtain ⟨b1, b2, bc, b3, b4, b5, b6, ho, hB⟩ := h.own
  obtain ⟨g, d1, _, _, _, h5⟩ := ho.setOffset h.data 7
  rw [h.dp] at d1
  injection d1 with d1; injection d1 with d1; subst d1
  refine h5.modAt { h.fine with data := ⟨fun t ht => ?_, by show 1 ≤ mostThings; decide⟩ }
  rw [List.mem_singleton.1 ht]; exact ⟨by show inI64 7; decide, by show 10 ≤ maxLen; decide⟩
theorem val_turned {m : MoV} {f g : FnV} (h : m.funcs = [f]) : ({ m with funcs := [g] } : MoV).val = m.val := by unfold MoV.val; rw [h]; rfl
theorem val_data {m : MoV} {d e : DatV} (h : m.data = [d]) : ({ m with data := [e] } : MoV).val = m.val := by unfold MoV.val; rw [h]; rfl
/-- Three variables with modules, and the second copy's blocks. -/
structure All (w3 : World) (M A Z : Nat) (vm va vb : Array Value) (X : World) (B T : Nat) (m : MoV) (f : FnV) (gf gk gd n : Nat) : Prop where
  bm : X.heap[M]? = some (.cells vm 29)
  ba : X.heap[A]? = some (.cells va 29)
  bz : X.heap[Z]? = some (.cells vb 29)
  mA : M < A
  aB : A < B
  tZ : T ≤ Z
  sec : Sec X B T m f gf gk gd n
  low : Below w3.heap.size w3 X
  lw : w3.heap.size ≤ B
theorem All.below {w3 X Y : World} {M A Z B T gf gk gd n : Nat} {vm va vb : Array Value} {m : MoV} {f : FnV} (h : All w3 M A Z vm va vb X B T m f gf gk gd n) (hb : Below X.heap.size X Y) : All w3 M A Z vm va vb Y B T m f gf gk gd n :=
  ⟨(hb.block _ (heap_in h.bm)).trans h.bm, (hb.block _ (heap_in h.ba)).trans h.ba, (hb.block _ (heap_in h.bz)).trans h.bz, h.mA, h.aB, h.tZ, h.sec.below hb, belt h.low (Nat.le_refl _) hb, h.lw⟩
theorem All.drew {w3 X : World} {M A Z B T gf gk gd n : Nat} {vm va vb : Array Value} {m : MoV} {f : FnV} (h : All w3 M A Z vm va vb X B T m f gf gk gd n) : All w3 M A Z vm va vb X.drew B T m f gf gk gd n := h.below ((Below.refl _ _).drew)
theorem All.turn {w3 X : World} {M A Z B T gf gk gd n : Nat} {vm va vb : Array Value} {m : MoV} {f : FnV} (h : All w3 M A Z vm va vb X B T m f gf gk gd n) {k : Nat} (hk : k < n) {x : InsV} (hx : f.code[k]? = some x) (a : Int) (ha : inI64 a) :
    All w3 M A Z vm va vb (X.setCell ⟨gk, k * 4 + 1, none⟩ (.int .i64 a)) B T { m with funcs := [turned f k x a] } (turned f k x a) gf gk gd n := by
  obtain ⟨_, _, _, _, _, r1, r2, r3, r4, _⟩ := h.sec.reads hk
  have := h.mA; have := h.aB; have := h.tZ; have := h.lw
  refine ⟨(Below.heap_setCell _ _ _ _ (by show M ≠ gk; omega)).trans h.bm, (Below.heap_setCell _ _ _ _ (by show A ≠ gk; omega)).trans h.ba, (Below.heap_setCell _ _ _ _ (by show Z ≠ gk; omega)).trans h.bz, h.mA, h.aB, h.tZ, h.sec.turn hx a ha, h.low.setCell (by show w3.heap.size ≤ gk; omega) _, h.lw⟩
theorem All.back {w3 X : World} {M A Z B T gf gk gd n : Nat} {vm va vb : Array Value} {m : MoV} {f : FnV} {k : Nat} {x : InsV} {a : Int} (h : All w3 M A Z vm va vb X B T { m with funcs := [turned f k x a] } (turned f k x a) gf gk gd n) (hk : k < n) (hm : m.funcs = [f]) (hx : f.code[k]? = some x) (hxa : inI64 x.a) :
    All w3 M A Z vm va vb (X.setCell ⟨gk, k * 4 + 1, none⟩ (.int .i64 x.a)) B T m f gf gk gd n := by
  obtain ⟨_, _, _, _, _, r1, r2, r3, r4, _⟩ := h.sec.reads hk
  have := h.mA; have := h.aB; have := h.tZ; have := h.lw
  refine ⟨(Below.heap_setCell _ _ _ _ (by show M ≠ gk; omega)).trans h.bm, (Below.heap_setCell _ _ _ _ (by show A ≠ gk; omega)).trans h.ba, (Below.heap_setCell _ _ _ _ (by show Z ≠ gk; omega)).trans h.bz, h.mA, h.aB, h.tZ, Sec.back hm hx a hxa h.sec, h.low.setCell (by show w3.heap.size ≤ gk; omega) _, h.lw⟩
theorem All.start {w3 w4 : World} {M A B gf gk gd n : Nat} {vm va : Array Value} {m : MoV} {f : FnV} (h1 : w4.heap[M]? = some (.cells vm 29)) (h2 : w4.heap[A]? = some (.cells va 29)) (h3 : M < A) (h4 : A < B) (h5 : Sec w4 B w4.heap.size m f gf gk gd n) (h6 : Below w3.heap.size w3 w4) (h7 : w3.heap.size ≤ B) (vb : Array Value) : All w3 M A w4.heap.size vm va vb (w4.alloc (.cells vb 29)) B w4.heap.size m f gf gk gd n :=
  ⟨(Below.heap_alloc _ _ _ (heap_in h1)).trans h1, (Below.heap_alloc _ _ _ (heap_in h2)).trans h2, heap_alloc_new _ _, h3, h4, Nat.le_refl _, h5.below ((Below.refl _ _).alloc (Nat.le_refl _) _), h6.alloc h6.size _, h7⟩
/-- What a walk reads of the three. -/
theorem All.cells {w3 X : World} {M A Z B T gf gk gd n : Nat} {m0 m1 m2 m3 m4 m5 m6 a0 a1 a2 a3 a4 a5 a6 b0 b1 b2 b3 b4 b5 b6 : Value} {m : MoV} {f : FnV} (h : All w3 M A Z #[m0, m1, m2, m3, m4, m5, m6] #[a0, a1, a2, a3, a4, a5, a6] #[b0, b1, b2, b3, b4, b5, b6] X B T m f gf gk gd n) {k : Nat} (hk : k < n) :
    (X.cell? ⟨M, 0, none⟩ = some m0 ∧ X.cell? ⟨M, 1, none⟩ = some m1 ∧ X.cell? ⟨M, 2, none⟩ = some m2 ∧ X.cell? ⟨M, 3, none⟩ = some m3 ∧ X.cell? ⟨M, 4, none⟩ = some m4 ∧ X.cell? ⟨M, 5, none⟩ = some m5 ∧ X.cell? ⟨M, 6, none⟩ = some m6) ∧ (X.cell? ⟨A, 0, none⟩ = some a0 ∧ X.cell? ⟨A, 1, none⟩ = some a1 ∧ X.cell? ⟨A, 2, none⟩ = some a2 ∧ X.cell? ⟨A, 3, none⟩ = some a3 ∧ X.cell? ⟨A, 4, none⟩ = some a4 ∧ X.cell? ⟨A, 5, none⟩ = some a5 ∧ X.cell? ⟨A, 6, none⟩ = some a6) ∧ (X.cell? ⟨Z, 0, none⟩ = some b0 ∧ X.cell? ⟨Z, 1, none⟩ = some b1 ∧ X.cell? ⟨Z, 2, none⟩ = some b2 ∧ X.cell? ⟨Z, 3, none⟩ = some b3 ∧ X.cell? ⟨Z, 4, none⟩ = some b4 ∧ X.cell? ⟨Z, 5, none⟩ = some b5 ∧ X.cell? ⟨Z, 6, none⟩ = some b6) ∧ X.cell? ⟨gf, 2, none⟩ = some (.slice (some ⟨gk, 0, none⟩) n f.cc) ∧ (∃ x : InsV, f.code[k]? = some x ∧ X.cell? ⟨gk, k * 4 + 1, none⟩ = some (.int .i64 x.a) ∧ inI64 x.a) ∧ X.frozen? ⟨gk, k * 4 + 1, none⟩ = false ∧ X.cell? ⟨gd, 0, none⟩ = some (.int .i64 100) ∧ X.frozen? ⟨gd, 0, none⟩ = false := by
  obtain ⟨f1, f2, f3, f4, f5, _⟩ := h.sec.reads hk
  exact ⟨box_seven h.bm, box_seven h.ba, box_seven h.bz, f1, f2, f3, f4, f5⟩
theorem turn_num {a : Int} (h : inI64 a) : ∃ y, IntKind.i64.wrap (a + 1) = y ∧ inI64 y ∧ y ≠ a ∧ IntKind.i64.wrap (y - 1) = a := by
  unfold inI64 at *
  by_cases he : a = 9223372036854775807
  · subst he
    exact ⟨-9223372036854775808, by rw [IntKind.wrap_i64]; decide, by decide, by decide, by rw [IntKind.wrap_i64]; decide⟩
  · exact ⟨a + 1, by rw [IntKind.wrap_i64]; omega, by omega, by omega, by rw [IntKind.wrap_i64]; omega⟩
theorem same_turned {H : Nat} {pc : Option Addr} {cc : Nat} {code : List PI} {m : MoV} {f : FnV} (L : Like (madeV H pc cc code 2 5 (-5) 0 (-1)) m (madeF pc cc code) f) {k : Nat} {x : InsV} (hx : f.code[k]? = some x) {y : Int} (hy : y ≠ x.a) : sameMod { m with funcs := [turned f k x y] } (madeV H pc cc code 2 5 (-5) 0 (-1)) = false := by
  obtain ⟨hk, e⟩ := List.getElem?_eq_some_iff.1 hx
  have hk2 : k < (madeF pc cc code).code.length := by rw [← L.len]; exact hk
  refine same_not_code (f := turned f k x y) (f' := madeF pc cc code) rfl rfl k (by show k < (f.code.set k _).length; rw [List.length_set]; exact hk) hk2 ?_
  have h1 : (turned f k x y).code[k]? = some { x with a := y } := by show (f.code.set k _)[k]? = _; rw [List.getElem?_set_self hk]
  have h2 := (L.code k hk2 hk).2.1
  rw [(List.getElem?_eq_some_iff.1 h1).2, ← h2, e]
  exact hy
theorem same_data7 {m ma : MoV} (h : ma.data = [⟨100, someBytes⟩]) : sameMod { m with data := [⟨7, someBytes⟩] } ma = false :=
  same_not_data 0 (by show 0 < 1; omega) (by rw [h]; show 0 < 1; omega) (by simp [h])
theorem All.turned_x {w3 X : World} {M A Z B T gf gk gd n : Nat} {vm va vb : Array Value} {m : MoV} {f : FnV} {k : Nat} {x : InsV} {y : Int} (h : All w3 M A Z vm va vb X B T { m with funcs := [turned f k x y] } (turned f k x y) gf gk gd n) (hk : k < n) (hx : f.code[k]? = some x) : X.cell? ⟨gk, k * 4 + 1, none⟩ = some (.int .i64 y) ∧ X.cell? ⟨gf, 2, none⟩ = some (.slice (some ⟨gk, 0, none⟩) n f.cc) ∧ X.frozen? ⟨gk, k * 4 + 1, none⟩ = false := by
  obtain ⟨f1, ⟨z, hz, f2, _⟩, f3, _⟩ := h.sec.reads hk
  have h1 : (turned f k x y).code[k]? = some { x with a := y } := by show (f.code.set k _)[k]? = _; rw [List.getElem?_set_self (List.getElem?_eq_some_iff.1 hx).1]
  rw [h1] at hz
  injection hz with hz
  subst hz
  exact ⟨f2, f1, f3⟩
end Go.Proofs.YtnonedmkdcbmfaaGreatDoor
