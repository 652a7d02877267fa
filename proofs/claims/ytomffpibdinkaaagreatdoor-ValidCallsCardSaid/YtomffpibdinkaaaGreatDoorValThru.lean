/-
  Package valid's walk goes through a function's code: walked as far as its start. Facts and contracts that the proofs call; no statement is proved here.
-/
import Derived.Test.YtomffpibdinkaaaGreatDoorValInv
import Derived.LoopTactic
import Derived.Deep.Cut
namespace Go.Proofs.YtomffpibdinkaaaGreatDoor
open Go.RowKit Go.Maps
set_option linter.unusedVariables false
set_option linter.unusedSimpArgs false
variable {w0 : World} {B M : Nat} {m : MoV} {lo wh : ByteArray} {s : VS} {sv ov : Value} {w : World}

def fnObj (f : FnV) : Obj := .cells #[.int .i64 f.type, .string f.locals, .slice f.cp f.code.length f.cc] 35
def ftObj (t : TyV) : Obj := .cells #[.string t.params, .string t.results] 51
theorem box_three7 {W : World} {b : Nat} {u0 u1 u2 : Value} {t : TypeId} (h : W.heap[b]? = some (.cells #[u0, u1, u2] t)) : W.cell? ⟨b, 0, none⟩ = some u0 ∧ W.cell? ⟨b, 1, none⟩ = some u1 ∧ W.cell? ⟨b, 2, none⟩ = some u2 := by
  refine ⟨?_, ?_, ?_⟩ <;> (rw [World.cell?, h]; rfl)
def Gone (w0 : World) (B M : Nat) (m : MoV) (ok : Bool) (e : Ending) (w' : World) : Prop :=
  e = .returned (.bool ok) ∧ ∃ lo' wh' s' sv' ov', WSt w0 B M m lo' wh' s' sv' ov' w' ∧ (ok = true → s'.opens = [])
theorem WSt.at' (h : WSt w0 B M m lo wh s sv ov w) {w' : World} (hb : Below w.heap.size w w') : WSt w0 B M m lo wh s sv ov w' := by
  obtain ⟨h, D, hD⟩ := h
  exact ⟨h.at' hb, D, hD.same (hb.block M h.hl)⟩
theorem WSt.setFn (h : WSt w0 B M m lo wh s sv ov w) (lo' wh' : ByteArray) : WSt w0 B M m lo' wh' s sv ov ((w.setCell ⟨B, 8, none⟩ (.string lo')).setCell ⟨B, 9, none⟩ (.string wh')).drew := by
  obtain ⟨h, D, hD⟩ := h
  have hM := h.hM
  have k : ∀ i, i ≠ B → ((w.setCell ⟨B, 8, none⟩ (.string lo')).setCell ⟨B, 9, none⟩ (.string wh')).drew.heap[i]? = w.heap[i]? := fun i hi => (Below.heap_setCell _ _ _ _ hi).trans (Below.heap_setCell _ _ _ _ hi)
  refine ⟨⟨((h.below.setCell h.hB _).setCell h.hB _).drew, ?_, own_same7 h.stk fun g hg => k g (h.ne.1 g hg), own_same7 h.opn fun g hg => k g (h.ne.2 g hg), h.far, h.hB, h.hM, by simpa [World.setCell] using h.hl, h.wf, h.few⟩, D, hD.same (k M (by omega))⟩
  show ((w.setCell ⟨B, 8, none⟩ (.string lo')).setCell ⟨B, 9, none⟩ (.string wh')).heap[B]? = _
  rw [heap_setCell_same _ B 9 _ _ _ (heap_setCell_same w B 8 _ _ _ h.box)]
  rfl
theorem WSt.clear {p : Option Addr} {n c : Nat} (h : WSt w0 B M m lo wh s (.slice p n c) ov w) (h0 : s.opens = []) : WSt w0 B M m lo wh ⟨[], [], false⟩ (.slice p 0 c) ov ((w.setCell ⟨B, 10, none⟩ (.slice p 0 c)).setCell ⟨B, 12, none⟩ (.bool false)) := by
  obtain ⟨h, D, hD⟩ := h
  have hM := h.hM
  have k : ∀ i, i ≠ B → ((w.setCell ⟨B, 10, none⟩ (.slice p 0 c)).setCell ⟨B, 12, none⟩ (.bool false)).heap[i]? = w.heap[i]? := fun i hi => (Below.heap_setCell _ _ _ _ hi).trans (Below.heap_setCell _ _ _ _ hi)
  have ho : w.ownsRow (M + 1) 5 1 (.slice p 0 c) 0 [] := by
    have hs := h.stkLen
    rcases own_any7 hs with ⟨e, h1, _⟩ | ⟨g, c', e, _, _, _⟩
    · cases e; exact ⟨rfl, .inl ⟨rfl, rfl⟩⟩
    · injection e with e1 e2 e3
      subst e1 e3
      rw [← e2] at hs
      have := own_prefix hs (Nat.zero_le n)
      simpa using this
  have hp := h.opn
  rw [h0] at hp
  have hfar : ∀ g, (Value.slice p 0 c).ownBlock = some g → ov.ownBlock ≠ some g := fun g hg => h.far g (by rw [← hg]; cases p <;> rfl)
  have hb : Below w0.heap.size w0 ((w.setCell ⟨B, 10, none⟩ (.slice p 0 c)).setCell ⟨B, 12, none⟩ (.bool false)) := (h.below.setCell h.hB _).setCell h.hB _
  have hbx : ((w.setCell ⟨B, 10, none⟩ (.slice p 0 c)).setCell ⟨B, 12, none⟩ (.bool false)).heap[B]? = some (.cells (walkCells m M lo wh (.slice p 0 c) ov false) 112) := by
    rw [heap_setCell_same _ B 12 _ _ _ (heap_setCell_same w B 10 _ _ _ h.box)]
    rfl
  have hso : Own ((w.setCell ⟨B, 10, none⟩ (.slice p 0 c)).setCell ⟨B, 12, none⟩ (.bool false)) (M + 1) 5 (.slice p 0 c) [] := own_same7 ho fun g hg => k g (by have := (own_lt7 ho g hg).1; omega)
  have hoo : ((w.setCell ⟨B, 10, none⟩ (.slice p 0 c)).setCell ⟨B, 12, none⟩ (.bool false)).ownsRow (M + 1) 115 4 ov 0 (opnB []) := own_same7 hp fun g hg => k g (by have := (own_lt7 hp g hg).1; omega)
  exact ⟨⟨hb, hbx, hso, hoo, hfar, h.hB, h.hM, by simpa [World.setCell] using h.hl, ⟨List.Pairwise.nil, Nat.zero_le _⟩, ⟨Nat.zero_le _, Nat.zero_le _⟩⟩, D, hD.same (k M (by omega))⟩
set_option maxRecDepth 100000 in
set_option maxHeartbeats 8000000 in
theorem v_through (hL : Spaces w0) (h : WSt w0 B M m lo wh s sv ov w) (hs0 : s.opens = []) (hm : ModAt w0 m) (hts : ∀ t ∈ m.types, t.params.size ≤ 1000000 ∧ t.results.size ≤ 1) (f : FnV) (hf : FnAt w0 f) (hlo : f.locals.size ≤ 1000000)
    (hcode : runs (opsOf f.code) [] = true) (hops : ∀ x ∈ f.code, ∃ r, byCode x.op = some r) (hlen : f.code.length ≤ 400000) :
    Calls Tryz.prog 26 #[.pointer (some ⟨B, 0, none⟩), f.val] w (Gone w0 B M m (validFn m f)) := by
  obtain ⟨ft, fl, cp, cc, code⟩ := f
  obtain ⟨hfc, hfl, hft⟩ := hf
  dsimp only at hfc hfl hft hlo hcode hops hlen
  obtain ⟨W1, hW1⟩ : ∃ W, W = w.alloc (fnObj ⟨ft, fl, cp, cc, code⟩) := ⟨_, rfl⟩
  have hB1 : Below w.heap.size w W1 := by rw [hW1]; exact (Below.refl _ _).alloc (Nat.le_refl _) _
  have n1 : W1.heap[w.heap.size]? = some (fnObj ⟨ft, fl, cp, cc, code⟩) := by rw [hW1]; exact heap_alloc_new _ _
  have h1 := h.at' hB1
  have a1 := h.1.apart (Nat.le_refl w.heap.size)
  obtain ⟨b0, b1, b2⟩ := box_three7 n1
  have hlt1 := in_heap7 n1
  have hlB1 : B < W1.heap.size := Nat.lt_trans h1.1.hM h1.1.hl
  have x0 : W1.cell? ⟨B, 0, none⟩ = some (.slice m.tp m.types.length m.tc) := h1.1.cell 0
  have cw := fun W => v_within ft (m.types.length : Int) W
  dsimp only at b0 b1 b2
  unfold fnObj at hW1
  dsimp only [FnV.val] at hW1 ⊢
  have htl := hm.typesMost
  unfold mostThings at htl
  by_cases hk : 0 ≤ ft ∧ ft < (m.types.length : Int)
  · have hd : decide (0 ≤ ft ∧ ft < (m.types.length : Int)) = true := decide_eq_true hk
    rw [hd] at cw
    obtain ⟨i, rfl⟩ := Int.eq_ofNat_of_zero_le hk.1
    have hil : i < m.types.length := by omega
    have e : validFn m ⟨(i : Int), fl, cp, cc, code⟩ = !(vrun ⟨m, m.types[i].params.data.toList ++ fl.data.toList, m.types[i].results.data.toList⟩ code ⟨[], [⟨2, m.types[i].results.data.toList, 0, false⟩], false⟩).wrong := by
      unfold validFn
      simp only
      rw [if_pos hk, Int.toNat_natCast, List.getElem?_eq_getElem hil]
    rw [e]
    have hT := (hm.below h1.1.below (Nat.le_refl _)).types
    obtain ⟨tb, tq, hp2, htb⟩ := hT.start hil rfl
    rw [hp2] at hT x0
    have t0 : W1.cell? ⟨tb, tq + i * 2 + 0, none⟩ = some (.string m.types[i].params) := hT.cell hil 0 rfl
    have t1 : W1.cell? ⟨tb, tq + i * 2 + 1, none⟩ = some (.string m.types[i].results) := hT.cell hil 1 rfl
    simp only [Nat.add_zero] at t0
    obtain ⟨hq1, hq2⟩ := hts _ (List.getElem_mem hil)
    have y0 : (0 : Int) ≤ (i : Int) := by omega
    have y1 : (i : Int) < (m.types.length : Int) := by omega
    clear hT hp2 e hd
    generalize m.types[i] = t at *
    obtain ⟨tp, tr⟩ := t
    dsimp only at *
    obtain ⟨OK, hOK⟩ : ∃ OK, (!(vrun ⟨m, tp.data.toList ++ fl.data.toList, tr.data.toList⟩ code ⟨[], [⟨2, tr.data.toList, 0, false⟩], false⟩).wrong) = OK := ⟨_, rfl⟩
    rw [hOK]
    have HOK := Lib.hid hOK
    have H1 := Lib.hid h1
    have HM := Lib.hid hm
    have HFC := Lib.hid hfc
    generalize hL2 : m.types.length = L2 at *
    obtain ⟨CL, hCL⟩ : ∃ CL, code.length = CL := ⟨_, rfl⟩
    rw [hCL] at b2 hW1 ⊢
    have HCL := Lib.hid hCL
    have HTS := Lib.hid hts
    have HCD := Lib.hid hcode
    have HOPS := Lib.hid hops
    rw [hCL] at hlen
    have hMw : M < w.heap.size := h.1.hl
    have hBw : B < M := h.1.hM
    clear hOK h h1 hm hfc hts hk hL2 hB1 hCL hcode hops
    go_enter Tryz.func26, Tryz.ntmps26
    go_wp2
    rw [← hW1]
    clear hW1
    go_quiet ((go_at_call 53; with_reducible refine Calls.quiet_of_same ((cw _).mono fun e w' ⟨h1, h2⟩ => ⟨h1, h2.symm⟩)))
    rename_i nq
    go_wp2
    obtain ⟨W2, hW2⟩ : ∃ W, W = W1.drewN nq := ⟨_, rfl⟩
    have hD2 : Below W1.heap.size W1 W2 := by rw [hW2]; exact below_drewN (Below.refl _ _) nq
    rw [← hW2]
    replace x0 : W2.cell? ⟨B, 0, none⟩ = some (.slice (some ⟨tb, tq, none⟩) L2 m.tc) := by rw [hW2]; exact x0
    replace b0 : W2.cell? ⟨w.heap.size, 0, none⟩ = some (.int .i64 (i : Int)) := by rw [hW2]; exact b0
    replace t0 : W2.cell? ⟨tb, tq + i * 2, none⟩ = some (.string tp) := by rw [hW2]; exact t0
    replace t1 : W2.cell? ⟨tb, tq + i * 2 + 1, none⟩ = some (.string tr) := by rw [hW2]; exact t1
    have es2 : W2.heap.size = W1.heap.size := by rw [hW2]; rfl
    rw [← es2] at hlt1 hlB1 htb
    replace n1 : W2.heap[w.heap.size]? = some (fnObj ⟨(i : Int), fl, cp, cc, code⟩) := by rw [hW2]; exact n1
    have H2 := Lib.hid (H1.out.at' hD2)
    clear hW2 hD2 es2 b1 b2 H1
    go_region
    go_wp2
    obtain ⟨W3, hW3⟩ : ∃ W, W = (W2.alloc (.cells #[.string tp, .string tr] 51)).drew := ⟨_, rfl⟩
    have hB3 : Below W2.heap.size W2 W3 := by rw [hW3]; exact ((Below.refl _ _).alloc (Nat.le_refl _) _).drew
    rw [← hW3]
    have h3 := H2.out.at' hB3
    have n3 := (hB3.block _ hlt1).trans n1
    have nt3 : W3.heap[W2.heap.size]? = some (.cells #[.string tp, .string tr] 51) := by rw [hW3]; exact heap_alloc_new W2 _
    obtain ⟨r0, r1, r2⟩ := box_three7 n3
    obtain ⟨u0, u1, _, _⟩ := box_two7 nt3
    have v8 : W3.cell? ⟨B, 8, none⟩ = some (.string lo) := h3.1.cell 8
    have v9 : W3.cell? ⟨B, 9, none⟩ = some (.string wh) := h3.1.cell 9
    have g8 := h3.1.free 8
    have g9 := h3.1.free 9
    have a3 := H2.out.1.apart (Nat.le_refl W2.heap.size)
    have d1 := a1.1
    have d2 := a3.1
    have lB3 : B < W3.heap.size := Nat.lt_trans h3.1.hM h3.1.hl
    have H3 := Lib.hid h3
    have N3 := Lib.hid n3
    have NT3 := Lib.hid nt3
    dsimp only at r0 r1 r2
    clear h3 hW3 n3 nt3 hB3 x0 b0 t0 t1 hlt1 hlB1 htb n1 r0 r2
    obtain ⟨W4, hW4⟩ : ∃ W, W = ((W3.setCell ⟨B, 8, none⟩ (.string (tp ++ fl))).setCell ⟨B, 9, none⟩ (.string tr)).drew := ⟨_, rfl⟩
    have h4 : WSt w0 B M m (tp ++ fl) tr s sv ov W4 := by rw [hW4]; exact H3.out.setFn _ _
    have k4 : ∀ i, i ≠ B → W4.heap[i]? = W3.heap[i]? := fun i hi => by rw [hW4]; exact (Below.heap_setCell _ _ _ _ hi).trans (Below.heap_setCell _ _ _ _ hi)
    have N4 := Lib.hid ((k4 _ d1).trans N3.out)
    have NT4 := Lib.hid ((k4 _ d2).trans NT3.out)
    have hW4' := Lib.hid hW4
    obtain ⟨pS, nS, cS, rfl⟩ : ∃ p n c, sv = .slice p n c := by
      rcases own_any7 h4.1.stk with ⟨rfl, _⟩ | ⟨g, c, rfl, _⟩ <;> exact ⟨_, _, _, rfl⟩
    have z10 : W4.cell? ⟨B, 10, none⟩ = some (.slice pS nS cS) := h4.1.cell 10
    have z12 : W4.cell? ⟨B, 12, none⟩ = some (.bool s.wrong) := h4.1.cell 12
    have g10 := h4.1.free 10
    have g12 := h4.1.free 12
    have H4 := Lib.hid h4
    clear hW4 h4 k4 H3 N3 NT3
    go_region
    rw [← hW4'.out]
    obtain ⟨WI, hWI⟩ : ∃ W, W = (W4.setCell ⟨B, 10, none⟩ (.slice pS 0 cS)).setCell ⟨B, 12, none⟩ (.bool false) := ⟨_, rfl⟩
    have hC : WSt w0 B M m (tp ++ fl) tr ⟨[], [], false⟩ (.slice pS 0 cS) ov WI := by rw [hWI]; exact H4.out.clear hs0
    have k5 : ∀ i, i ≠ B → WI.heap[i]? = W4.heap[i]? := fun i hi => by rw [hWI]; exact (Below.heap_setCell _ _ _ _ hi).trans (Below.heap_setCell _ _ _ _ hi)
    have N5 := Lib.hid ((k5 _ d1).trans N4.out)
    have NT5 := Lib.hid ((k5 _ d2).trans NT4.out)
    have hWI' := Lib.hid hWI
    clear hWI k5 hs0 H4 N4 NT4
    go_wp2
    rw [← hWI'.out]
    obtain ⟨pO, cO, rfl⟩ : ∃ p c, ov = .slice p 0 c := by
      rcases own_any7 hC.1.opn with ⟨rfl, _⟩ | ⟨g, c, rfl, _⟩
      · exact ⟨_, _, rfl⟩
      · exact ⟨_, _, rfl⟩
    obtain ⟨i0, hi, hz0, hz1, hz2⟩ := info_parts info_frame
    have hMl := hC.1.hl
    have hMB := hC.1.hM
    have hovB := hC.1.ne.2
    have hovT := a3.2.2.1
    have hovF := a1.2.2.1
    have hlF := in_heap7 N5.out
    have hlT := in_heap7 NT5.out
    obtain ⟨SS, hSS⟩ : ∃ S : World → Prop, S = fun W => W.cell? ⟨B, 11, none⟩ = some (.slice pO 0 cO) ∧ W.cell? ⟨W2.heap.size, 1, none⟩ = some (.string tr) := ⟨_, rfl⟩
    have hS1 : ∀ W, Below WI.heap.size WI W → SS W := fun W hW => by
      rw [hSS]
      exact ⟨(hC.1.at' hW).lists.2.1, by rw [World.cell?, (hW.block _ hlT).trans NT5.out]; rfl⟩
    have hS2 : ∀ W w2, Below WI.heap.size WI W → W.grownBy w2 (Value.slice pO 0 cO).ownBlock → SS w2 := fun W w2 hW hg => by
      have hbx2 := (hg.block B (by have := hW.size; omega) (fun e => hovB B e.symm rfl)).trans (hC.1.at' hW).box
      have hib2 := (hg.block W2.heap.size (by have := hW.size; omega) (fun e => hovT e.symm)).trans ((hW.block _ hlT).trans NT5.out)
      rw [hSS]
      exact ⟨by rw [World.cell?, hbx2]; rfl, by rw [World.cell?, hib2]; rfl⟩
    have hH : SS WI.drew := hS1 _ (Below.refl _ _).drew
    have hopn : ∀ W, Below WI.heap.size WI W → W.ownsRow (M + 1) 115 4 (.slice pO 0 cO) 0 (opnB []) := fun W hW => (hC.1.at' hW).opn
    have hbox : ∀ W, Below WI.heap.size WI W → W.heap[B]? = some (.cells (walkCells m M (tp ++ fl) tr (.slice pS 0 cS) (.slice pO 0 cO) false) 112) := fun W hW => (hC.1.at' hW).box
    have hwf : (⟨[], [⟨2, tr.data.toList, 0, false⟩], false⟩ : VS).Wf := ⟨List.pairwise_cons.2 ⟨fun b hb => (by cases hb), List.Pairwise.nil⟩, Nat.le_refl _⟩
    have hgo := fun (v' : Value) (W w1 : World) (hb : Below WI.heap.size WI W) => (hC.1.at' hb).grownOpn (op := [⟨2, tr.data.toList, 0, false⟩]) (ov' := v') (w1 := w1)
    have HGO := Lib.hid hgo
    have HS0 : Hid (∀ W, SS W → W.cell? ⟨B, 11, none⟩ = some (.slice pO 0 cO) ∧ W.cell? ⟨W2.heap.size, 1, none⟩ = some (.string tr)) := Lib.hid (fun W hW => by rw [hSS] at hW; exact hW)
    clear hSS
    have HS1 := Lib.hid hS1
    have HS2 := Lib.hid hS2
    have HOPN := Lib.hid hopn
    have HBOX := Lib.hid hbox
    have HH := Lib.hid hH
    have HWF := Lib.hid hwf
    have HC := Lib.hid hC
    clear hC hwf hgo hS1 hS2 hopn hbox hH hWI' z10 z12 g10 g12 hW4'
    -- DRAWN begin
    refine wp_region_front 11 SS (by kernel_rfl) (by decide) (by kernel_rfl) (by kernel_rfl) (by kernel_rfl) ?_
    refine take_dst (i := 0) (d := 52) (v := ?_) ((frontOf_get (by decide)).trans rfl) rfl (by kernel_rfl) (by kernel_rfl) (by kernel_rfl) (fun _ _ _ h => h) (Or.inl ⟨by rfl, ?_⟩) HH.out ?_
    rotate_left
    · intro W hSw
      skip
      go_simp
      try with_reducible rfl
    simp only [Act.put, List.setIfInBounds_toArray, List.set_cons_zero, List.set_cons_succ]
    refine take_dst (i := 1) (d := 53) (v := ?_) ((frontOf_get (by decide)).trans rfl) rfl (by kernel_rfl) (by kernel_rfl) (by kernel_rfl) (fun _ _ _ h => h) (Or.inl ⟨by rfl, ?_⟩) HH.out ?_
    rotate_left
    · intro W hSw
      skip
      go_simp
      try with_reducible rfl
    simp only [Act.put, List.setIfInBounds_toArray, List.set_cons_zero, List.set_cons_succ]
    refine take_dst (i := 2) (d := 54) (v := ?_) ((frontOf_get (by decide)).trans rfl) rfl (by kernel_rfl) (by kernel_rfl) (by kernel_rfl) (fun _ _ _ h => h) (Or.inl ⟨by rfl, ?_⟩) HH.out ?_
    rotate_left
    · intro W hSw
      skip
      go_simp
      try with_reducible rfl
    simp only [Act.put, List.setIfInBounds_toArray, List.set_cons_zero, List.set_cons_succ]
    refine take_dst (i := 3) (d := 55) (v := ?_) ((frontOf_get (by decide)).trans rfl) rfl (by kernel_rfl) (by kernel_rfl) (by kernel_rfl) (fun _ _ _ h => h) (Or.inl ⟨by rfl, ?_⟩) HH.out ?_
    rotate_left
    · intro W hSw
      skip
      go_simp
      try with_reducible rfl
    simp only [Act.put, List.setIfInBounds_toArray, List.set_cons_zero, List.set_cons_succ]
    refine take_dst (i := 4) (d := 56) (v := ?_) ((frontOf_get (by decide)).trans rfl) rfl (by kernel_rfl) (by kernel_rfl) (by kernel_rfl) (fun _ _ _ h => h) (Or.inl ⟨by rfl, ?_⟩) HH.out ?_
    rotate_left
    · intro W hSw
      obtain ⟨r0, r1⟩ := HS0.out W hSw
      go_simp
      try with_reducible rfl
    simp only [Act.put, List.setIfInBounds_toArray, List.set_cons_zero, List.set_cons_succ]
    refine take_dst (i := 5) (d := 57) (v := ?_) ((frontOf_get (by decide)).trans rfl) rfl (by kernel_rfl) (by kernel_rfl) (by kernel_rfl) (fun _ _ _ h => h) (Or.inl ⟨by rfl, ?_⟩) HH.out ?_
    rotate_left
    · intro W hSw
      skip
      go_simp
      try with_reducible rfl
    simp only [Act.put, List.setIfInBounds_toArray, List.set_cons_zero, List.set_cons_succ]
    refine take_dst (i := 6) (d := 58) (v := ?_) ((frontOf_get (by decide)).trans rfl) rfl (by kernel_rfl) (by kernel_rfl) (by kernel_rfl) (fun _ _ _ h => h) (Or.inl ⟨by rfl, ?_⟩) HH.out ?_
    rotate_left
    · intro W hSw
      skip
      go_simp
      try with_reducible rfl
    simp only [Act.put, List.setIfInBounds_toArray, List.set_cons_zero, List.set_cons_succ]
    refine take_dst (i := 7) (d := 59) (v := ?_) ((frontOf_get (by decide)).trans rfl) rfl (by kernel_rfl) (by kernel_rfl) (by kernel_rfl) (fun _ _ _ h => h) (Or.inl ⟨by rfl, ?_⟩) HH.out ?_
    rotate_left
    · intro W hSw
      obtain ⟨r0, r1⟩ := HS0.out W hSw
      go_simp
      try with_reducible rfl
    simp only [Act.put, List.setIfInBounds_toArray, List.set_cons_zero, List.set_cons_succ]
    refine take_dst (i := 8) (d := 60) (v := ?_) ((frontOf_get (by decide)).trans rfl) rfl (by kernel_rfl) (by kernel_rfl) (by kernel_rfl) (fun _ _ _ h => h) (Or.inl ⟨by rfl, ?_⟩) HH.out ?_
    rotate_left
    · intro W hSw
      skip
      go_simp
      try with_reducible rfl
    simp only [Act.put, List.setIfInBounds_toArray, List.set_cons_zero, List.set_cons_succ]
    refine wpAnyH_ready (rs := [9]) (by kernel_rfl) (by simp) ?_
    refine step_dst (d := 61) (op := (.buildSlice 110 1 #[(0, .tmp 60)])) (ty := 110) (by kernel_rfl) (fun K hK o hod hoo hot hog => ?_) AllReadyH.nil
    obtain ⟨o1, o2, o3, o4, o5, o6⟩ := o
    simp only at hod hoo hot hog
    subst hod hoo hot hog
    go_simp
    have hb7 : Below WI.heap.size WI (WI.alloc (.cells #[.int .i64 2, .string tr, .int .i64 0, .bool false] 115)).drew := ((Below.refl _ WI).alloc (Nat.le_refl _) _).drew
    refine hK.out _ _ (HS1.out _ hb7) (fun _ => ?_)
    clear hK
    have hlit : ∀ j u, (([.int .i64 2, .string tr, .int .i64 0, .bool false] : List Value))[j]? = some u → (WI.alloc (.cells #[.int .i64 2, .string tr, .int .i64 0, .bool false] 115)).drew.cell? ((⟨WI.heap.size, 0, none⟩ : Addr).add j) = some u := cells_new7 WI (([.int .i64 2, .string tr, .int .i64 0, .bool false] : List Value)) 115
    have hown7 := HOPN.out _ hb7
    have hbx7 := HBOX.out _ hb7
    have hsz7 : (WI.alloc (.cells #[.int .i64 2, .string tr, .int .i64 0, .bool false] 115)).drew.heap.size = WI.heap.size + 1 := by simp
    generalize hY7 : (WI.alloc (.cells #[.int .i64 2, .string tr, .int .i64 0, .bool false] 115)).drew = y7 at *
    refine wpAnyH_ready (rs := [10]) (by kernel_rfl) (by simp) ?_
    refine step_dst (d := 62) (op := (.call { callee := .builtin .append, args := #[(.tmp 57), (.tmp 61)], argTypes := #[110, 110] })) (ty := 110) (by kernel_rfl) (fun K hK o hod hoo hot hog => ?_) AllReadyH.nil
    refine step_own hog (.tmp 57) (.tmp 61) 110 hoo (M + 1) 115 i0 (.agg #[.int .i64 0, .string ⟨#[]⟩, .int .i64 0, .bool false]) 4 40 Tryz.underlying110 hi hz0 hz1 hz2 rfl (by decide) (.slice pO 0 cO) 0 (opnB []) rfl hown7 ⟨WI.heap.size, 0, none⟩ 1 1 (([.int .i64 2, .string tr, .int .i64 0, .bool false] : List Value)) rfl rfl hlit (by intro u hu; simp [FrV.row] at hu; rcases hu with rfl | rfl | rfl | rfl <;> rfl) (by unfold maxLen; omega) (by omega) (by omega) ?_
    intro v' w2 hown' hgrow _ hloc
    rw [hod]
    refine hK.out _ _ (HS2.out y7 w2 hb7 hgrow) (fun _ => ?_)
    simp only [Act.put, List.setIfInBounds_toArray, List.set_cons_zero, List.set_cons_succ]
    clear hK hod hoo hot hog
    refine wpAnyH_done (by kernel_rfl) ?_ _
    show wpAny _ _ _ _ 3 _ _ _
    refine takeAny_dst (i := 11) (d := 63) (v := ?_) rfl rfl (by kernel_rfl) (by kernel_rfl) (by kernel_rfl) (fun _ _ _ h => h) (Or.inl ⟨by rfl, ?_⟩) ?_
    rotate_left
    · intro W
      go_simp
      try with_reducible rfl
    simp only [Act.put, List.setIfInBounds_toArray, List.set_cons_zero, List.set_cons_succ]
    refine takeAny_dst (i := 12) (d := 64) (v := ?_) rfl rfl (by kernel_rfl) (by kernel_rfl) (by kernel_rfl) (fun _ _ _ h => h) (Or.inl ⟨by rfl, ?_⟩) ?_
    rotate_left
    · intro W
      go_simp
      try with_reducible rfl
    simp only [Act.put, List.setIfInBounds_toArray, List.set_cons_zero, List.set_cons_succ]
    obtain ⟨vp, vn, vc, rfl⟩ := own_form7 hown'
    have hbx2 := (hgrow.block B (by omega) (fun e => hovB B e.symm rfl)).trans hbx7
    have f1 : w2.cell? ⟨B, 11, none⟩ = some (.slice pO 0 cO) := by rw [World.cell?, hbx2]; rfl
    have f2 : w2.frozen? ⟨B, 11, none⟩ = false := by simp [World.frozen?, hbx2]
    refine wpAny_ready (rs := [13]) (by kernel_rfl) (by simp) (AllReady.cons rfl (fun K hK => ?_) AllReady.nil)
    go_simp
    refine hK _ _ ?_
    refine wpAny_done (by kernel_rfl) ?_ _
    clear hK f1 f2
    -- END begin
    have e4 : opnB [] ++ ([.int .i64 2, .string tr, .int .i64 0, .bool false] : List Value) = opnB [⟨2, tr.data.toList, 0, false⟩] := by simp [opnB, FrV.row, b7_of]
    rw [e4] at hown'
    obtain ⟨h5, m5⟩ := HGO.out _ y7 w2 hb7 hown' hgrow hloc HWF.out (by simp)
    have hD6 := HC.out.2
    have nf6 := m5.keeps (w0 := w0) ((hb7.block _ hlF).trans N5.out) ⟨a1.1, (by have := a1.2.1; cases pS <;> exact this), a1.2.2.1, a1.2.2.2⟩
    have hM6 : (w2.setCell ⟨B, 11, none⟩ (.slice vp vn vc)).heap[M]? = WI.heap[M]? := (m5.block M (by have := hb7.size; omega) (by omega) (fun e => by have := (own_lt7 (HC.out.at' hb7).1.stk M e).1; omega) (fun e => by have := (own_lt7 (HC.out.at' hb7).1.opn M e).1; omega)).trans (hb7.block M hMl)
    obtain ⟨D6, hD6⟩ := hD6
    have h6 : WSt w0 B M m (tp ++ fl) tr ⟨[], [⟨2, tr.data.toList, 0, false⟩], false⟩ (.slice pS 0 cS) (.slice vp vn vc) (w2.setCell ⟨B, 11, none⟩ (.slice vp vn vc)) := ⟨h5, D6, hD6.same hM6⟩
    obtain ⟨W6, hW6⟩ : ∃ W, W = w2.setCell ⟨B, 11, none⟩ (.slice vp vn vc) := ⟨_, rfl⟩
    rw [← hW6] at h6 nf6 ⊢
    clear HGO HS0 HS1 HS2 HBOX HOPN hY7 hlit hown7 hbx7 hgrow hown' hloc h5 m5 hM6 hD6 hW6
    obtain ⟨n6, a6⟩ := nf6
    obtain ⟨_, _, f2⟩ := box_three7 n6
    dsimp only at f2
    rw [HCL.out] at f2
    obtain ⟨C, hC⟩ : ∃ C, C = vc7 m (tp ++ fl) tr := ⟨_, rfl⟩
    obtain ⟨VR, hVR⟩ : ∃ VR, vrun C code ⟨[], [⟨2, tr.data.toList, 0, false⟩], false⟩ = VR := ⟨_, rfl⟩
    have HV : Hid ((!VR.wrong) = OK) := Lib.hid (by
      rw [← HOK.out, ← hVR, hC]
      unfold vc7
      rw [ByteArray.data_append, Array.toList_append])
    have HVR := Lib.hid hVR
    have HCC := Lib.hid hC
    have hRun := Run7.start HCD.out (l := tr.data.toList) (by rw [Array.length_toList]; exact hq2)
    have hol : (opsOf code).length = CL := by rw [← HCL.out]; simp [opsOf]
    clear hVR hC HC N5 NT5 HH HWF HOK HCD
    obtain ⟨ft7, hft7⟩ : ∃ ft7 : Int, (i : Int) = ft7 := ⟨_, rfl⟩
    rw [hft7] at n6
    go_wp2
    clear hft7
    go_loopw [7, 8, 68] (fun u7 u8 i wr => ∃ (j : Nat) (sk : VS) (sv1 ov1 : Value), i = .int .i64 j ∧ j ≤ CL ∧ Hid (vrun C (code.drop j) sk = VR) ∧ sk.wrong = false ∧ Run7 (opsOf code) j sk ∧ WSt w0 B M m (tp ++ fl) tr sk sv1 ov1 wr ∧ wr.heap[w.heap.size]? = some (fnObj ⟨(ft7 : Int), fl, cp, cc, code⟩) ∧ (w.heap.size ≠ B ∧ sv1.ownBlock ≠ some w.heap.size ∧ ov1.ownBlock ≠ some w.heap.size ∧ w0.heap.size ≤ w.heap.size)) (fun _ _ i _ => (CL : Int).toNat - (intOf i).toNat)
    case atStart => exact ⟨0, _, _, _, rfl, Nat.zero_le _, HVR, rfl, hRun, h6, n6, a6⟩
    case round =>
      clear h6 n6 a6 f2 hRun
      obtain ⟨j, sk, sv1, ov1, rfl, hj, HK, hwr, hrun, hW, hfb, hfa⟩ := hrel
      by_cases hjl : j < CL
      · have hjx : j < code.length := by rw [HCL.out]; exact hjl
        have hjo : j < (opsOf code).length := by rw [hol]; exact hjl
        have hmem := List.getElem_mem hjx
        have hxa := HFC.out.2.1 _ hmem
        obtain ⟨r, hr⟩ := HOPS.out _ hmem
        have hR := (HFC.out.1.below hW.1.below (Nat.le_refl _))
        obtain ⟨cb, co, hcp, hcb⟩ := hR.start hjx rfl
        subst hcp
        have e0 : wr.cell? ⟨cb, co + j * 4 + 0, none⟩ = some (.int .i64 code[j].op) := hR.cell hjx 0 rfl
        have e1 : wr.cell? ⟨cb, co + j * 4 + 1, none⟩ = some (.int .i64 code[j].a) := hR.cell hjx 1 rfl
        have e2 : wr.cell? ⟨cb, co + j * 4 + 2, none⟩ = some (.int .i64 code[j].b) := hR.cell hjx 2 rfl
        have e3 : wr.cell? ⟨cb, co + j * 4 + 3, none⟩ = some (.slice code[j].lp code[j].ls.length code[j].lc) := hR.cell hjx 3 rfl
        simp only [Nat.add_zero] at e0
        have hroom := hrun.room hjo (by rw [hol]; exact hlen)
        have hdrop : code.drop j = code[j] :: code.drop (j + 1) := List.drop_eq_getElem_cons hjx
        have hgo := hrun.next (t := vstep C code[j] sk) hjo (by
          have e : (opsOf code)[j] = code[j].op := by simp [opsOf]
          rw [e]
          exact vstep_next hroom.ne hroom.res (by rw [HCC.out]; exact HTS.out) hr)
        have hV2 : Hid (vrun C (code.drop j) sk = if (vstep C code[j] sk).wrong then vstep C code[j] sk else vrun C (code.drop (j + 1)) (vstep C code[j] sk)) := Lib.hid (by rw [hdrop]; rfl)
        obtain ⟨n, bd, hval, hent, hact⟩ := acts (w0 := w0) (B := B) (M := M) (m := m) (lo := tp ++ fl) (wh := tr) hroom HM.out HTS.out (by rw [ByteArray.size_append]; omega) (by omega) code[j] hxa hr
        rw [← HCC.out] at hact
        generalize code[j] = x at *
        have hS := hW.at' (w' := wr.alloc (insObj x)) ((Below.refl _ _).alloc (Nat.le_refl _) _)
        have cs := v_step hL hS x.op r hr
        rw [hval] at cs
        have hib : (wr.alloc (insObj x)).heap[wr.heap.size]? = some (insObj x) := heap_alloc_new _ _
        have hia := hW.1.apart (Nat.le_refl wr.heap.size)
        have hfb2 := (Below.heap_alloc wr (insObj x) _ (in_heap7 hfb)).trans hfb
        have hlMr := hW.1.hl
        have hlf := in_heap7 hfb
        have j0 : (0 : Int) ≤ (j : Int) := by omega
        have j1 : (j : Int) < (CL : Int) := by omega
        have jw : IntKind.i64.wrap ((j : Int) + 1) = ((j + 1 : Nat) : Int) := by rw [show (j : Int) + 1 = ((j + 1 : Nat) : Int) by omega]; exact IntWalk.i64_in _ (by omega)
        obtain ⟨WX, hWX⟩ : ∃ W, W = wr.alloc (insObj x) := ⟨_, rfl⟩
        rw [← hWX] at hS cs hib hfb2
        have hsz : WX.heap.size = wr.heap.size + 1 := by rw [hWX]; simp
        have mX : MovV B sv1 ov1 wr WX sv1 ov1 := by rw [hWX]; exact MovV.of ((Below.refl _ _).alloc (Nat.le_refl _) _)
        unfold insObj at hWX
        have hwX := hS.1.cell 12
        obtain ⟨i0, i1, i2, i3⟩ := box_ins hib
        clear hW hR hmem hxa hdrop hfb
        go_wp2_with fail
        rw [← hWX]
        clear hWX
        refine cs.mono ?_
        rintro e w4 ⟨rfl, h4, mm4⟩
        have hfb4 := (mm4.block w.heap.size (by omega) (by omega)).trans hfb2
        have hib4 := (mm4.block wr.heap.size (by omega) (by omega)).trans hib
        obtain ⟨p0, p1, p2, p3⟩ := box_ins hib4
        have ce := hact w4 sv1 ov1 h4.1
        unfold InsV.val at ce
        obtain ⟨D4, hD4⟩ := h4.2
        have hMe := (own_lt7 h4.1.stk)
        have hMo := (own_lt7 h4.1.opn)
        have hm4l := h4.1.hl
        clear cs hact hval hS hib i0 i1 i2 i3 hwX e0 e1 e2 e3
        have hen := hent #[bd, .agg #[.int .i64 x.op, .int .i64 x.a, .int .i64 x.b, .slice x.lp x.ls.length x.lc]] w4
        clear hent
        go_wp2_with fail
        refine ce.mono ?_
        rintro e w5 ⟨sv5, ov5, rfl, h5, m5⟩
        have hw5 : w5.cell? ⟨B, 12, none⟩ = some (.bool (vstep C x sk).wrong) := h5.cell 12
        have h5s : WSt w0 B M m (tp ++ fl) tr (vstep C x sk) sv5 ov5 w5 := ⟨h5, D4, hD4.same (m5.block M hm4l (by omega) (fun e => by have := (hMe M e).1; omega) (fun e => by have := (hMo M e).1; omega))⟩
        obtain ⟨hfb5, hfa5⟩ := m5.keeps (w0 := w0) hfb4 hfa
        obtain ⟨sn, hsn⟩ : ∃ sn, vstep C x sk = sn := ⟨_, rfl⟩
        rw [hsn] at hw5 h5s hV2 hgo
        clear ce hMe hMo h5 m5 hfb4 hfb2 hib4 p0 p1 p2 p3 hD4 h4 mm4
        cases hwn : sn.wrong with
        | true =>
          rw [hwn] at hw5
          have hOKf : OK = false := by
            rw [← HV.out, ← HK.out, hV2.out, hwn, if_pos rfl, hwn]
            rfl
          subst hOKf
          clear hV2 HK
          go_wp2
          go_ret
          exact ⟨rfl, _, _, _, _, _, h5s, fun e => by cases e⟩
        | false =>
          rw [hwn] at hw5
          have HK2 : Hid (vrun C (code.drop (j + 1)) sn = VR) := Lib.hid (by rw [← HK.out, hV2.out, hwn]; rfl)
          clear hV2 HK
          go_wp2
          go_roundw
          case rel => exact ⟨j + 1, sn, sv5, ov5, by go_num, by omega, HK2, hwn, hgo, h5s, hfb5, hfa5⟩
          case measure => simp [intOf]; omega
      · have hjL : j = CL := by omega
        subst hjL
        have hR2 : sk = VR := by rw [← HK.out, ← HCL.out, List.drop_length]; rfl
        subst hR2
        have hOKt : OK = true := by rw [← HV.out, hwr]; rfl
        subst hOKt
        have hend := hrun
        rw [← hol] at hend
        have hop := hend.ended
        clear hrun HK
        go_wp2
        go_ret
        exact ⟨rfl, _, _, _, _, _, hW, fun _ => hop⟩
  · have hd : decide (0 ≤ ft ∧ ft < (m.types.length : Int)) = false := decide_eq_false hk
    rw [hd] at cw
    have e : validFn m ⟨ft, fl, cp, cc, code⟩ = false := by
      unfold validFn
      simp only
      rw [if_neg hk]
    rw [e]
    have H1 := fun q => Lib.hid (h1.at' (below_drewN (Below.refl _ _) q))
    clear h h1 hm hfc hts hk hB1 hcode hops e hd
    go_enter Tryz.func26, Tryz.ntmps26
    go_wp2
    rw [← hW1]
    clear hW1
    go_quiet ((go_at_call 53; with_reducible refine Calls.quiet_of_same ((cw _).mono fun e w' ⟨h1, h2⟩ => ⟨h1, h2.symm⟩)))
    go_wp2
    go_ret
    exact ⟨rfl, _, _, _, _, _, (H1 _).out, fun e => by cases e⟩
end Go.Proofs.YtomffpibdinkaaaGreatDoor
