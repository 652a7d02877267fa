/-
  A module's other parts are asked, too: walked, case by case. A contract that the proofs call.
-/
import Derived.Test.YtomffpibdinkaaaGreatDoorValHead
import Derived.Test.YtomffpibdinkaaaGreatDoorVmProg
namespace Go.Proofs.YtomffpibdinkaaaGreatDoor
open Go.RowKit Go.Maps
set_option linter.unusedVariables false
set_option linter.unusedSimpArgs false

theorem steps_take {w : World} {p : Option Addr} {l : List StepV} (h : StepsAt w p l) (k : Nat) : StepsAt w p (l.take k) :=
  ⟨fun j hj i v hv => by
    have hj' : j < l.length := by simp at hj; omega
    rw [List.getElem_take] at hv
    exact h.rows j hj' i v hv, fun x hx => h.within x (List.mem_of_mem_take hx), by have := h.most; simp; omega⟩
theorem min_nat7 (ln : Nat) : min 20 ln = (min (ln : Int) 20).toNat := by omega
/-- What stays of made's module where something else is laid, or one of its own lists turned. -/
structure ModQ (W : World) (H : Nat) (pc : Option Addr) (cc : Nat) (code : List PI) : Prop where
  types : W.heap[H]? = some (.cells #[.string ⟨#[126, 127]⟩, .string ⟨#[126]⟩] 51)
  globals : W.heap[H + 3]? = some (.cells #[.int .i64 127, .bool true, .int .i64 5, .int .i64 126, .bool true, .int .i64 (-5)] 71)
  data : W.heap[H + 5]? = some (.cells #[.int .i64 100, .string someBytes] 73)
  code : CodeAt W pc (code.map insOf)
theorem MadeAt.modQ {w : World} {lo H : Nat} {pc : Option Addr} {cc : Nat} {code : List PI} {mx i0 i1 ix : Int} (h : MadeAt w lo H pc cc code mx 5 (-5) ix) : ModQ w H pc cc code := ⟨h.types, h.globals, h.data, h.codeAt⟩
theorem code_kept {w w' : World} {lo cap : Nat} {p : Option Addr} {code : List PI} {q : Option Nat} (h : w.ownsRow lo 38 4 (.slice p code.length cap) code.length (codeCells code)) (hc : CodeAt w p (code.map insOf)) (hg : w.grownBy w' q) (hq : (Value.slice p code.length cap).ownBlock = none ∨ (Value.slice p code.length cap).ownBlock ≠ q) : CodeAt w' p (code.map insOf) := by
  refine ⟨rows_own (n := code.length) (cap := cap) (lo := lo) (t := 38) (by rw [code_cells]; exact h.kept hg hq) (by simp) (fun x _ => rfl), fun x hx => ?_, hc.2.2⟩
  obtain ⟨y, hy, rfl⟩ := List.mem_map.1 hx
  obtain ⟨h1, h2, h3, h4, h5, h6⟩ := hc.2.1 _ hx
  exact ⟨fun j hj => absurd hj (by simp [insOf]), by simp [insOf], h3, h4, h5, fun n hn => by simp [insOf] at hn⟩
/-- One of its own lists is turned. -/
theorem MadeAt.turned {w w' : World} {lo H : Nat} {pc : Option Addr} {cc : Nat} {code : List PI} {mx ix : Int} (h : MadeAt w lo H pc cc code mx 5 (-5) ix) {q : Nat} (hg : w.grownBy w' (some q)) (hq : q = H + 1 ∨ q = H + 2 ∨ q = H + 4) : ModQ w' H pc cc code := by
  have hs := h.size
  have k : ∀ i, i < 6 → H + i ≠ q → w'.heap[H + i]? = w.heap[H + i]? := fun i hi hne => hg.block _ (by omega) (fun e => by injection e with e; omega)
  refine ⟨(k 0 (by omega) (by omega)).trans h.types, (k 3 (by omega) (by omega)).trans h.globals, (k 5 (by omega) (by omega)).trans h.data, code_kept h.owned h.codeAt hg ?_⟩
  cases hv : (Value.slice pc code.length cc).ownBlock with
  | none => exact Or.inl rfl
  | some b => exact Or.inr fun e => by injection e with e; have := h.ahead b hv; omega
theorem own_len7 {w : World} {base e sz n m : Nat} {p : Option Addr} {c : Nat} {xs : List Value} (h : w.ownsRow base e sz (.slice p m c) n xs) : m = n := by
  rcases h.2 with ⟨h1, h2⟩ | ⟨_, _, _, h1, _⟩
  · cases h1; exact h2.symm
  · cases h1; rfl
/-- A store into a block that is not the row's. -/
theorem own_not7 {w : World} {base e sz n q N B o : Nat} {v u : Value} {xs : List Value} (h : w.ownsRow base e sz v n xs) (hl : v.ownBlock = some q ∨ v.ownBlock = some N) (hq : q ≠ B) (hN : B ≠ N) : (w.setCell ⟨B, o, none⟩ u).ownsRow base e sz v n xs := by
  refine h.kept (cell_grown w B o u) (Or.inr ?_)
  rcases hl with e | e <;> rw [e]
  · exact fun e => hq (by injection e)
  · exact fun e => hN (by injection e with e; exact e.symm)
theorem MadeAt.reads7 {w : World} {lo H : Nat} {pc : Option Addr} {cc : Nat} {code : List PI} {mx i0 i1 ix : Int} (h : MadeAt w lo H pc cc code mx i0 i1 ix) (o : Obj) :
    (w.alloc o).cell? ⟨H + 2, 0, none⟩ = some (.int .i64 1) ∧ (w.alloc o).cell? ⟨H + 2, 1, none⟩ = some (.int .i64 mx) ∧ (w.alloc o).cell? ⟨H + 1, 0, none⟩ = some (.int .i64 0) ∧ (w.alloc o).frozen? ⟨H + 2, 0, none⟩ = false ∧ (w.alloc o).frozen? ⟨H + 2, 1, none⟩ = false ∧ (w.alloc o).frozen? ⟨H + 1, 0, none⟩ = false := by
  have hs := h.size
  have e1 := (Below.heap_alloc w o (H + 1) (by omega)).trans h.funcs
  have e2 := (Below.heap_alloc w o (H + 2) (by omega)).trans h.memory
  refine ⟨?_, ?_, ?_, ?_, ?_, ?_⟩ <;> simp [World.cell?, World.frozen?, e1, e2]
theorem cells_new2m (w : World) (o : Obj) (c : List Value) (t : TypeId) : ∀ j u, c[j]? = some u → ((w.alloc o).alloc (.cells c.toArray t)).cell? ((⟨w.heap.size + 1, 0, none⟩ : Addr).add j) = some u := by
  intro j u h
  have := cells_new7 (w.alloc o) c t j u h
  rw [push_size7] at this
  exact this
theorem info_exp7 : (Tryz.prog.info? 45).map (fun i => (i.zero, i.size, i.bytes)) = some (some (.agg #[.string ⟨#[]⟩, .int .i64 0, .int .i64 0]), 3, 32) := by kernel_rfl
theorem info_mem7 : (Tryz.prog.info? 47).map (fun i => (i.zero, i.size, i.bytes)) = some (some (.agg #[.int .i64 0, .int .i64 0]), 2, 16) := by kernel_rfl
theorem own_blk7 {W : World} {b base n c : Nat} {cs : List Value} {t : TypeId} (h : W.heap[b]? = some (.cells cs.toArray t)) (hb : base ≤ b) (hc : cs.length = n * c) (hn : n ≤ maxLen) : W.ownsRow base t c (.slice (some ⟨b, 0, none⟩) n n) n cs :=
  ⟨hc, Or.inr ⟨b, n, cs.toArray, rfl, hb, h, Nat.le_refl _, hn, by simpa using hc, by rw [List.take_of_length_le (by simp; omega)]⟩⟩
/-- Only one of the module's lists is turned, and what is new. -/
theorem grown_of {w1 X0 y7 w2 W : World} {q B o : Nat} {v : Value} (h1 : Below w1.heap.size w1 X0) (h2 : Below X0.heap.size X0 y7) (h3 : y7.grownBy w2 (some q)) (hB : w1.heap.size ≤ B) (hW : W = w2.setCell ⟨B, o, none⟩ v) : w1.grownBy W (some q) := by
  have h12 := h1.trans (h2.mono h1.size)
  refine ⟨?_, ?_, ?_, ?_, fun k hk hne => ?_⟩
  · rw [hW]; exact h3.os.trans h12.os
  · rw [hW]; exact h3.tape.trans h12.tape
  · rw [hW]; exact h3.output.trans h12.output
  · rw [hW]; have := h3.size; have := h12.size; simp [World.setCell]; omega
  · rw [hW, Below.heap_setCell _ _ _ _ (by show k ≠ B; omega), h3.block k (by have := h12.size; omega) hne, h12.block k hk]
/-- What is asked in the end. -/
theorem mods_end {w w1 W : World} {lo H q : Nat} {pc : Option Addr} {cc : Nat} {code : List PI} (hLaid : Laid w) (hB1 : Below w.heap.size w w1) (hM : MadeAt w1 lo H pc cc code 2 5 (-5) 0) (hlo : w.heap.size ≤ H) (hg : w1.grownBy W (some q)) (hq : q = H + 1 ∨ q = H + 2 ∨ q = H + 4)
    {ty : Int} {mp : Option Addr} {mc nm : Nat} {M : List MemV} {ep : Option Addr} {ec ne : Nat} {E : List ExpV} (hf : W.heap[H + 1]? = some (.cells #[.int .i64 ty, .string ⟨#[127, 126]⟩, .slice pc code.length cc] 35)) (hty : inI64 ty)
    (hM1 : RowsAt W mp 2 MemV.row M) (hM2 : ∀ t ∈ M, inI64 t.min ∧ inI64 t.max) (hM3 : M.length ≤ 10) (hE1 : RowsAt W ep 3 ExpV.row E) (hE2 : ∀ t ∈ E, t.name.size ≤ maxLen ∧ inI64 t.kind ∧ inI64 t.index) (hE3 : E.length ≤ 10) (hnm : M.length = nm) (hne : E.length = ne)
    {v : Int} (ans : modAns7 (mdV H pc cc code ty mp mc M ep ec E (-1)) = v) :
    Below w.heap.size w W ∧ Calls Tryz.prog 11 #[.agg #[.slice (some ⟨H, 0, none⟩) 1 1, .slice (some ⟨H + 1, 0, none⟩) 1 1, .slice mp nm mc, .slice (some ⟨H + 3, 0, none⟩) 2 2, .slice ep ne ec, .int .i64 (-1), .slice (some ⟨H + 5, 0, none⟩) 1 1]] W fun e w' => e = .returned (.int .i64 v) ∧ Below W.heap.size W w' := by
  subst hnm hne
  have hB2 : Below w.heap.size w W := hB1.grown hg hB1.size (fun k hk => by injection hk with hk; omega)
  have hQ := hM.turned hg hq
  have hmod := md_at (st := -1) (mc := mc) (ec := ec) hQ.types hf hQ.globals hQ.data hQ.code hty hM1 hM2 (by unfold mostThings; omega) hE1 hE2 (by unfold mostThings; omega) ⟨by decide, by decide⟩
  have cv := v_module W (hLaid.below hB2) _ hmod (fun f hf => by rw [List.mem_singleton.1 hf]; show (code.map insOf).length ≤ _; have := hM.most; rw [List.length_map]; omega)
  rw [ans] at cv
  exact ⟨hB2, cv⟩
set_option maxRecDepth 100000 in
set_option maxHeartbeats 8000000 in
theorem mods_2 (p : Option Addr) (c : Nat) (l : List StepV) (hcl : l.length ≤ c) (which n : Int) (hw : 0 ≤ which ∧ which ≤ 255) (hK : which % 8 = 2) (hn : 0 ≤ n ∧ n ≤ 4294967295) (nm : ByteArray) (w : World) (hLaid : Laid w) (hS : StepsAt w p l) :
    Calls Tryz.prog 4 #[.slice p l.length c, .int .u8 which, .string nm, .int .u32 n] w fun e w' => e = .returned (.bool true) ∧ Below w.heap.size w w' := by
  have hh := examples7 w hLaid
  have hl := hS.most
  unfold mostThings at hl
  obtain ⟨hw0, hw1⟩ := hw
  obtain ⟨hn0, hn1⟩ := hn
  have hS2 := steps_take hS 20
  have cm := fun W (hW : Below w.heap.size w W) => made_fn p c (l.take 20) W (hS2.below hW (Nat.le_refl _))
  simp only [List.length_take, min_nat7] at cm
  have ans := fun H pc cc mp mc ep ec hr hu => md_ok2 (l := l.take 20) H pc cc mp mc ep ec hr hu
  clear hS hS2
  generalize codeF (l.take 20) = C0 at *
  generalize l.length = ln at *
  go_enter Tryz.func4, Tryz.ntmps4
  go_wp2_with (first
    | (go_at_call 9; (with_reducible refine hh.mono ?_); rintro e wa ⟨rfl, hba⟩)
    | (go_at_call 10; (with_reducible refine (cm _ hba).mono ?_); rintro e w1 ⟨H, pc, cc, he, hM, hb1⟩; rw [madeV_val7] at he; subst he; have hB1 := hba.trans (hb1.mono hba.size)))
  obtain ⟨W2, hW2⟩ : ∃ W, W = w1.alloc (.cells #[.slice (some ⟨H, 0, none⟩) 1 1, .slice (some ⟨H + 1, 0, none⟩) 1 1, .slice (some ⟨H + 2, 0, none⟩) 1 1, .slice (some ⟨H + 3, 0, none⟩) 2 2, .slice (some ⟨H + 4, 0, none⟩) 1 1, .int .i64 0, .slice (some ⟨H + 5, 0, none⟩) 1 1] 31) := ⟨_, rfl⟩
  have hb2 : Below w1.heap.size w1 W2 := by rw [hW2]; exact (Below.refl _ _).alloc (Nat.le_refl _) _
  have hB2 := hB1.trans (hb2.mono hB1.size)
  have hM2 := hM.below hb2
  have hmod := md_at (ty := 0) (M := [⟨1, 2⟩]) (E := [fE]) (st := 0) (mc := 1) (ec := 1) hM2.types hM2.funcs hM2.globals hM2.data hM2.codeAt ⟨by decide, by decide⟩ (rows_block hM2.memory rfl (fun x _ => rfl)) (by intro t ht; rw [List.mem_singleton.1 ht]; exact ⟨⟨by decide, by decide⟩, ⟨by decide, by decide⟩⟩) (by show 1 ≤ mostThings; decide) (rows_block hM2.exports rfl (fun x _ => rfl)) (by intro t ht; rw [List.mem_singleton.1 ht]; exact ⟨by decide, ⟨by decide, by decide⟩, ⟨by decide, by decide⟩⟩) (by show 1 ≤ mostThings; decide) ⟨by decide, by decide⟩
  have cv := v_module W2 (hLaid.below hB2) _ hmod (fun f hf => by rw [List.mem_singleton.1 hf]; show (C0.map insOf).length ≤ _; have := hM.most; rw [List.length_map]; omega)
  rw [ans _ _ _ _ _ _ _ hM.right hM.runs0] at cv
  unfold MoV.val mdV at cv
  simp only [List.length_cons, List.length_nil, Nat.zero_add] at cv
  clear ans hmod hM2
  rw [← hW2]
  clear hW2
  go_wp2_with fail
  refine cv.mono ?_
  rintro e w3 ⟨rfl, hb3⟩
  go_wp2
  go_ret
  exact ⟨rfl, hB2.trans (hb3.mono hB2.size)⟩
set_option maxRecDepth 100000 in
set_option maxHeartbeats 8000000 in
theorem mods_0 (p : Option Addr) (c : Nat) (l : List StepV) (hcl : l.length ≤ c) (which n : Int) (hw : 0 ≤ which ∧ which ≤ 255) (hK : which % 8 = 0) (hn : 0 ≤ n ∧ n ≤ 4294967295) (nm : ByteArray) (w : World) (hLaid : Laid w) (hS : StepsAt w p l) :
    Calls Tryz.prog 4 #[.slice p l.length c, .int .u8 which, .string nm, .int .u32 n] w fun e w' => e = .returned (.bool true) ∧ Below w.heap.size w w' := by
  have hh := examples7 w hLaid
  have hl := hS.most
  unfold mostThings at hl
  obtain ⟨hw0, hw1⟩ := hw
  obtain ⟨hn0, hn1⟩ := hn
  have hS2 := steps_take hS 20
  have cm := fun W (hW : Below w.heap.size w W) => made_fn p c (l.take 20) W (hS2.below hW (Nat.le_refl _))
  simp only [List.length_take, min_nat7] at cm
  have ans := fun H pc cc mp mc ep ec hr hu => md_ok0 (l := l.take 20) H pc cc mp mc ep ec hr hu
  clear hS hS2
  generalize codeF (l.take 20) = C0 at *
  generalize l.length = ln at *
  obtain ⟨i0, hi, hz0, hz1, hz2⟩ := info_parts info_exp7
  go_enter Tryz.func4, Tryz.ntmps4
  go_wp2_with (go_at_call 9; (with_reducible refine hh.mono ?_); rintro e wa ⟨rfl, hba⟩)
  refine (cm wa hba).mono ?_
  rintro e w1 ⟨H, pc, cc, he, hM, hb1⟩
  rw [madeV_val7] at he
  subst he
  have hB1 := hba.trans (hb1.mono hba.size)
  clear cm hh hb1
  have hlo : w.heap.size ≤ H := by have := hM.from0; have := hba.size; omega
  have hz := hM.size
  have HZ := Lib.hid hz
  have hown : w1.ownsRow w.heap.size 45 3 (.slice (some ⟨H + 4, 0, none⟩) 1 1) 1 [.string ⟨#[102]⟩, .int .i64 0, .int .i64 0] := own_blk7 hM.exports (by omega) rfl (by decide)
  obtain ⟨y7, hY7⟩ : ∃ y, y = ((w1.alloc (.cells #[.slice (some ⟨H, 0, none⟩) 1 1, .slice (some ⟨H + 1, 0, none⟩) 1 1, .slice (some ⟨H + 2, 0, none⟩) 1 1, .slice (some ⟨H + 3, 0, none⟩) 2 2, .slice (some ⟨H + 4, 0, none⟩) 1 1, .int .i64 (-1), .slice (some ⟨H + 5, 0, none⟩) 1 1] 31)).alloc (.cells #[.string ⟨#[102]⟩, .int .i64 2, .int .i64 0] 45)) := ⟨_, rfl⟩
  have hb7 : Below w1.heap.size w1 y7 := by rw [hY7]; exact ((Below.refl _ _).alloc (Nat.le_refl _) _).alloc (by simp only [push_size7]; omega) _
  have hbx7 : y7.heap[w1.heap.size]? = some (.cells #[.slice (some ⟨H, 0, none⟩) 1 1, .slice (some ⟨H + 1, 0, none⟩) 1 1, .slice (some ⟨H + 2, 0, none⟩) 1 1, .slice (some ⟨H + 3, 0, none⟩) 2 2, .slice (some ⟨H + 4, 0, none⟩) 1 1, .int .i64 (-1), .slice (some ⟨H + 5, 0, none⟩) 1 1] 31) := by rw [hY7]; simp only [push7, push_size7]; rw [if_neg (by omega), if_pos trivial]
  have hs7 : y7.heap.size = w1.heap.size + 1 + 1 := by rw [hY7]; simp only [push_size7]
  go_wp2_with (at_builtin; refine wpList_append_own_at _ rfl (.tmp 30) (.tmp 32) 28 rfl w.heap.size 45 i0 (.agg #[.string ⟨#[]⟩, .int .i64 0, .int .i64 0]) 3 32 Tryz.underlying28 hi hz0 hz1 hz2 rfl (by decide) _ 1 _ rfl ((hown.alloc _).alloc _) ⟨w1.heap.size + 1, 0, none⟩ 1 1 ([.string ⟨#[102]⟩, .int .i64 2, .int .i64 0]) rfl rfl (cells_new2m w1 _ [.string ⟨#[102]⟩, .int .i64 2, .int .i64 0] 45) (by intro u hu; simp at hu; rcases hu with rfl | rfl | rfl <;> rfl) (by decide) (by decide) (by have := hB1.size; simp; omega) ?_)
  intro v' w2 hown' hgrow0 _ hloc0
  have hgrow : y7.grownBy w2 (some (H + 4)) := by rw [hY7]; exact hgrow0
  have hloc : v'.ownBlock = some (H + 4) ∨ v'.ownBlock = some y7.heap.size := by rw [hs7]; exact hloc0
  clear hgrow0 hloc0 hY7 hown
  obtain ⟨vp, vn, vc, rfl⟩ := own_form7 hown'
  obtain rfl : vn = 1 + 1 := own_len7 hown'
  have hbx2 := (hgrow.block w1.heap.size (by have := hb7.size; omega) (fun e => by injection e with e; omega)).trans hbx7
  have f1 : w2.cell? ⟨w1.heap.size, 4, none⟩ = some (.slice (some ⟨H + 4, 0, none⟩) 1 1) := by rw [World.cell?, hbx2]; rfl
  have f2 : w2.frozen? ⟨w1.heap.size, 4, none⟩ = false := by simp [World.frozen?, hbx2]
  obtain ⟨W, hW⟩ : ∃ W, W = w2.setCell ⟨w1.heap.size, 4, none⟩ (.slice vp (1 + 1) vc) := ⟨_, rfl⟩
  have hgW := grown_of (X0 := y7) hb7 (Below.refl _ _) hgrow (Nat.le_refl _) hW
  have hbxW : W.heap[w1.heap.size]? = some (.cells #[.slice (some ⟨H, 0, none⟩) 1 1, .slice (some ⟨H + 1, 0, none⟩) 1 1, .slice (some ⟨H + 2, 0, none⟩) 1 1, .slice (some ⟨H + 3, 0, none⟩) 2 2, .slice vp (1 + 1) vc, .int .i64 (-1), .slice (some ⟨H + 5, 0, none⟩) 1 1] 31) := by rw [hW]; exact heap_setCell_same w2 _ 4 _ _ _ hbx2
  have howW : W.ownsRow w.heap.size 45 3 (.slice vp (1 + 1) vc) (1 + 1) ([.string ⟨#[102]⟩, .int .i64 0, .int .i64 0] ++ [.string ⟨#[102]⟩, .int .i64 2, .int .i64 0]) := by rw [hW]; exact own_not7 hown' hloc (by omega) (by omega)
  have hfW := (hgW.block (H + 1) (by omega) (fun e => by injection e with e; omega)).trans hM.funcs
  have hmW := (hgW.block (H + 2) (by omega) (fun e => by injection e with e; omega)).trans hM.memory
  obtain ⟨hB2, cv⟩ := mods_end (mc := 1) (ec := vc) hLaid hB1 hM hlo hgW (by omega) hfW ⟨by decide, by decide⟩ (rows_block (l := [(⟨1, 2⟩ : MemV)]) hmW rfl (fun x _ => rfl)) (by intro t ht; rw [List.mem_singleton.1 ht]; exact ⟨⟨by decide, by decide⟩, ⟨by decide, by decide⟩⟩) (by decide) (rows_own (l := [fE, ⟨⟨#[102]⟩, 2, 0⟩]) howW rfl (fun x _ => rfl)) (by intro t ht; simp at ht; rcases ht with rfl | rfl <;> exact ⟨by decide, ⟨by decide, by decide⟩, ⟨by decide, by decide⟩⟩) (by show 2 ≤ 10; decide) rfl rfl (ans _ _ _ _ _ _ _ hM.right hM.runs0)
  obtain ⟨q0, q1, q2, q3, q4, q5, q6⟩ := box_seven7 hbx2
  have hlB := in_heap7 hbx2
  have HW := Lib.hid hW
  clear hW howW hfW hgW hbx2 hown' hgrow hloc hb7 hbx7 ans hbxW hs7 hz HZ
  go_wp2_with fail
  rw [← HW.out]
  refine cv.mono ?_
  rintro e w3 ⟨rfl, hb3⟩
  clear HW f1 f2 q0 q1 q2 q3 q4 q5 q6 hlB
  go_wp2
  go_ret
  exact ⟨rfl, hB2.trans (hb3.mono hB2.size)⟩
set_option maxRecDepth 100000 in
set_option maxHeartbeats 8000000 in
theorem mods_6 (p : Option Addr) (c : Nat) (l : List StepV) (hcl : l.length ≤ c) (which n : Int) (hw : 0 ≤ which ∧ which ≤ 255) (hK : which % 8 = 6) (hn : 0 ≤ n ∧ n ≤ 4294967295) (nm : ByteArray) (w : World) (hLaid : Laid w) (hS : StepsAt w p l) :
    Calls Tryz.prog 4 #[.slice p l.length c, .int .u8 which, .string nm, .int .u32 n] w fun e w' => e = .returned (.bool true) ∧ Below w.heap.size w w' := by
  have hh := examples7 w hLaid
  have hl := hS.most
  unfold mostThings at hl
  obtain ⟨hw0, hw1⟩ := hw
  obtain ⟨hn0, hn1⟩ := hn
  have hS2 := steps_take hS 20
  have cm := fun W (hW : Below w.heap.size w W) => made_fn p c (l.take 20) W (hS2.below hW (Nat.le_refl _))
  simp only [List.length_take, min_nat7] at cm
  have ans := fun H pc cc mp mc ep ec hr hu => md_ok6 (l := l.take 20) H pc cc mp mc ep ec hr hu
  clear hS hS2
  generalize codeF (l.take 20) = C0 at *
  generalize l.length = ln at *
  obtain ⟨i0, hi, hz0, hz1, hz2⟩ := info_parts info_exp7
  go_enter Tryz.func4, Tryz.ntmps4
  go_wp2_with (go_at_call 9; (with_reducible refine hh.mono ?_); rintro e wa ⟨rfl, hba⟩)
  refine (cm wa hba).mono ?_
  rintro e w1 ⟨H, pc, cc, he, hM, hb1⟩
  rw [madeV_val7] at he
  subst he
  have hB1 := hba.trans (hb1.mono hba.size)
  clear cm hh hb1
  have hlo : w.heap.size ≤ H := by have := hM.from0; have := hba.size; omega
  have hz := hM.size
  have HZ := Lib.hid hz
  have hown : w1.ownsRow w.heap.size 45 3 (.slice (some ⟨H + 4, 0, none⟩) 1 1) 1 [.string ⟨#[102]⟩, .int .i64 0, .int .i64 0] := own_blk7 hM.exports (by omega) rfl (by decide)
  obtain ⟨y7, hY7⟩ : ∃ y, y = ((w1.alloc (.cells #[.slice (some ⟨H, 0, none⟩) 1 1, .slice (some ⟨H + 1, 0, none⟩) 1 1, .slice (some ⟨H + 2, 0, none⟩) 1 1, .slice (some ⟨H + 3, 0, none⟩) 2 2, .slice (some ⟨H + 4, 0, none⟩) 1 1, .int .i64 (-1), .slice (some ⟨H + 5, 0, none⟩) 1 1] 31)).alloc (.cells #[.string ⟨#[109, 101, 109]⟩, .int .i64 2, .int .i64 0, .string ⟨#[103, 108, 111, 98]⟩, .int .i64 3, .int .i64 1] 45)) := ⟨_, rfl⟩
  have hb7 : Below w1.heap.size w1 y7 := by rw [hY7]; exact ((Below.refl _ _).alloc (Nat.le_refl _) _).alloc (by simp only [push_size7]; omega) _
  have hbx7 : y7.heap[w1.heap.size]? = some (.cells #[.slice (some ⟨H, 0, none⟩) 1 1, .slice (some ⟨H + 1, 0, none⟩) 1 1, .slice (some ⟨H + 2, 0, none⟩) 1 1, .slice (some ⟨H + 3, 0, none⟩) 2 2, .slice (some ⟨H + 4, 0, none⟩) 1 1, .int .i64 (-1), .slice (some ⟨H + 5, 0, none⟩) 1 1] 31) := by rw [hY7]; simp only [push7, push_size7]; rw [if_neg (by omega), if_pos trivial]
  have hs7 : y7.heap.size = w1.heap.size + 1 + 1 := by rw [hY7]; simp only [push_size7]
  go_wp2_with (at_builtin; refine wpList_append_own_at _ rfl (.tmp 84) (.tmp 87) 28 rfl w.heap.size 45 i0 (.agg #[.string ⟨#[]⟩, .int .i64 0, .int .i64 0]) 3 32 Tryz.underlying28 hi hz0 hz1 hz2 rfl (by decide) _ 1 _ rfl ((hown.alloc _).alloc _) ⟨w1.heap.size + 1, 0, none⟩ 2 2 ([.string ⟨#[109, 101, 109]⟩, .int .i64 2, .int .i64 0, .string ⟨#[103, 108, 111, 98]⟩, .int .i64 3, .int .i64 1]) rfl rfl (cells_new2m w1 _ [.string ⟨#[109, 101, 109]⟩, .int .i64 2, .int .i64 0, .string ⟨#[103, 108, 111, 98]⟩, .int .i64 3, .int .i64 1] 45) (by intro u hu; simp at hu; rcases hu with rfl | rfl | rfl | rfl | rfl | rfl <;> rfl) (by decide) (by decide) (by have := hB1.size; simp; omega) ?_)
  intro v' w2 hown' hgrow0 _ hloc0
  have hgrow : y7.grownBy w2 (some (H + 4)) := by rw [hY7]; exact hgrow0
  have hloc : v'.ownBlock = some (H + 4) ∨ v'.ownBlock = some y7.heap.size := by rw [hs7]; exact hloc0
  clear hgrow0 hloc0 hY7 hown
  obtain ⟨vp, vn, vc, rfl⟩ := own_form7 hown'
  obtain rfl : vn = 1 + 2 := own_len7 hown'
  have hbx2 := (hgrow.block w1.heap.size (by have := hb7.size; omega) (fun e => by injection e with e; omega)).trans hbx7
  have f1 : w2.cell? ⟨w1.heap.size, 4, none⟩ = some (.slice (some ⟨H + 4, 0, none⟩) 1 1) := by rw [World.cell?, hbx2]; rfl
  have f2 : w2.frozen? ⟨w1.heap.size, 4, none⟩ = false := by simp [World.frozen?, hbx2]
  obtain ⟨W, hW⟩ : ∃ W, W = w2.setCell ⟨w1.heap.size, 4, none⟩ (.slice vp (1 + 2) vc) := ⟨_, rfl⟩
  have hgW := grown_of (X0 := y7) hb7 (Below.refl _ _) hgrow (Nat.le_refl _) hW
  have hbxW : W.heap[w1.heap.size]? = some (.cells #[.slice (some ⟨H, 0, none⟩) 1 1, .slice (some ⟨H + 1, 0, none⟩) 1 1, .slice (some ⟨H + 2, 0, none⟩) 1 1, .slice (some ⟨H + 3, 0, none⟩) 2 2, .slice vp (1 + 2) vc, .int .i64 (-1), .slice (some ⟨H + 5, 0, none⟩) 1 1] 31) := by rw [hW]; exact heap_setCell_same w2 _ 4 _ _ _ hbx2
  have howW : W.ownsRow w.heap.size 45 3 (.slice vp (1 + 2) vc) (1 + 2) ([.string ⟨#[102]⟩, .int .i64 0, .int .i64 0] ++ [.string ⟨#[109, 101, 109]⟩, .int .i64 2, .int .i64 0, .string ⟨#[103, 108, 111, 98]⟩, .int .i64 3, .int .i64 1]) := by rw [hW]; exact own_not7 hown' hloc (by omega) (by omega)
  have hfW := (hgW.block (H + 1) (by omega) (fun e => by injection e with e; omega)).trans hM.funcs
  have hmW := (hgW.block (H + 2) (by omega) (fun e => by injection e with e; omega)).trans hM.memory
  obtain ⟨hB2, cv⟩ := mods_end (mc := 1) (ec := vc) hLaid hB1 hM hlo hgW (by omega) hfW ⟨by decide, by decide⟩ (rows_block (l := [(⟨1, 2⟩ : MemV)]) hmW rfl (fun x _ => rfl)) (by intro t ht; rw [List.mem_singleton.1 ht]; exact ⟨⟨by decide, by decide⟩, ⟨by decide, by decide⟩⟩) (by decide) (rows_own (l := [fE, ⟨⟨#[109, 101, 109]⟩, 2, 0⟩, ⟨⟨#[103, 108, 111, 98]⟩, 3, 1⟩]) howW rfl (fun x _ => rfl)) (by intro t ht; simp at ht; rcases ht with rfl | rfl | rfl <;> exact ⟨by decide, ⟨by decide, by decide⟩, ⟨by decide, by decide⟩⟩) (by show 3 ≤ 10; decide) rfl rfl (ans _ _ _ _ _ _ _ hM.right hM.runs0)
  obtain ⟨q0, q1, q2, q3, q4, q5, q6⟩ := box_seven7 hbx2
  have hlB := in_heap7 hbx2
  have HW := Lib.hid hW
  clear hW howW hfW hgW hbx2 hown' hgrow hloc hb7 hbx7 ans hbxW hs7 hz HZ
  go_wp2_with fail
  rw [← HW.out]
  refine cv.mono ?_
  rintro e w3 ⟨rfl, hb3⟩
  clear HW f1 f2 q0 q1 q2 q3 q4 q5 q6 hlB
  go_wp2
  go_ret
  exact ⟨rfl, hB2.trans (hb3.mono hB2.size)⟩
set_option maxRecDepth 100000 in
set_option maxHeartbeats 8000000 in
theorem mods_3 (p : Option Addr) (c : Nat) (l : List StepV) (hcl : l.length ≤ c) (which n : Int) (hw : 0 ≤ which ∧ which ≤ 255) (hK : which % 8 = 3) (hn : 0 ≤ n ∧ n ≤ 4294967295) (nm : ByteArray) (w : World) (hLaid : Laid w) (hS : StepsAt w p l) :
    Calls Tryz.prog 4 #[.slice p l.length c, .int .u8 which, .string nm, .int .u32 n] w fun e w' => e = .returned (.bool true) ∧ Below w.heap.size w w' := by
  have hh := examples7 w hLaid
  have hl := hS.most
  unfold mostThings at hl
  obtain ⟨hw0, hw1⟩ := hw
  obtain ⟨hn0, hn1⟩ := hn
  have hS2 := steps_take hS 20
  have cm := fun W (hW : Below w.heap.size w W) => made_fn p c (l.take 20) W (hS2.below hW (Nat.le_refl _))
  simp only [List.length_take, min_nat7] at cm
  have ans := fun H pc cc mp mc ep ec hr hu => md_ok3 (l := l.take 20) H pc cc mp mc ep ec hr hu
  clear hS hS2
  generalize codeF (l.take 20) = C0 at *
  generalize l.length = ln at *
  obtain ⟨i0, hi, hz0, hz1, hz2⟩ := info_parts info_mem7
  go_enter Tryz.func4, Tryz.ntmps4
  go_wp2_with (go_at_call 9; (with_reducible refine hh.mono ?_); rintro e wa ⟨rfl, hba⟩)
  refine (cm wa hba).mono ?_
  rintro e w1 ⟨H, pc, cc, he, hM, hb1⟩
  rw [madeV_val7] at he
  subst he
  have hB1 := hba.trans (hb1.mono hba.size)
  clear cm hh hb1
  have hlo : w.heap.size ≤ H := by have := hM.from0; have := hba.size; omega
  have hz := hM.size
  have HZ := Lib.hid hz
  have hown : w1.ownsRow w.heap.size 47 2 (.slice (some ⟨H + 2, 0, none⟩) 1 1) 1 [.int .i64 1, .int .i64 2] := own_blk7 hM.memory (by omega) rfl (by decide)
  obtain ⟨y7, hY7⟩ : ∃ y, y = (w1.alloc (.cells #[.slice (some ⟨H, 0, none⟩) 1 1, .slice (some ⟨H + 1, 0, none⟩) 1 1, .slice (some ⟨H + 2, 0, none⟩) 1 1, .slice (some ⟨H + 3, 0, none⟩) 2 2, .slice (some ⟨H + 4, 0, none⟩) 1 1, .int .i64 (-1), .slice (some ⟨H + 5, 0, none⟩) 1 1] 31)) := ⟨_, rfl⟩
  have hb7 : Below w1.heap.size w1 y7 := by rw [hY7]; exact (Below.refl _ _).alloc (Nat.le_refl _) _
  have hbx7 : y7.heap[w1.heap.size]? = some (.cells #[.slice (some ⟨H, 0, none⟩) 1 1, .slice (some ⟨H + 1, 0, none⟩) 1 1, .slice (some ⟨H + 2, 0, none⟩) 1 1, .slice (some ⟨H + 3, 0, none⟩) 2 2, .slice (some ⟨H + 4, 0, none⟩) 1 1, .int .i64 (-1), .slice (some ⟨H + 5, 0, none⟩) 1 1] 31) := by rw [hY7]; exact heap_alloc_new _ _
  have hs7 : y7.heap.size = w1.heap.size + 1 := by rw [hY7]; simp only [push_size7]
  go_wp2_with (at_builtin; refine wpList_append_own_at _ rfl (.tmp 53) (.tmp 55) 26 rfl w.heap.size 47 i0 (.agg #[.int .i64 0, .int .i64 0]) 2 16 Tryz.underlying26 hi hz0 hz1 hz2 rfl (by decide) _ 1 _ rfl (hown.alloc _) ⟨H + 2, 0, none⟩ 1 1 ([.int .i64 1, .int .i64 2]) rfl rfl ((hown.alloc _).cells (g := H + 2) rfl) (by intro u hu; simp at hu; rcases hu with rfl | rfl <;> rfl) (by decide) (by decide) (by have := hB1.size; simp; omega) ?_)
  intro v' w2 hown' hgrow0 _ hloc0
  have hgrow : y7.grownBy w2 (some (H + 2)) := by rw [hY7]; exact hgrow0
  have hloc : v'.ownBlock = some (H + 2) ∨ v'.ownBlock = some y7.heap.size := by rw [hs7]; exact hloc0
  clear hgrow0 hloc0 hY7 hown
  obtain ⟨vp, vn, vc, rfl⟩ := own_form7 hown'
  obtain rfl : vn = 1 + 1 := own_len7 hown'
  have hbx2 := (hgrow.block w1.heap.size (by have := hb7.size; omega) (fun e => by injection e with e; omega)).trans hbx7
  have f1 : w2.cell? ⟨w1.heap.size, 2, none⟩ = some (.slice (some ⟨H + 2, 0, none⟩) 1 1) := by rw [World.cell?, hbx2]; rfl
  have f2 : w2.frozen? ⟨w1.heap.size, 2, none⟩ = false := by simp [World.frozen?, hbx2]
  obtain ⟨W, hW⟩ : ∃ W, W = w2.setCell ⟨w1.heap.size, 2, none⟩ (.slice vp (1 + 1) vc) := ⟨_, rfl⟩
  have hgW := grown_of (X0 := y7) hb7 (Below.refl _ _) hgrow (Nat.le_refl _) hW
  have hbxW : W.heap[w1.heap.size]? = some (.cells #[.slice (some ⟨H, 0, none⟩) 1 1, .slice (some ⟨H + 1, 0, none⟩) 1 1, .slice vp (1 + 1) vc, .slice (some ⟨H + 3, 0, none⟩) 2 2, .slice (some ⟨H + 4, 0, none⟩) 1 1, .int .i64 (-1), .slice (some ⟨H + 5, 0, none⟩) 1 1] 31) := by rw [hW]; exact heap_setCell_same w2 _ 2 _ _ _ hbx2
  have howW : W.ownsRow w.heap.size 47 2 (.slice vp (1 + 1) vc) (1 + 1) ([.int .i64 1, .int .i64 2] ++ [.int .i64 1, .int .i64 2]) := by rw [hW]; exact own_not7 hown' hloc (by omega) (by omega)
  have hfW := (hgW.block (H + 1) (by omega) (fun e => by injection e with e; omega)).trans hM.funcs
  have heW := (hgW.block (H + 4) (by omega) (fun e => by injection e with e; omega)).trans hM.exports
  obtain ⟨hB2, cv⟩ := mods_end (mc := vc) (ec := 1) hLaid hB1 hM hlo hgW (by omega) hfW ⟨by decide, by decide⟩ (rows_own (l := [(⟨1, 2⟩ : MemV), ⟨1, 2⟩]) howW rfl (fun x _ => rfl)) (by intro t ht; simp at ht; subst ht; exact ⟨⟨by decide, by decide⟩, ⟨by decide, by decide⟩⟩) (by decide) (rows_block (l := [fE]) heW rfl (fun x _ => rfl)) (by intro t ht; rw [List.mem_singleton.1 ht]; exact ⟨by decide, ⟨by decide, by decide⟩, ⟨by decide, by decide⟩⟩) (by decide) rfl rfl (ans _ _ _ _ _ _ _ hM.right hM.runs0)
  obtain ⟨q0, q1, q2, q3, q4, q5, q6⟩ := box_seven7 hbx2
  have hlB := in_heap7 hbx2
  have HW := Lib.hid hW
  clear hW howW hfW hgW hbx2 hown' hgrow hloc hb7 hbx7 ans hbxW hs7 hz HZ
  go_wp2_with fail
  rw [← HW.out]
  refine cv.mono ?_
  rintro e w3 ⟨rfl, hb3⟩
  clear HW f1 f2 q0 q1 q2 q3 q4 q5 q6 hlB
  go_wp2
  go_ret
  exact ⟨rfl, hB2.trans (hb3.mono hB2.size)⟩
set_option maxRecDepth 100000 in
set_option maxHeartbeats 8000000 in
theorem mods_1 (p : Option Addr) (c : Nat) (l : List StepV) (hcl : l.length ≤ c) (which n : Int) (hw : 0 ≤ which ∧ which ≤ 255) (hK : which % 8 = 1) (hn : 0 ≤ n ∧ n ≤ 4294967295) (nm : ByteArray) (w : World) (hLaid : Laid w) (hS : StepsAt w p l) :
    Calls Tryz.prog 4 #[.slice p l.length c, .int .u8 which, .string nm, .int .u32 n] w fun e w' => e = .returned (.bool true) ∧ Below w.heap.size w w' := by
  have hh := examples7 w hLaid
  have hl := hS.most
  unfold mostThings at hl
  obtain ⟨hw0, hw1⟩ := hw
  obtain ⟨hn0, hn1⟩ := hn
  have hS2 := steps_take hS 20
  have cm := fun W (hW : Below w.heap.size w W) => made_fn p c (l.take 20) W (hS2.below hW (Nat.le_refl _))
  simp only [List.length_take, min_nat7] at cm
  obtain ⟨k, hk⟩ : ∃ k, n % 1000 = k := ⟨_, rfl⟩
  have hk0 : 0 ≤ k ∧ k < 1000 := by omega
  obtain ⟨hk6, hk7⟩ := hk0
  have hk1 : Int.tmod n 1000 = k := by rw [Int.tmod_eq_emod_of_nonneg hn0]; exact hk
  have hk2 : IntKind.u32.wrap k = k := by rw [IntKind.wrap_u32]; omega
  have hk3 : IntKind.i64.wrap k = k := IntWalk.i64_in _ (by omega)
  have hk4 : IntKind.i64.wrap (1 + k) = 1 + k := IntWalk.i64_in _ (by omega)
  have hk5 : IntKind.i64.wrap (65537 + k) = 65537 + k := IntWalk.i64_in _ (by omega)
  have ans := fun H pc cc mp mc ep ec hr hu => md_ok1 (l := l.take 20) H pc cc mp mc ep ec hr hu k ⟨hk6, hk7⟩
  clear hS hS2
  generalize codeF (l.take 20) = C0 at *
  generalize l.length = ln at *
  obtain ⟨i0, hi, hz0, hz1, hz2⟩ := info_parts info_exp7
  go_enter Tryz.func4, Tryz.ntmps4
  go_wp2_with (go_at_call 9; (with_reducible refine hh.mono ?_); rintro e wa ⟨rfl, hba⟩)
  refine (cm wa hba).mono ?_
  rintro e w1 ⟨H, pc, cc, he, hM, hb1⟩
  rw [madeV_val7] at he
  subst he
  have hB1 := hba.trans (hb1.mono hba.size)
  clear cm hh hb1
  have hlo : w.heap.size ≤ H := by have := hM.from0; have := hba.size; omega
  have hz := hM.size
  have HZ := Lib.hid hz
  have hown : w1.ownsRow w.heap.size 45 3 (.slice (some ⟨H + 4, 0, none⟩) 1 1) 1 [.string ⟨#[102]⟩, .int .i64 0, .int .i64 0] := own_blk7 hM.exports (by omega) rfl (by decide)
  obtain ⟨y7, hY7⟩ : ∃ y, y = ((w1.alloc (.cells #[.slice (some ⟨H, 0, none⟩) 1 1, .slice (some ⟨H + 1, 0, none⟩) 1 1, .slice (some ⟨H + 2, 0, none⟩) 1 1, .slice (some ⟨H + 3, 0, none⟩) 2 2, .slice (some ⟨H + 4, 0, none⟩) 1 1, .int .i64 (-1), .slice (some ⟨H + 5, 0, none⟩) 1 1] 31)).alloc (.cells #[.string ⟨#[103]⟩, .int .i64 0, .int .i64 (1 + k)] 45)) := ⟨_, rfl⟩
  have hb7 : Below w1.heap.size w1 y7 := by rw [hY7]; exact ((Below.refl _ _).alloc (Nat.le_refl _) _).alloc (by simp only [push_size7]; omega) _
  have hbx7 : y7.heap[w1.heap.size]? = some (.cells #[.slice (some ⟨H, 0, none⟩) 1 1, .slice (some ⟨H + 1, 0, none⟩) 1 1, .slice (some ⟨H + 2, 0, none⟩) 1 1, .slice (some ⟨H + 3, 0, none⟩) 2 2, .slice (some ⟨H + 4, 0, none⟩) 1 1, .int .i64 (-1), .slice (some ⟨H + 5, 0, none⟩) 1 1] 31) := by rw [hY7]; simp only [push7, push_size7]; rw [if_neg (by omega), if_pos trivial]
  have hs7 : y7.heap.size = w1.heap.size + 1 + 1 := by rw [hY7]; simp only [push_size7]
  go_wp2_with (at_builtin; refine wpList_append_own_at _ rfl (.tmp 38) (.tmp 44) 28 rfl w.heap.size 45 i0 (.agg #[.string ⟨#[]⟩, .int .i64 0, .int .i64 0]) 3 32 Tryz.underlying28 hi hz0 hz1 hz2 rfl (by decide) _ 1 _ rfl ((hown.alloc _).alloc _) ⟨w1.heap.size + 1, 0, none⟩ 1 1 ([.string ⟨#[103]⟩, .int .i64 0, .int .i64 (1 + k)]) rfl rfl (cells_new2m w1 _ [.string ⟨#[103]⟩, .int .i64 0, .int .i64 (1 + k)] 45) (by intro u hu; simp at hu; rcases hu with rfl | rfl | rfl <;> rfl) (by decide) (by decide) (by have := hB1.size; simp; omega) ?_)
  intro v' w2 hown' hgrow0 _ hloc0
  have hgrow : y7.grownBy w2 (some (H + 4)) := by rw [hY7]; exact hgrow0
  have hloc : v'.ownBlock = some (H + 4) ∨ v'.ownBlock = some y7.heap.size := by rw [hs7]; exact hloc0
  clear hgrow0 hloc0 hY7 hown
  obtain ⟨vp, vn, vc, rfl⟩ := own_form7 hown'
  obtain rfl : vn = 1 + 1 := own_len7 hown'
  have hbx2 := (hgrow.block w1.heap.size (by have := hb7.size; omega) (fun e => by injection e with e; omega)).trans hbx7
  have f1 : w2.cell? ⟨w1.heap.size, 4, none⟩ = some (.slice (some ⟨H + 4, 0, none⟩) 1 1) := by rw [World.cell?, hbx2]; rfl
  have f2 : w2.frozen? ⟨w1.heap.size, 4, none⟩ = false := by simp [World.frozen?, hbx2]
  obtain ⟨W, hW⟩ : ∃ W, W = w2.setCell ⟨w1.heap.size, 4, none⟩ (.slice vp (1 + 1) vc) := ⟨_, rfl⟩
  have hgW := grown_of (X0 := y7) hb7 (Below.refl _ _) hgrow (Nat.le_refl _) hW
  have hbxW : W.heap[w1.heap.size]? = some (.cells #[.slice (some ⟨H, 0, none⟩) 1 1, .slice (some ⟨H + 1, 0, none⟩) 1 1, .slice (some ⟨H + 2, 0, none⟩) 1 1, .slice (some ⟨H + 3, 0, none⟩) 2 2, .slice vp (1 + 1) vc, .int .i64 (-1), .slice (some ⟨H + 5, 0, none⟩) 1 1] 31) := by rw [hW]; exact heap_setCell_same w2 _ 4 _ _ _ hbx2
  have howW : W.ownsRow w.heap.size 45 3 (.slice vp (1 + 1) vc) (1 + 1) ([.string ⟨#[102]⟩, .int .i64 0, .int .i64 0] ++ [.string ⟨#[103]⟩, .int .i64 0, .int .i64 (1 + k)]) := by rw [hW]; exact own_not7 hown' hloc (by omega) (by omega)
  have hfW := (hgW.block (H + 1) (by omega) (fun e => by injection e with e; omega)).trans hM.funcs
  have hmW := (hgW.block (H + 2) (by omega) (fun e => by injection e with e; omega)).trans hM.memory
  obtain ⟨hB2, cv⟩ := mods_end (mc := 1) (ec := vc) hLaid hB1 hM hlo hgW (by omega) hfW ⟨by decide, by decide⟩ (rows_block (l := [(⟨1, 2⟩ : MemV)]) hmW rfl (fun x _ => rfl)) (by intro t ht; rw [List.mem_singleton.1 ht]; exact ⟨⟨by decide, by decide⟩, ⟨by decide, by decide⟩⟩) (by decide) (rows_own (l := [fE, ⟨⟨#[103]⟩, 0, 1 + k⟩]) howW rfl (fun x _ => rfl)) (by intro t ht; simp at ht; rcases ht with rfl | rfl; exact ⟨by decide, ⟨by decide, by decide⟩, ⟨by decide, by decide⟩⟩; exact ⟨by show 1 ≤ maxLen; decide, ⟨by show -9223372036854775808 ≤ (0 : Int); decide, by show (0 : Int) ≤ 9223372036854775807; decide⟩, ⟨by show -9223372036854775808 ≤ 1 + k; omega, by show 1 + k ≤ 9223372036854775807; omega⟩⟩) (by show 2 ≤ 10; decide) rfl rfl (ans _ _ _ _ _ _ _ hM.right hM.runs0)
  obtain ⟨q0, q1, q2, q3, q4, q5, q6⟩ := box_seven7 hbx2
  have hlB := in_heap7 hbx2
  have HW := Lib.hid hW
  clear hW howW hfW hgW hbx2 hown' hgrow hloc hb7 hbx7 ans hbxW hs7 hz HZ
  go_wp2_with fail
  rw [← HW.out]
  refine cv.mono ?_
  rintro e w3 ⟨rfl, hb3⟩
  clear HW f1 f2 q0 q1 q2 q3 q4 q5 q6 hlB
  go_wp2
  go_ret
  exact ⟨rfl, hB2.trans (hb3.mono hB2.size)⟩
set_option maxRecDepth 100000 in
set_option maxHeartbeats 8000000 in
theorem mods_4 (p : Option Addr) (c : Nat) (l : List StepV) (hcl : l.length ≤ c) (which n : Int) (hw : 0 ≤ which ∧ which ≤ 255) (hK : which % 8 = 4) (hn : 0 ≤ n ∧ n ≤ 4294967295) (nm : ByteArray) (w : World) (hLaid : Laid w) (hS : StepsAt w p l) :
    Calls Tryz.prog 4 #[.slice p l.length c, .int .u8 which, .string nm, .int .u32 n] w fun e w' => e = .returned (.bool true) ∧ Below w.heap.size w w' := by
  have hh := examples7 w hLaid
  have hl := hS.most
  unfold mostThings at hl
  obtain ⟨hw0, hw1⟩ := hw
  obtain ⟨hn0, hn1⟩ := hn
  have hS2 := steps_take hS 20
  have cm := fun W (hW : Below w.heap.size w W) => made_fn p c (l.take 20) W (hS2.below hW (Nat.le_refl _))
  simp only [List.length_take, min_nat7] at cm
  obtain ⟨k, hk⟩ : ∃ k, n % 1000 = k := ⟨_, rfl⟩
  have hk0 : 0 ≤ k ∧ k < 1000 := by omega
  obtain ⟨hk6, hk7⟩ := hk0
  have hk1 : Int.tmod n 1000 = k := by rw [Int.tmod_eq_emod_of_nonneg hn0]; exact hk
  have hk2 : IntKind.u32.wrap k = k := by rw [IntKind.wrap_u32]; omega
  have hk3 : IntKind.i64.wrap k = k := IntWalk.i64_in _ (by omega)
  have hk4 : IntKind.i64.wrap (1 + k) = 1 + k := IntWalk.i64_in _ (by omega)
  have hk5 : IntKind.i64.wrap (65537 + k) = 65537 + k := IntWalk.i64_in _ (by omega)
  have ans := fun H pc cc mp mc ep ec hr hu => md_ok4 (l := l.take 20) H pc cc mp mc ep ec hr hu k ⟨hk6, hk7⟩
  clear hS hS2
  generalize codeF (l.take 20) = C0 at *
  generalize l.length = ln at *
  go_enter Tryz.func4, Tryz.ntmps4
  go_wp2_with (first
    | (go_at_call 9; (with_reducible refine hh.mono ?_); rintro e wa ⟨rfl, hba⟩)
    | (go_at_call 10; (with_reducible refine (cm _ hba).mono ?_); rintro e w1 ⟨H, pc, cc, he, hM, hb1⟩; rw [madeV_val7] at he; subst he; have hB1 := hba.trans (hb1.mono hba.size); have hz := hM.size; have hr := hM.reads7; have ⟨z1, z2, y1, y2⟩ : (¬ w1.heap.size = H + 1) ∧ (¬ w1.heap.size = H + 2) ∧ (¬ H + 1 = w1.heap.size) ∧ (¬ H + 2 = w1.heap.size) := (by omega)))
  have hlo : w.heap.size ≤ H := by have := hM.from0; have := hba.size; omega
  obtain ⟨W, hW⟩ : ∃ W, W = ((w1.alloc (.cells #[.slice (some ⟨H, 0, none⟩) 1 1, .slice (some ⟨H + 1, 0, none⟩) 1 1, .slice (some ⟨H + 2, 0, none⟩) 1 1, .slice (some ⟨H + 3, 0, none⟩) 2 2, .slice (some ⟨H + 4, 0, none⟩) 1 1, .int .i64 (-1), .slice (some ⟨H + 5, 0, none⟩) 1 1] 31)).setCell ⟨H + 2, 0, none⟩ (.int .i64 (65537 + k))).setCell ⟨H + 2, 1, none⟩ (.int .i64 (-1)) := ⟨_, rfl⟩
  have hgW : w1.grownBy W (some (H + 2)) := by rw [hW]; exact ((World.grownBy_alloc w1 _ _).trans (cell_grown _ _ _ _)).trans (cell_grown _ _ _ _)
  have hmW : W.heap[H + 2]? = some (.cells #[.int .i64 (65537 + k), .int .i64 (-1)] 47) := by rw [hW]; exact heap_setCell_same _ _ 1 _ _ _ (heap_setCell_same _ _ 0 _ _ _ ((Below.heap_alloc _ _ _ (by omega)).trans hM.memory))
  have hfW := (hgW.block (H + 1) (by omega) (fun e => by injection e with e; omega)).trans hM.funcs
  have heW := (hgW.block (H + 4) (by omega) (fun e => by injection e with e; omega)).trans hM.exports
  obtain ⟨hB2, cv⟩ := mods_end (mc := 1) (ec := 1) hLaid hB1 hM hlo hgW (by omega) hfW ⟨by decide, by decide⟩ (rows_block (l := [(⟨(65537 + k), (-1)⟩ : MemV)]) hmW rfl (fun x _ => rfl)) (by intro t ht; rw [List.mem_singleton.1 ht]; exact ⟨⟨by show -9223372036854775808 ≤ (65537 + k); omega, by show (65537 + k) ≤ 9223372036854775807; omega⟩, ⟨by show -9223372036854775808 ≤ (-1); omega, by show (-1) ≤ 9223372036854775807; omega⟩⟩) (by show 1 ≤ 10; decide) (rows_block (l := [fE]) heW rfl (fun x _ => rfl)) (by intro t ht; rw [List.mem_singleton.1 ht]; exact ⟨by decide, ⟨by decide, by decide⟩, ⟨by decide, by decide⟩⟩) (by decide) rfl rfl (ans _ _ _ _ _ _ _ hM.right hM.runs0)
  rw [← hW]
  clear hW hgW hmW hfW heW hr hz ans
  refine cv.mono ?_
  rintro e w3 ⟨rfl, hb3⟩
  go_wp2
  go_ret
  exact ⟨rfl, hB2.trans (hb3.mono hB2.size)⟩
set_option maxRecDepth 100000 in
set_option maxHeartbeats 8000000 in
theorem mods_5 (p : Option Addr) (c : Nat) (l : List StepV) (hcl : l.length ≤ c) (which n : Int) (hw : 0 ≤ which ∧ which ≤ 255) (hK : which % 8 = 5) (hn : 0 ≤ n ∧ n ≤ 4294967295) (nm : ByteArray) (w : World) (hLaid : Laid w) (hS : StepsAt w p l) :
    Calls Tryz.prog 4 #[.slice p l.length c, .int .u8 which, .string nm, .int .u32 n] w fun e w' => e = .returned (.bool true) ∧ Below w.heap.size w w' := by
  have hh := examples7 w hLaid
  have hl := hS.most
  unfold mostThings at hl
  obtain ⟨hw0, hw1⟩ := hw
  obtain ⟨hn0, hn1⟩ := hn
  have hS2 := steps_take hS 20
  have cm := fun W (hW : Below w.heap.size w W) => made_fn p c (l.take 20) W (hS2.below hW (Nat.le_refl _))
  simp only [List.length_take, min_nat7] at cm
  obtain ⟨k, hk⟩ : ∃ k, n % 1000 = k := ⟨_, rfl⟩
  have hk0 : 0 ≤ k ∧ k < 1000 := by omega
  obtain ⟨hk6, hk7⟩ := hk0
  have hk1 : Int.tmod n 1000 = k := by rw [Int.tmod_eq_emod_of_nonneg hn0]; exact hk
  have hk2 : IntKind.u32.wrap k = k := by rw [IntKind.wrap_u32]; omega
  have hk3 : IntKind.i64.wrap k = k := IntWalk.i64_in _ (by omega)
  have hk4 : IntKind.i64.wrap (1 + k) = 1 + k := IntWalk.i64_in _ (by omega)
  have hk5 : IntKind.i64.wrap (65537 + k) = 65537 + k := IntWalk.i64_in _ (by omega)
  have ans := fun H pc cc mp mc ep ec hr hu => md_ok5 (l := l.take 20) H pc cc mp mc ep ec hr hu k ⟨hk6, hk7⟩
  clear hS hS2
  generalize codeF (l.take 20) = C0 at *
  generalize l.length = ln at *
  go_enter Tryz.func4, Tryz.ntmps4
  go_wp2_with (first
    | (go_at_call 9; (with_reducible refine hh.mono ?_); rintro e wa ⟨rfl, hba⟩)
    | (go_at_call 10; (with_reducible refine (cm _ hba).mono ?_); rintro e w1 ⟨H, pc, cc, he, hM, hb1⟩; rw [madeV_val7] at he; subst he; have hB1 := hba.trans (hb1.mono hba.size); have hz := hM.size; have hr := hM.reads7; have ⟨z1, z2, y1, y2⟩ : (¬ w1.heap.size = H + 1) ∧ (¬ w1.heap.size = H + 2) ∧ (¬ H + 1 = w1.heap.size) ∧ (¬ H + 2 = w1.heap.size) := (by omega)))
  have hlo : w.heap.size ≤ H := by have := hM.from0; have := hba.size; omega
  obtain ⟨W, hW⟩ : ∃ W, W = ((w1.alloc (.cells #[.slice (some ⟨H, 0, none⟩) 1 1, .slice (some ⟨H + 1, 0, none⟩) 1 1, .slice (some ⟨H + 2, 0, none⟩) 1 1, .slice (some ⟨H + 3, 0, none⟩) 2 2, .slice (some ⟨H + 4, 0, none⟩) 1 1, .int .i64 (-1), .slice (some ⟨H + 5, 0, none⟩) 1 1] 31)).setCell ⟨H + 2, 0, none⟩ (.int .i64 (1 + k))).setCell ⟨H + 2, 1, none⟩ (.int .i64 k) := ⟨_, rfl⟩
  have hgW : w1.grownBy W (some (H + 2)) := by rw [hW]; exact ((World.grownBy_alloc w1 _ _).trans (cell_grown _ _ _ _)).trans (cell_grown _ _ _ _)
  have hmW : W.heap[H + 2]? = some (.cells #[.int .i64 (1 + k), .int .i64 k] 47) := by rw [hW]; exact heap_setCell_same _ _ 1 _ _ _ (heap_setCell_same _ _ 0 _ _ _ ((Below.heap_alloc _ _ _ (by omega)).trans hM.memory))
  have hfW := (hgW.block (H + 1) (by omega) (fun e => by injection e with e; omega)).trans hM.funcs
  have heW := (hgW.block (H + 4) (by omega) (fun e => by injection e with e; omega)).trans hM.exports
  obtain ⟨hB2, cv⟩ := mods_end (mc := 1) (ec := 1) hLaid hB1 hM hlo hgW (by omega) hfW ⟨by decide, by decide⟩ (rows_block (l := [(⟨(1 + k), k⟩ : MemV)]) hmW rfl (fun x _ => rfl)) (by intro t ht; rw [List.mem_singleton.1 ht]; exact ⟨⟨by show -9223372036854775808 ≤ (1 + k); omega, by show (1 + k) ≤ 9223372036854775807; omega⟩, ⟨by show -9223372036854775808 ≤ k; omega, by show k ≤ 9223372036854775807; omega⟩⟩) (by show 1 ≤ 10; decide) (rows_block (l := [fE]) heW rfl (fun x _ => rfl)) (by intro t ht; rw [List.mem_singleton.1 ht]; exact ⟨by decide, ⟨by decide, by decide⟩, ⟨by decide, by decide⟩⟩) (by decide) rfl rfl (ans _ _ _ _ _ _ _ hM.right hM.runs0)
  rw [← hW]
  clear hW hgW hmW hfW heW hr hz ans
  refine cv.mono ?_
  rintro e w3 ⟨rfl, hb3⟩
  go_wp2
  go_ret
  exact ⟨rfl, hB2.trans (hb3.mono hB2.size)⟩
set_option maxRecDepth 100000 in
set_option maxHeartbeats 8000000 in
theorem mods_7 (p : Option Addr) (c : Nat) (l : List StepV) (hcl : l.length ≤ c) (which n : Int) (hw : 0 ≤ which ∧ which ≤ 255) (hK : which % 8 = 7) (hn : 0 ≤ n ∧ n ≤ 4294967295) (nm : ByteArray) (w : World) (hLaid : Laid w) (hS : StepsAt w p l) :
    Calls Tryz.prog 4 #[.slice p l.length c, .int .u8 which, .string nm, .int .u32 n] w fun e w' => e = .returned (.bool true) ∧ Below w.heap.size w w' := by
  have hh := examples7 w hLaid
  have hl := hS.most
  unfold mostThings at hl
  obtain ⟨hw0, hw1⟩ := hw
  obtain ⟨hn0, hn1⟩ := hn
  have hS2 := steps_take hS 20
  have cm := fun W (hW : Below w.heap.size w W) => made_fn p c (l.take 20) W (hS2.below hW (Nat.le_refl _))
  simp only [List.length_take, min_nat7] at cm
  have ans := fun H pc cc mp mc ep ec hr hu => md_ok7 (l := l.take 20) H pc cc mp mc ep ec hr hu
  clear hS hS2
  generalize codeF (l.take 20) = C0 at *
  generalize l.length = ln at *
  go_enter Tryz.func4, Tryz.ntmps4
  go_wp2_with (first
    | (go_at_call 9; (with_reducible refine hh.mono ?_); rintro e wa ⟨rfl, hba⟩)
    | (go_at_call 10; (with_reducible refine (cm _ hba).mono ?_); rintro e w1 ⟨H, pc, cc, he, hM, hb1⟩; rw [madeV_val7] at he; subst he; have hB1 := hba.trans (hb1.mono hba.size); have hz := hM.size; have hr := hM.reads7; have ⟨z1, z2, y1, y2⟩ : (¬ w1.heap.size = H + 1) ∧ (¬ w1.heap.size = H + 2) ∧ (¬ H + 1 = w1.heap.size) ∧ (¬ H + 2 = w1.heap.size) := (by omega)))
  have hlo : w.heap.size ≤ H := by have := hM.from0; have := hba.size; omega
  obtain ⟨W, hW⟩ : ∃ W, W = (w1.alloc (.cells #[.slice (some ⟨H, 0, none⟩) 1 1, .slice (some ⟨H + 1, 0, none⟩) 1 1, .slice (some ⟨H + 2, 0, none⟩) 1 1, .slice (some ⟨H + 3, 0, none⟩) 2 2, .slice (some ⟨H + 4, 0, none⟩) 1 1, .int .i64 (-1), .slice (some ⟨H + 5, 0, none⟩) 1 1] 31)).setCell ⟨H + 1, 0, none⟩ (.int .i64 1) := ⟨_, rfl⟩
  have hgW : w1.grownBy W (some (H + 1)) := by rw [hW]; exact (World.grownBy_alloc w1 _ _).trans (cell_grown _ _ _ _)
  have hfW : W.heap[H + 1]? = some (.cells #[.int .i64 1, .string ⟨#[127, 126]⟩, .slice pc C0.length cc] 35) := by rw [hW]; exact heap_setCell_same _ _ 0 _ _ _ ((Below.heap_alloc _ _ _ (by omega)).trans hM.funcs)
  have hmW := (hgW.block (H + 2) (by omega) (fun e => by injection e with e; omega)).trans hM.memory
  have heW := (hgW.block (H + 4) (by omega) (fun e => by injection e with e; omega)).trans hM.exports
  obtain ⟨hB2, cv⟩ := mods_end (mc := 1) (ec := 1) hLaid hB1 hM hlo hgW (by omega) hfW ⟨by decide, by decide⟩ (rows_block (l := [(⟨1, 2⟩ : MemV)]) hmW rfl (fun x _ => rfl)) (by intro t ht; rw [List.mem_singleton.1 ht]; exact ⟨⟨by show -9223372036854775808 ≤ 1; omega, by show 1 ≤ 9223372036854775807; omega⟩, ⟨by show -9223372036854775808 ≤ 2; omega, by show 2 ≤ 9223372036854775807; omega⟩⟩) (by show 1 ≤ 10; decide) (rows_block (l := [fE]) heW rfl (fun x _ => rfl)) (by intro t ht; rw [List.mem_singleton.1 ht]; exact ⟨by decide, ⟨by decide, by decide⟩, ⟨by decide, by decide⟩⟩) (by decide) rfl rfl (ans _ _ _ _ _ _ _ hM.right hM.runs0)
  rw [← hW]
  clear hW hgW hmW hfW heW hr hz ans
  refine cv.mono ?_
  rintro e w3 ⟨rfl, hb3⟩
  go_wp2
  go_ret
  exact ⟨rfl, hB2.trans (hb3.mono hB2.size)⟩
theorem validModules_walk (p : Option Addr) (c : Nat) (l : List StepV) (hcl : l.length ≤ c) (which : Int) (hw : 0 ≤ which ∧ which ≤ 255) (nm : ByteArray) (n : Int) (hn : 0 ≤ n ∧ n ≤ 4294967295) (w : World) (hLaid : Laid w) (hS : StepsAt w p l) :
    Calls Tryz.prog 4 #[.slice p l.length c, .int .u8 which, .string nm, .int .u32 n] w fun e w' => e = .returned (.bool true) ∧ Below w.heap.size w w' := by
  have h8 : which % 8 = 0 ∨ which % 8 = 1 ∨ which % 8 = 2 ∨ which % 8 = 3 ∨ which % 8 = 4 ∨ which % 8 = 5 ∨ which % 8 = 6 ∨ which % 8 = 7 := by omega
  rcases h8 with h | h | h | h | h | h | h | h
  · exact mods_0 p c l hcl which n hw h hn nm w hLaid hS
  · exact mods_1 p c l hcl which n hw h hn nm w hLaid hS
  · exact mods_2 p c l hcl which n hw h hn nm w hLaid hS
  · exact mods_3 p c l hcl which n hw h hn nm w hLaid hS
  · exact mods_4 p c l hcl which n hw h hn nm w hLaid hS
  · exact mods_5 p c l hcl which n hw h hn nm w hLaid hS
  · exact mods_6 p c l hcl which n hw h hn nm w hLaid hS
  · exact mods_7 p c l hcl which n hw h hn nm w hLaid hS
end Go.Proofs.YtomffpibdinkaaaGreatDoor
