/-
  Each program that goes by its stack is valid; with a value more in the end, or one less, it is not: walked. A contract that the proofs call.
-/
import Derived.Test.YtomffpibdinkaaaGreatDoorValHead
import Derived.Test.YtomffpibdinkaaaGreatDoorVpProg
namespace Go.Proofs.YtomffpibdinkaaaGreatDoor
open Go.RowKit Go.Maps
set_option linter.unusedVariables false
set_option linter.unusedSimpArgs false

theorem cells_one (l : List PI) : ∀ u ∈ codeCells l, u.oneCell' = true := by
  intro u hu
  obtain ⟨x, hx, hu⟩ := List.mem_flatMap.1 hu
  simp [PI.cells] at hu
  rcases hu with rfl | rfl | rfl | rfl <;> rfl
theorem cells_len4 (l : List PI) : (codeCells l).length = l.length * 4 := by
  induction l with
  | nil => rfl
  | cons x l ih =>
    show (PI.cells x ++ codeCells l).length = _
    rw [List.length_append, ih, List.length_cons]
    simp [PI.cells]
    omega
theorem ends_two {w : World} {B : Nat} {v : Value} {n : Nat} {c : List PI} {x y : PI} (h : w.ownsRow B 38 4 v (n + 2) (codeCells c ++ (x.cells ++ y.cells))) : w.ownsRow B 38 4 v (n + 2) (codeCells (c ++ [x, y])) := by
  have e : codeCells (c ++ [x, y]) = codeCells c ++ (x.cells ++ y.cells) := by simp [codeCells]
  rw [e]
  exact h
set_option maxRecDepth 100000 in
set_option maxHeartbeats 8000000 in
theorem validPrograms_walk (p : Option Addr) (c : Nat) (l : List StepV) (w : World) (hLaid : Laid w) (hS : StepsAt w p l) :
    Calls Tryz.prog 3 #[.slice p l.length c] w fun e w' => e = .returned (.bool true) ∧ Below w.heap.size w w' := by
  obtain ⟨i0, hi, hz0, hz1, hz2⟩ := info_parts instr_info
  have hh := examples7 w hLaid
  obtain ⟨n, hn⟩ : ∃ n, l.length = n := ⟨_, rfl⟩
  have cm := fun W (hW : Below w.heap.size w W) => made_fn p c l W (hS.below hW (Nat.le_refl _))
  rw [hn] at cm ⊢
  have hbody := codeF_body l
  obtain ⟨N, hN⟩ : ∃ N, (bodyF l).length = N := ⟨_, rfl⟩
  have hL1 : (codeF l).length = N + 1 := by rw [hbody, List.length_append, hN]; rfl
  have HB := Lib.hid hbody
  have HN := Lib.hid hN
  have HL := Lib.hid hL1
  clear hbody hN hS hn hL1
  go_enter Tryz.func3, Tryz.ntmps3
  go_wp2_with (go_at_call 9; (with_reducible refine hh.mono ?_); rintro e wa ⟨rfl, hba⟩)
  refine (cm wa hba).mono ?_
  rintro e w1 ⟨H, pc, cc, he, hM, hb1⟩
  rw [madeV_val7] at he
  subst he
  have hB1 := hba.trans (hb1.mono hba.size)
  clear cm hh hb1
  have hsz := hM.size
  have hown := hM.owned
  have hlo := hM.ahead
  have hfr := hM.from0
  have hfn := hM.funcs
  rw [HL.out] at hown hfn hlo
  obtain ⟨g, cap, hv, hg0, hg1, hcap, hcells, hfz⟩ := own_block hown
  injection hv with hv1 hv2 hv3
  subst hv1 hv3
  have hgH := hlo g rfl
  clear hlo hown hfr hg0
  obtain ⟨p0, p1, p2⟩ := box_three7 hfn
  have hlkf := in_heap7 hfn
  have hmost := hM.most
  rw [HL.out] at hmost
  have hNw : wrap64 (N : Int) = N := IntWalk.wrap64_in _ (by omega)
  have hNp : (0 : Int) ≤ N := by omega
  have hNn : ¬ (N : Int) < 0 := by omega
  have hpre : ∀ (j : Nat) (u : Value), (codeCells (bodyF l))[j]? = some u → w1.cell? ⟨g, j, none⟩ = some u := fun j u hu => hcells j u (by
    rw [HB.out, codeCells_snoc, List.getElem?_append_left]
    · exact hu
    · by_cases hq : j < (codeCells (bodyF l)).length
      · exact hq
      · rw [List.getElem?_eq_none (by omega)] at hu; cases hu)
  have hnews : ∀ W, Below w1.heap.size w1 W → ∀ (j : Nat) (u : Value), (codeCells (bodyF l))[j]? = some u → W.cell? ((⟨g, 0, none⟩ : Addr).add j) = some u := fun W hW j u hu => by
    have h1 := hpre j u hu
    have e : (⟨g, 0, none⟩ : Addr).add j = ⟨g, j, none⟩ := by simp [Addr.add]; exact fun h => h.symm
    rw [e, World.cell?, hW.block g hg1]
    exact h1
  have hbl : (codeCells (bodyF l)).length = N * 4 := by rw [cells_len4, HN.out]
  have hbo := cells_one (bodyF l)
  clear hcells hfz
  obtain ⟨Y0, hY0⟩ : ∃ Y, Y = ((w1.alloc (.cells #[.slice (some ⟨H, 0, none⟩) 1 1, .slice (some ⟨H + 1, 0, none⟩) 1 1, .slice (some ⟨H + 2, 0, none⟩) 1 1, .slice (some ⟨H + 3, 0, none⟩) 2 2, .slice (some ⟨H + 4, 0, none⟩) 1 1, .int .i64 (-1), .slice (some ⟨H + 5, 0, none⟩) 1 1] 31)).alloc (.cells #[.int .i64 0, .string ⟨#[127, 126]⟩, .slice (some ⟨g, 0, none⟩) (N + 1) cc] 35)).alloc (.cells #[.int .i64 0, .string ⟨#[127, 126]⟩, .slice (some ⟨g, 0, none⟩) (N + 1) cc] 35) := ⟨_, rfl⟩
  have hsY0 : Y0.heap.size = w1.heap.size + 1 + 1 + 1 := by rw [hY0]; simp only [push_size7]
  have hA0 : Y0.heap[w1.heap.size + 1 + 1]? = some (fnBox (.slice (some ⟨g, 0, none⟩) (N + 1) cc)) := by rw [hY0]; unfold fnBox; simp only [push7, push_size7]; rw [if_pos trivial]
  have hf0 : ∀ x ∈ ([] : List Row7), x.blk ≠ w1.heap.size + 1 + 1 ∧ x.v.ownBlock ≠ some (w1.heap.size + 1 + 1) := fun x hx => by cases hx
  have hBox0 : Boxes w1 (.cells #[.slice (some ⟨H, 0, none⟩) 1 1, .slice (some ⟨H + 1, 0, none⟩) 1 1, .slice (some ⟨H + 2, 0, none⟩) 1 1, .slice (some ⟨H + 3, 0, none⟩) 2 2, .slice (some ⟨H + 4, 0, none⟩) 1 1, .int .i64 (-1), .slice (some ⟨H + 5, 0, none⟩) 1 1] 31) (.cells #[.int .i64 0, .string ⟨#[127, 126]⟩, .slice (some ⟨g, 0, none⟩) (N + 1) cc] 35) Y0 [] := ⟨by rw [hY0]; exact (((Below.refl _ _).alloc (Nat.le_refl _) _).alloc (by simp only [push_size7]; omega) _).alloc (by simp only [push_size7]; omega) _, by omega, by rw [hY0]; simp only [push7, push_size7]; rw [if_neg (by omega), if_neg (by omega), if_pos trivial], by rw [hY0]; simp only [push7, push_size7]; rw [if_neg (by omega), if_pos trivial], (fun r hr => by cases hr), (fun r hr => by cases hr), (fun r hr => by cases hr)⟩
  go_wp2_with (at_builtin; refine wpList_append_own_at _ rfl (.const (.slice none 0 0)) (.tmp 29) 33 rfl Y0.heap.size 38 i0 (.agg #[.int .i64 0, .int .i64 0, .int .i64 0, .slice none 0 0]) 4 48 Tryz.underlying33 hi hz0 hz1 hz2 rfl (by decide) (.slice none 0 0) 0 [] rfl (World.ownsRow_nil _ _ _ _) ⟨g, 0, none⟩ N cc (codeCells (bodyF l)) rfl hbl (hnews _ (by have := hBox0.below; rw [hY0] at this; exact this)) hbo (by unfold maxLen; omega) (by omega) (Nat.le_of_eq (by rw [hY0])) ?_)
  intro v1 x1 hox10 hgx10 _ _
  have hgx1 : Y0.grownBy x1 none := by rw [hY0]; exact hgx10
  have hox1 : x1.ownsRow Y0.heap.size 38 4 v1 N (codeCells (bodyF l)) := by first | exact hox10 | (rw [hsY0]; exact hox10)
  clear hY0 hgx10 hox10
  have hsx1 := hgx1.size
  have bxx1 := hBox0.grown hgx1 Free7.none
  have kx1 : x1.heap[w1.heap.size + 1 + 1]? = some (fnBox (.slice (some ⟨g, 0, none⟩) (N + 1) cc)) := by rw [hgx1.block _ (lt7 hA0) (by simp)]; exact hA0
  have frx1 := free_own hBox0 _ (Nat.le_refl _) hox1
  have hAx1 : w1.heap.size + 1 + 1 < Y0.heap.size := lt7 hA0
  clear hgx1
  go_wp2_with (at_builtin; refine wpList_append_own_at _ rfl (.tmp 30) (.tmp 33) 33 rfl Y0.heap.size 38 i0 (.agg #[.int .i64 0, .int .i64 0, .int .i64 0, .slice none 0 0]) 4 48 Tryz.underlying33 hi hz0 hz1 hz2 rfl (by decide) _ N _ rfl (hox1.alloc _) ⟨x1.heap.size, 0, none⟩ 2 2 (PI.cells ⟨65, 0, 0⟩ ++ PI.cells ⟨11, 0, 0⟩) rfl rfl (cells_new x1 (PI.cells ⟨65, 0, 0⟩ ++ PI.cells ⟨11, 0, 0⟩) 38) (by intro q hq; simp [PI.cells] at hq; rcases hq with rfl | rfl | rfl | rfl | rfl | rfl | rfl | rfl <;> rfl) (by unfold maxLen; omega) (by omega) (by simp only [push_size7]; omega) ?_)
  intro v2 x2 hox2 hgx2 _ _
  have bxx2 := (bxx1.alloc _).grown hgx2 ⟨frx1.high, frx1.not0⟩
  have hzx2 := bxx2.size
  have lox1 := fun q hq => (hox1.lt q hq).1
  have kx2 : x2.heap[w1.heap.size + 1 + 1]? = some (fnBox (.slice (some ⟨g, 0, none⟩) (N + 1) cc)) := by
    rw [hgx2.block _ (by simp only [push_size7]; omega) (fun e => by have := lox1 _ e.symm; omega)]
    simp only [push7]; rw [if_neg (by omega)]; exact kx1
  have hwx2 : x2.ownsRow Y0.heap.size 38 4 v2 (N + 2) (codeCells (bodyF l ++ moreE)) := by rw [codeCells_app]; first | exact hox2 | (rw [hsY0]; exact hox2)
  obtain ⟨vpx2, vcx2, rfl⟩ := own_any hwx2
  have bsx2 := bxx2.store (u := (.slice (some ⟨g, 0, none⟩) (N + 1) cc)) (C := w1.heap.size + 1 + 1) ⟨w1.heap.size + 1 + 1, vpx2, N + 2, vcx2, Y0.heap.size, bodyF l ++ moreE⟩ rfl kx2 (by omega) hf0 hwx2 hAx1
  clear hgx2 hox1 hox2 frx1 lox1 bxx1
  obtain ⟨Z1, hZ1⟩ : ∃ Z, Z = x2.setCell ⟨w1.heap.size + 1 + 1, 2, none⟩ (.slice vpx2 (N + 2) vcx2) := ⟨_, rfl⟩
  have hsZ1 : Z1.heap.size = x2.heap.size := by rw [hZ1]; simp [World.setCell]
  have bz1 := bsx2
  simp only [Row7.v] at bz1
  rw [← hZ1] at bz1
  obtain ⟨Y1, hY1⟩ : ∃ Y, Y = Z1.alloc (.cells #[.int .i64 0, .string ⟨#[127, 126]⟩, .slice (some ⟨g, 0, none⟩) (N + 1) cc] 35) := ⟨_, rfl⟩
  have hsY1 : Y1.heap.size = x2.heap.size + 1 := by rw [hY1, push_size7, hsZ1]
  have hA1 : Y1.heap[x2.heap.size]? = some (fnBox (.slice (some ⟨g, 0, none⟩) (N + 1) cc)) := by rw [hY1, ← hsZ1]; unfold fnBox; exact heap_alloc_new _ _
  have hf1 := new_free bz1
  rw [hsZ1] at hf1
  have hBox1 := bz1.alloc (.cells #[.int .i64 0, .string ⟨#[127, 126]⟩, .slice (some ⟨g, 0, none⟩) (N + 1) cc] 35)
  rw [← hY1] at hBox1
  rw [hZ1] at hY1
  obtain ⟨c0, c1, c2⟩ := box_three7 bxx2.f
  obtain ⟨d0, d1, d2⟩ := box_three7 (show x2.heap[w1.heap.size + 1 + 1]? = some (.cells #[.int .i64 0, .string ⟨#[127, 126]⟩, .slice (some ⟨g, 0, none⟩) (N + 1) cc] 35) from kx2)
  have hl1 := in_heap7 bxx2.f
  have hl2 := in_heap7 kx2
  have kk1 : x2.heap[w1.heap.size + 1 + 1]? = some (.cells #[.int .i64 0, .string ⟨#[127, 126]⟩, .slice (some ⟨g, 0, none⟩) (N + 1) cc] 35) := kx2
  have fz1 : x2.frozen? ⟨w1.heap.size + 1 + 1, 2, none⟩ = false := by unfold World.frozen?; simp only [kk1]; rfl
  go_wp2_with (at_builtin; refine wpList_append_own_at _ rfl (.const (.slice none 0 0)) (.tmp 40) 33 rfl Y1.heap.size 38 i0 (.agg #[.int .i64 0, .int .i64 0, .int .i64 0, .slice none 0 0]) 4 48 Tryz.underlying33 hi hz0 hz1 hz2 rfl (by decide) (.slice none 0 0) 0 [] rfl (World.ownsRow_nil _ _ _ _) ⟨g, 0, none⟩ N cc (codeCells (bodyF l)) rfl hbl (hnews _ (by have := hBox1.below; rw [hY1] at this; exact this)) hbo (by unfold maxLen; omega) (by omega) (Nat.le_of_eq (by rw [hY1])) ?_)
  intro v3 x3 hox30 hgx30 _ _
  have hgx3 : Y1.grownBy x3 none := by rw [hY1]; exact hgx30
  have hox3 : x3.ownsRow Y1.heap.size 38 4 v3 N (codeCells (bodyF l)) := by first | exact hox30 | (rw [hsY1]; exact hox30)
  clear hY1 hgx30 hox30
  have hsx3 := hgx3.size
  have bxx3 := hBox1.grown hgx3 Free7.none
  have kx3 : x3.heap[x2.heap.size]? = some (fnBox (.slice (some ⟨g, 0, none⟩) (N + 1) cc)) := by rw [hgx3.block _ (lt7 hA1) (by simp)]; exact hA1
  have frx3 := free_own hBox1 _ (Nat.le_refl _) hox3
  have hAx3 : x2.heap.size < Y1.heap.size := lt7 hA1
  clear hgx3
  go_wp2_with (at_builtin; refine wpList_append_own_at _ rfl (.tmp 41) (.tmp 44) 33 rfl Y1.heap.size 38 i0 (.agg #[.int .i64 0, .int .i64 0, .int .i64 0, .slice none 0 0]) 4 48 Tryz.underlying33 hi hz0 hz1 hz2 rfl (by decide) _ N _ rfl (hox3.alloc _) ⟨x3.heap.size, 0, none⟩ 2 2 (PI.cells ⟨26, 0, 0⟩ ++ PI.cells ⟨11, 0, 0⟩) rfl rfl (cells_new x3 (PI.cells ⟨26, 0, 0⟩ ++ PI.cells ⟨11, 0, 0⟩) 38) (by intro q hq; simp [PI.cells] at hq; rcases hq with rfl | rfl | rfl | rfl | rfl | rfl | rfl | rfl <;> rfl) (by unfold maxLen; omega) (by omega) (by simp only [push_size7]; omega) ?_)
  intro v4 x4 hox4 hgx4 _ _
  have bxx4 := (bxx3.alloc _).grown hgx4 ⟨frx3.high, frx3.not0⟩
  have hzx4 := bxx4.size
  have lox3 := fun q hq => (hox3.lt q hq).1
  have kx4 : x4.heap[x2.heap.size]? = some (fnBox (.slice (some ⟨g, 0, none⟩) (N + 1) cc)) := by
    rw [hgx4.block _ (by simp only [push_size7]; omega) (fun e => by have := lox3 _ e.symm; omega)]
    simp only [push7]; rw [if_neg (by omega)]; exact kx3
  have hwx4 : x4.ownsRow Y1.heap.size 38 4 v4 (N + 2) (codeCells (bodyF l ++ lessE)) := by rw [codeCells_app]; first | exact hox4 | (rw [hsY1]; exact hox4)
  obtain ⟨vpx4, vcx4, rfl⟩ := own_any hwx4
  have bsx4 := bxx4.store (u := (.slice (some ⟨g, 0, none⟩) (N + 1) cc)) (C := x2.heap.size) ⟨x2.heap.size, vpx4, N + 2, vcx4, Y1.heap.size, bodyF l ++ lessE⟩ rfl kx4 (by omega) hf1 hwx4 hAx3
  clear hgx4 hox3 hox4 frx3 lox3 bxx3
  obtain ⟨Z2, hZ2⟩ : ∃ Z, Z = x4.setCell ⟨x2.heap.size, 2, none⟩ (.slice vpx4 (N + 2) vcx4) := ⟨_, rfl⟩
  have hsZ2 : Z2.heap.size = x4.heap.size := by rw [hZ2]; simp [World.setCell]
  have bz2 := bsx4
  simp only [Row7.v] at bz2
  rw [← hZ2] at bz2
  obtain ⟨Y2, hY2⟩ : ∃ Y, Y = Z2.alloc (.cells #[.int .i64 0, .string ⟨#[127, 126]⟩, .slice (some ⟨g, 0, none⟩) (N + 1) cc] 35) := ⟨_, rfl⟩
  have hsY2 : Y2.heap.size = x4.heap.size + 1 := by rw [hY2, push_size7, hsZ2]
  have hA2 : Y2.heap[x4.heap.size]? = some (fnBox (.slice (some ⟨g, 0, none⟩) (N + 1) cc)) := by rw [hY2, ← hsZ2]; unfold fnBox; exact heap_alloc_new _ _
  have hf2 := new_free bz2
  rw [hsZ2] at hf2
  have hBox2 := bz2.alloc (.cells #[.int .i64 0, .string ⟨#[127, 126]⟩, .slice (some ⟨g, 0, none⟩) (N + 1) cc] 35)
  rw [← hY2] at hBox2
  rw [hZ2] at hY2
  obtain ⟨c0, c1, c2⟩ := box_three7 bxx4.f
  obtain ⟨d0, d1, d2⟩ := box_three7 (show x4.heap[x2.heap.size]? = some (.cells #[.int .i64 0, .string ⟨#[127, 126]⟩, .slice (some ⟨g, 0, none⟩) (N + 1) cc] 35) from kx4)
  have hl1 := in_heap7 bxx4.f
  have hl2 := in_heap7 kx4
  have kk2 : x4.heap[x2.heap.size]? = some (.cells #[.int .i64 0, .string ⟨#[127, 126]⟩, .slice (some ⟨g, 0, none⟩) (N + 1) cc] 35) := kx4
  have fz2 : x4.frozen? ⟨x2.heap.size, 2, none⟩ = false := by unfold World.frozen?; simp only [kk2]; rfl
  go_wp2_with (at_builtin; refine wpList_append_own_at _ rfl (.const (.slice none 0 0)) (.tmp 51) 33 rfl Y2.heap.size 38 i0 (.agg #[.int .i64 0, .int .i64 0, .int .i64 0, .slice none 0 0]) 4 48 Tryz.underlying33 hi hz0 hz1 hz2 rfl (by decide) (.slice none 0 0) 0 [] rfl (World.ownsRow_nil _ _ _ _) ⟨g, 0, none⟩ N cc (codeCells (bodyF l)) rfl hbl (hnews _ (by have := hBox2.below; rw [hY2] at this; exact this)) hbo (by unfold maxLen; omega) (by omega) (Nat.le_of_eq (by rw [hY2])) ?_)
  intro v5 x5 hox50 hgx50 _ _
  have hgx5 : Y2.grownBy x5 none := by rw [hY2]; exact hgx50
  have hox5 : x5.ownsRow Y2.heap.size 38 4 v5 N (codeCells (bodyF l)) := by first | exact hox50 | (rw [hsY2]; exact hox50)
  clear hY2 hgx50 hox50
  have hsx5 := hgx5.size
  have bxx5 := hBox2.grown hgx5 Free7.none
  have kx5 : x5.heap[x4.heap.size]? = some (fnBox (.slice (some ⟨g, 0, none⟩) (N + 1) cc)) := by rw [hgx5.block _ (lt7 hA2) (by simp)]; exact hA2
  have frx5 := free_own hBox2 _ (Nat.le_refl _) hox5
  have hAx5 : x4.heap.size < Y2.heap.size := lt7 hA2
  clear hgx5
  go_wp2_with (at_builtin; refine wpList_append_own_at _ rfl (.tmp 52) (.tmp 58) 33 rfl Y2.heap.size 38 i0 (.agg #[.int .i64 0, .int .i64 0, .int .i64 0, .slice none 0 0]) 4 48 Tryz.underlying33 hi hz0 hz1 hz2 rfl (by decide) _ N _ rfl (hox5.alloc _) ⟨x5.heap.size, 0, none⟩ 5 5 (PI.cells ⟨15, 0, 0⟩ ++ PI.cells ⟨26, 0, 0⟩ ++ PI.cells ⟨106, 0, 0⟩ ++ PI.cells ⟨26, 0, 0⟩ ++ PI.cells ⟨11, 0, 0⟩) rfl rfl (cells_new x5 (PI.cells ⟨15, 0, 0⟩ ++ PI.cells ⟨26, 0, 0⟩ ++ PI.cells ⟨106, 0, 0⟩ ++ PI.cells ⟨26, 0, 0⟩ ++ PI.cells ⟨11, 0, 0⟩) 38) (by intro q hq; simp [PI.cells] at hq; rcases hq with rfl | rfl | rfl | rfl | rfl | rfl | rfl | rfl | rfl | rfl | rfl | rfl | rfl | rfl | rfl | rfl | rfl | rfl | rfl | rfl <;> rfl) (by unfold maxLen; omega) (by omega) (by simp only [push_size7]; omega) ?_)
  intro v6 x6 hox6 hgx6 _ _
  have bxx6 := (bxx5.alloc _).grown hgx6 ⟨frx5.high, frx5.not0⟩
  have hzx6 := bxx6.size
  have lox5 := fun q hq => (hox5.lt q hq).1
  have kx6 : x6.heap[x4.heap.size]? = some (fnBox (.slice (some ⟨g, 0, none⟩) (N + 1) cc)) := by
    rw [hgx6.block _ (by simp only [push_size7]; omega) (fun e => by have := lox5 _ e.symm; omega)]
    simp only [push7]; rw [if_neg (by omega)]; exact kx5
  have hwx6 : x6.ownsRow Y2.heap.size 38 4 v6 (N + 5) (codeCells (bodyF l ++ deadE)) := by rw [codeCells_app]; first | exact hox6 | (rw [hsY2]; exact hox6)
  obtain ⟨vpx6, vcx6, rfl⟩ := own_any hwx6
  have bsx6 := bxx6.store (u := (.slice (some ⟨g, 0, none⟩) (N + 1) cc)) (C := x4.heap.size) ⟨x4.heap.size, vpx6, N + 5, vcx6, Y2.heap.size, bodyF l ++ deadE⟩ rfl kx6 (by omega) hf2 hwx6 hAx5
  clear hgx6 hox5 hox6 frx5 lox5 bxx5
  obtain ⟨Z3, hZ3⟩ : ∃ Z, Z = x6.setCell ⟨x4.heap.size, 2, none⟩ (.slice vpx6 (N + 5) vcx6) := ⟨_, rfl⟩
  have hsZ3 : Z3.heap.size = x6.heap.size := by rw [hZ3]; simp [World.setCell]
  have bz3 := bsx6
  simp only [Row7.v] at bz3
  rw [← hZ3] at bz3
  obtain ⟨c0, c1, c2⟩ := box_three7 bxx6.f
  obtain ⟨d0, d1, d2⟩ := box_three7 (show x6.heap[x4.heap.size]? = some (.cells #[.int .i64 0, .string ⟨#[127, 126]⟩, .slice (some ⟨g, 0, none⟩) (N + 1) cc] 35) from kx6)
  have hl1 := in_heap7 bxx6.f
  have hl2 := in_heap7 kx6
  have kk3 : x6.heap[x4.heap.size]? = some (.cells #[.int .i64 0, .string ⟨#[127, 126]⟩, .slice (some ⟨g, 0, none⟩) (N + 1) cc] 35) := kx6
  have fz3 : x6.frozen? ⟨x4.heap.size, 2, none⟩ = false := by unfold World.frozen?; simp only [kk3]; rfl
  have hrt : ∀ e : List PI, (∀ x ∈ e, rightPI x = true) → ∀ x ∈ bodyF l ++ e, rightPI x = true := fun e he x hx => by
    rcases List.mem_append.1 hx with h | h
    · exact hM.right x (by rw [HB.out]; exact List.mem_append_left _ h)
    · exact he x h
  obtain ⟨am, af, a1, a2, a3⟩ := prog_ans hM.right hM.runs0 H (some ⟨g, 0, none⟩) cc
  have ln1 : (bodyF l ++ moreE).length = N + 2 := by rw [List.length_append, HN.out]; rfl
  have ln2 : (bodyF l ++ lessE).length = N + 2 := by rw [List.length_append, HN.out]; rfl
  have ln3 : (bodyF l ++ deadE).length = N + 5 := by rw [List.length_append, HN.out]; rfl
  have o1 := bz3.own ⟨w1.heap.size + 1 + 1, vpx2, N + 2, vcx2, Y0.heap.size, bodyF l ++ moreE⟩ (by simp)
  have o2 := bz3.own ⟨x2.heap.size, vpx4, N + 2, vcx4, Y1.heap.size, bodyF l ++ lessE⟩ (by simp)
  have o3 := bz3.own ⟨x4.heap.size, vpx6, N + 5, vcx6, Y2.heap.size, bodyF l ++ deadE⟩ (by simp)
  have e1 := bz3.at0 ⟨w1.heap.size + 1 + 1, vpx2, N + 2, vcx2, Y0.heap.size, bodyF l ++ moreE⟩ (by simp)
  have e2 := bz3.at0 ⟨x2.heap.size, vpx4, N + 2, vcx4, Y1.heap.size, bodyF l ++ lessE⟩ (by simp)
  have e3 := bz3.at0 ⟨x4.heap.size, vpx6, N + 5, vcx6, Y2.heap.size, bodyF l ++ deadE⟩ (by simp)
  have n1 := code_row o1 ln1 (hrt _ right_more) (by show N + 2 ≤ _; omega)
  have n2 := code_row o2 ln2 (hrt _ right_less) (by show N + 2 ≤ _; omega)
  have n3 := code_row o3 ln3 (hrt _ right_dead) (by show N + 5 ≤ _; omega)
  have eM := bz3.m
  have eF := bz3.f
  have hb3 := bz3.below
  have hB3 := hB1.trans (hb3.mono hB1.size)
  have hM3 := (hM.below hb3).modAt (st := -1) ⟨by decide, by decide⟩ ⟨by decide, by decide⟩ ⟨by decide, by decide⟩ ⟨by decide, by decide⟩ ⟨by decide, by decide⟩
  have hf3 := hM3.funcsIn (madeF (some ⟨g, 0, none⟩) cc (codeF l)) (List.mem_singleton.2 rfl)
  have lF : (codeF l).length = N + 1 := HL.out
  have cm := fun W (hW : Below Z3.heap.size Z3 W) => v_module W (hLaid.below (hB3.trans (hW.mono hB3.size))) _ (hM3.below hW (Nat.le_refl _)) (fun f hf => by cases List.mem_singleton.1 hf; show ((codeF l).map insOf).length ≤ _; rw [List.length_map, lF]; omega)
  have cf := fun (f : FnV) (hf : FnAt Z3 f) (hl : f.code.length ≤ 400000) W (hW : Below Z3.heap.size Z3 W) => v_func W (hLaid.below (hB3.trans (hW.mono hB3.size))) _ (hM3.below hW (Nat.le_refl _)) f (hf.below hW (Nat.le_refl _)) hl
  have cf0 := cf _ hf3 (by show ((codeF l).map insOf).length ≤ _; rw [List.length_map, lF]; omega)
  have cf1 := cf _ n1 (by show ((bodyF l ++ moreE).map insOf).length ≤ _; rw [List.length_map, ln1]; omega)
  have cf2 := cf _ n2 (by show ((bodyF l ++ lessE).map insOf).length ≤ _; rw [List.length_map, ln2]; omega)
  have cf3 := cf _ n3 (by show ((bodyF l ++ deadE).map insOf).length ≤ _; rw [List.length_map, ln3]; omega)
  simp only [am, madeV_val7] at cm
  simp only [af, madeV_val7, made_fval _ _ _ _ lF] at cf0
  simp only [a1, madeV_val7, made_fval _ _ _ _ ln1] at cf1
  simp only [a2, madeV_val7, made_fval _ _ _ _ ln2] at cf2
  simp only [a3, madeV_val7, made_fval _ _ _ _ ln3] at cf3
  simp only [Row7.v, fnBox] at e1 e2 e3
  obtain ⟨q0, q1, q2, q3, q4, q5, q6⟩ := box_seven7 bxx6.m
  have hlm := in_heap7 bxx6.m
  clear cf n1 n2 n3 o1 o2 o3 hf3 hM3 hrt am af a1 a2 a3 bz3 bsx6
  go_wp2_with fail
  rw [← hZ3]
  clear hZ3
  refine (cm _ (Below.refl _ _)).mono ?_
  rintro e w4 ⟨rfl, hb4⟩
  clear cm q0 q1 q2 q3 q4 q5 q6 c0 c1 c2 d0 d1 d2 hl1 hl2 kk3 fz3 hlm
  obtain ⟨q0, q1, q2, q3, q4, q5, q6⟩ := box_seven7 ((hb4.block _ (in_heap7 eM)).trans eM)
  obtain ⟨c0, c1, c2⟩ := box_three7 ((hb4.block _ (in_heap7 eF)).trans eF)
  have hl1 := Nat.lt_of_lt_of_le (in_heap7 eM) hb4.size
  have hl2 := Nat.lt_of_lt_of_le (in_heap7 eF) hb4.size
  go_wp2_with fail
  refine (cf0 _ hb4).mono ?_
  rintro e w5 ⟨rfl, hb5⟩
  have hc5 := hb4.trans (hb5.mono hb4.size)
  clear cf0 q0 q1 q2 q3 q4 q5 q6 c0 c1 c2 hl1 hl2
  obtain ⟨q0, q1, q2, q3, q4, q5, q6⟩ := box_seven7 ((hc5.block _ (in_heap7 eM)).trans eM)
  obtain ⟨c0, c1, c2⟩ := box_three7 ((hc5.block _ (in_heap7 e1)).trans e1)
  have hl1 := Nat.lt_of_lt_of_le (in_heap7 eM) hc5.size
  have hl2 := Nat.lt_of_lt_of_le (in_heap7 e1) hc5.size
  go_wp2_with fail
  refine (cf1 _ hc5).mono ?_
  rintro e w6 ⟨rfl, hb6⟩
  have hc6 := hc5.trans (hb6.mono hc5.size)
  clear cf1 q0 q1 q2 q3 q4 q5 q6 c0 c1 c2 hl1 hl2
  obtain ⟨q0, q1, q2, q3, q4, q5, q6⟩ := box_seven7 ((hc6.block _ (in_heap7 eM)).trans eM)
  obtain ⟨c0, c1, c2⟩ := box_three7 ((hc6.block _ (in_heap7 e2)).trans e2)
  have hl1 := Nat.lt_of_lt_of_le (in_heap7 eM) hc6.size
  have hl2 := Nat.lt_of_lt_of_le (in_heap7 e2) hc6.size
  go_wp2_with fail
  refine (cf2 _ hc6).mono ?_
  rintro e w7 ⟨rfl, hb7⟩
  have hc7 := hc6.trans (hb7.mono hc6.size)
  clear cf2 q0 q1 q2 q3 q4 q5 q6 c0 c1 c2 hl1 hl2
  obtain ⟨q0, q1, q2, q3, q4, q5, q6⟩ := box_seven7 ((hc7.block _ (in_heap7 eM)).trans eM)
  obtain ⟨c0, c1, c2⟩ := box_three7 ((hc7.block _ (in_heap7 e3)).trans e3)
  have hl1 := Nat.lt_of_lt_of_le (in_heap7 eM) hc7.size
  have hl2 := Nat.lt_of_lt_of_le (in_heap7 e3) hc7.size
  go_wp2_with fail
  refine (cf3 _ hc7).mono ?_
  rintro e w8 ⟨rfl, hb8⟩
  have hc8 := hc7.trans (hb8.mono hc7.size)
  clear cf3 q0 q1 q2 q3 q4 q5 q6 c0 c1 c2 hl1 hl2
  go_wp2
  go_ret
  exact ⟨rfl, hB3.trans (hc8.mono hB3.size)⟩
end Go.Proofs.YtomffpibdinkaaaGreatDoor
