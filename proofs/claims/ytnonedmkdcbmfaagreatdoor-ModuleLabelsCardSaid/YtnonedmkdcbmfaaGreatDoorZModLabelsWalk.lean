/-
  The statement on labels, walked. Only its frame proves it.
-/
import Derived.Test.YtnonedmkdcbmfaaGreatDoorZModOpen
import Derived.Test.YtnonedmkdcbmfaaGreatDoorZModLabelsA
namespace Go.Proofs.YtnonedmkdcbmfaaGreatDoor
open Go.RowKit
set_option linter.unusedVariables false
set_option maxRecDepth 100000 in
set_option maxHeartbeats 8000000 in
theorem moduleLabels_walk (p : Option Addr) (c : Nat) (l : List Int) (w : World) (hLaid : Laid w) (hS : WordsAt w p l) :
    Calls Tryz.prog 6 #[.slice p l.length c] w fun e w' => e = .returned (.bool true) ∧ Below w.heap.size w w' := by
  have cH := head_mod w hLaid
  have hl := hS.most
  unfold mostThings at hl
  have hrows := hS.rows
  have hin := hS.within
  obtain ⟨n, hn⟩ : ∃ n, l.length = n := ⟨_, rfl⟩
  rw [hn] at hl ⊢
  have HN := Lib.hid hn
  clear hS hn
  obtain ⟨i0, hi, hz0, hz1, hz2⟩ := info_parts zero_Int
  go_enter Tryz.func6, Tryz.ntmps6
  go_wp2_with (go_at_call 10; refine cH.mono ?_; rintro e w1 ⟨rfl, hB1⟩)
  clear cH
  go_loopw [5] (fun i wr => ∃ (k : Nat) (v : Value) (ls : List Int), k ≤ n ∧ k ≤ 50 ∧ i = .int .i64 k ∧ Box4 w1 v ls wr ∧ ls.length = k ∧ (∀ x ∈ ls, 0 ≤ x ∧ x < 65536)) (fun i _ => n - (intOf i).toNat)
  case atStart => exact ⟨0, .slice none 0 0, [], by omega, by omega, rfl, Box4.start _, rfl, fun x hx => by cases hx⟩
  case round =>
    obtain ⟨k, v, ls, hk, hk50, rfl, hX, hlen, hls⟩ := hrel
    have HL := Lib.hid hlen
    clear hlen
    obtain ⟨⟨x0, x1, x2, x3⟩, f3⟩ := hX.cells
    by_cases hlt : k < n ∧ k < 50
    · obtain ⟨hlt, h50⟩ := hlt
      have hle : k < l.length := by have := HN.out; omega
      have hr := hrows.below (belt hB1 (Nat.le_refl _) hX.low) (Nat.le_refl _)
      obtain ⟨rb, ro, hp1, hb1, e0⟩ := hr k hle 0 _ rfl
      subst hp1
      have hx := hin _ (List.getElem_mem hle)
      generalize l[k] = x at *
      simp only [Nat.add_zero, Nat.mul_one] at e0
      clear hr hrows hin HN
      go_wp2
      have hwx : IntKind.i64.wrap x = x := by rw [IntKind.wrap_i64]; omega
      have q3 := fun o => (World.cell?_alloc_lt wr o (⟨w1.heap.size, 3, none⟩ : Addr) hX.size).trans x3
      have q4 := fun o => (World.cell?_alloc_lt wr o (⟨rb, ro + k, none⟩ : Addr) hb1).trans e0
      have hXa := (hX.alloc (.cells #[.int .i64 x] 3)).drew
      go_region_law (refine step_own rfl (.tmp 23) (.tmp 29) 38 rfl (w1.heap.size + 1) 3 i0 (.int .i64 0) 1 8 Tryz.underlying38 hi hz0 hz1 hz2 rfl (by decide) v ls.length _ rfl hXa.labels ⟨wr.heap.size, 0, none⟩ 1 1 [.int .i64 x] rfl rfl (cells_new wr [.int .i64 x] 3) (by intro u hu; simp at hu; subst hu; rfl) (by have := HL.out; unfold maxLen; omega) (by have := HL.out; omega) (by show _ ≤ (wr.alloc _).heap.size; have := hX.size; simp; omega) ?_; intro v' w2 hown' hgrow _ _; obtain ⟨d3, d4⟩ := hXa.kept hgrow; obtain ⟨vp, vc, rfl⟩ := own_any hown')
      all_goals
        have hX2 := hXa.more hgrow hown'
        have hle2 : ls.length ≤ k := Nat.le_of_eq HL.out
        go_wp2
        go_roundw
        case rel => exact ⟨k + 1, _, ls ++ [x], by omega, by omega, by simp, by first | exact hX2 | simpa using hX2, by rw [List.length_append, HL.out]; rfl, fun y hy => by rcases List.mem_append.1 hy with h | h; exact hls y h; rw [List.mem_singleton.1 h]; exact hx⟩
        case measure => simp [intOf]; omega
    · have hs6 : ∀ y ∈ ls, 0 ≤ y ∧ y ≤ 65536 := fun y hy => by have := hls y hy; omega
      have hm5 : ls.length ≤ 50 := by have := HL.out; omega
      have hc : ¬ (k : Int) < n ∨ ((k : Int) < n ∧ ¬ (k : Int) < 50) := by omega
      have HX := Lib.hid hX
      have HS := Lib.hid hls
      clear hlt hl hrows hin HN hls hX x0 x1 x2 f3
      cases ls with
      | nil =>
        obtain ⟨lp, lc, rfl⟩ := own_any HX.out.labels
        obtain ⟨⟨x0, x1, x2, x3⟩, f3⟩ := HX.out.cells
        have hLab := LabAt.start HX.out hm5 hs6
        have cC := mod_copy (labV wr.heap.size lp lc []) (labF wr.heap.size lp lc []) _ hLab.okMod
        rw [labV_val] at cC
        simp only [List.length_nil] at *
        rcases hc with h1 | ⟨h1, h2⟩
        all_goals
          go_wp2_with (first
            | (go_at_call 22; (with_reducible refine cC.mono ?_); rintro e w4 ⟨mc, fc, b1, b2, bc, b3, b4, b5, b6, he, hlb, hO, hLk, hb4⟩; obtain ⟨gf, gk, hv, hC0⟩ := LabC.start hLab (by simp) hlb hO hLk hb4; rw [hv] at he; subst he; clear x0 x1 x2 x3 f3; have hC5 := hC0 #[.slice mc.tp 0 mc.tc, .slice (some ⟨gf, 0, none⟩) 1 mc.fc, .slice mc.mp 0 mc.mc, .slice mc.gp 0 mc.gc, .slice mc.ep 0 mc.ec, .int .i64 (-1), .slice mc.dp 0 mc.dc]; obtain ⟨x3, ⟨m0, m1, m2, m3, m4, m5, m6⟩, ⟨z0, z1, z2, z3, z4, z5, z6⟩, g1⟩ := hC5.cells; try simp only [List.length_nil] at x3; have cS1 := mod_same _ mc _ hC5.lab.modAt hC5.at; rw [labV_val, hv, hLk.same rfl hO.one] at cS1; clear hC0 hLab cC)
            | (go_at_call 19; (with_reducible refine cS1.mono ?_); rintro e w6 ⟨rfl, hb6⟩; have hC6 := hC5.below hb6; clear x3 m0 m1 m2 m3 m4 m5 m6 z0 z1 z2 z3 z4 z5 z6 g1 cS1; obtain ⟨x3, ⟨m0, m1, m2, m3, m4, m5, m6⟩, ⟨z0, z1, z2, z3, z4, z5, z6⟩, g1⟩ := hC6.cells; try simp only [List.length_nil] at x3))
          have cS2 := fun W (hW : Below w6.heap.size w6 W) => mod_same _ mc W (hC6.below hW).lab.modAt (hC6.below hW).at
          rw [labV_val, hv, hLk.same rfl hO.one] at cS2
          have hd := (Below.refl w6.heap.size w6).drew
          go_region_held3 (fun W => W.cell? ⟨w1.heap.size, 3, none⟩ = some (.slice lp 0 lc) ∧ (W.cell? ⟨wr.heap.size + 1 + 1, 0, none⟩ = some (.slice none 0 0) ∧ W.cell? ⟨wr.heap.size + 1 + 1, 1, none⟩ = some (.slice (some ⟨wr.heap.size + 1, 0, none⟩) 1 1) ∧ W.cell? ⟨wr.heap.size + 1 + 1, 2, none⟩ = some (.slice none 0 0) ∧ W.cell? ⟨wr.heap.size + 1 + 1, 3, none⟩ = some (.slice none 0 0) ∧ W.cell? ⟨wr.heap.size + 1 + 1, 4, none⟩ = some (.slice none 0 0) ∧ W.cell? ⟨wr.heap.size + 1 + 1, 5, none⟩ = some (.int .i64 (-1)) ∧ W.cell? ⟨wr.heap.size + 1 + 1, 6, none⟩ = some (.slice none 0 0)) ∧ (W.cell? ⟨w4.heap.size, 0, none⟩ = some (.slice mc.tp 0 mc.tc) ∧ W.cell? ⟨w4.heap.size, 1, none⟩ = some (.slice (some ⟨gf, 0, none⟩) 1 mc.fc) ∧ W.cell? ⟨w4.heap.size, 2, none⟩ = some (.slice mc.mp 0 mc.mc) ∧ W.cell? ⟨w4.heap.size, 3, none⟩ = some (.slice mc.gp 0 mc.gc) ∧ W.cell? ⟨w4.heap.size, 4, none⟩ = some (.slice mc.ep 0 mc.ec) ∧ W.cell? ⟨w4.heap.size, 5, none⟩ = some (.int .i64 (-1)) ∧ W.cell? ⟨w4.heap.size, 6, none⟩ = some (.slice mc.dp 0 mc.dc)))
            (first | (with_reducible exact keep_15 hb7 (by assumption)) | go_keep)
            (first | (go_at_call 19; (with_reducible refine (cS2 _ hd).mono ?_); rintro e w7 ⟨rfl, hb7⟩))
          all_goals
            go_wp2
            go_ret
            exact ⟨rfl, belt (belt (belt hB1 (Nat.le_refl _) hC6.lab.low) (Nat.le_refl _) hd) (Nat.le_refl _) hb7⟩
      | cons y rest =>
        obtain ⟨lp, lc, rfl⟩ := own_any HX.out.labels
        obtain ⟨lg, rfl, _⟩ := own_nil HX.out.labels (by simp)
        have hy := HS.out y (by simp)
        have hpos : (0 : Int) < (rest.length : Int) + 1 := by omega
        have hq : ((rest.length : Int) + 1 == 0) = false := beq_eq_false_iff_ne.2 (by omega)
        obtain ⟨⟨x0, x1, x2, x3⟩, f3⟩ := HX.out.cells
        have hLab := LabAt.start HX.out hm5 hs6
        have cC := mod_copy (labV wr.heap.size (some ⟨lg, 0, none⟩) lc (y :: rest)) (labF wr.heap.size (some ⟨lg, 0, none⟩) lc (y :: rest)) _ hLab.okMod
        rw [labV_val] at cC
        simp only [List.length_cons] at *
        rcases hc with h1 | ⟨h1, h2⟩
        all_goals
          go_wp2_with (first
            | (go_at_call 22; (with_reducible refine cC.mono ?_); rintro e w4 ⟨mc, fc, b1, b2, bc, b3, b4, b5, b6, he, hlb, hO, hLk, hb4⟩; obtain ⟨gf, gk, hv, hC0⟩ := LabC.start hLab (by simp) hlb hO hLk hb4; rw [hv] at he; subst he; clear x0 x1 x2 x3 f3; have hC5 := hC0 #[.slice mc.tp 0 mc.tc, .slice (some ⟨gf, 0, none⟩) 1 mc.fc, .slice mc.mp 0 mc.mc, .slice mc.gp 0 mc.gc, .slice mc.ep 0 mc.ec, .int .i64 (-1), .slice mc.dp 0 mc.dc]; obtain ⟨x3, ⟨m0, m1, m2, m3, m4, m5, m6⟩, ⟨z0, z1, z2, z3, z4, z5, z6⟩, g1⟩ := hC5.cells; try simp only [List.length_cons] at x3; have cS1 := mod_same _ mc _ hC5.lab.modAt hC5.at; rw [labV_val, hv, hLk.same rfl hO.one] at cS1; clear hC0 hLab cC)
            | (go_at_call 19; (with_reducible refine cS1.mono ?_); rintro e w6 ⟨rfl, hb6⟩; have hC6 := hC5.below hb6; obtain ⟨l1, l2, l3, l4, l5⟩ := hC6.first; have ⟨l6, l7, l8, l9⟩ : (¬ lg = w1.heap.size) ∧ (¬ w1.heap.size = lg) ∧ (¬ lg = wr.heap.size + 1 + 1) ∧ (¬ wr.heap.size + 1 + 1 = lg) := (by omega); have ⟨l10, l11⟩ : (¬ lg = w4.heap.size) ∧ (¬ w4.heap.size = lg) := (by omega); clear x3 m0 m1 m2 m3 m4 m5 m6 z0 z1 z2 z3 z4 z5 z6 g1 cS1; obtain ⟨x3, ⟨m0, m1, m2, m3, m4, m5, m6⟩, ⟨z0, z1, z2, z3, z4, z5, z6⟩, g1⟩ := hC6.cells; try simp only [List.length_cons] at x3))
          have hC7 := hC6.turn (by omega)
          clear x3 m0 m1 m2 m3 m4 m5 m6 z0 z1 z2 z3 z4 z5 z6 g1 l1 l2 l3 l4 l5 l6 l7 l8 l9 l10 l11
          generalize w6.setCell ⟨lg, 0, none⟩ (.int .i64 (y + 1)) = w6 at *
          obtain ⟨x3, ⟨m0, m1, m2, m3, m4, m5, m6⟩, ⟨z0, z1, z2, z3, z4, z5, z6⟩, g1⟩ := hC7.cells
          try simp only [List.length_cons] at x3
          have cS2 := fun W (hW : Below w6.heap.size w6 W) => mod_same _ mc W (hC7.below hW).lab.modAt (hC7.below hW).at
          rw [labV_val, hv, same_lab hO.one hLk] at cS2
          have hd := (Below.refl w6.heap.size w6).drew
          go_region_held3 (fun W => W.cell? ⟨w1.heap.size, 3, none⟩ = some (.slice (some ⟨lg, 0, none⟩) (rest.length + 1) lc) ∧ (W.cell? ⟨wr.heap.size + 1 + 1, 0, none⟩ = some (.slice none 0 0) ∧ W.cell? ⟨wr.heap.size + 1 + 1, 1, none⟩ = some (.slice (some ⟨wr.heap.size + 1, 0, none⟩) 1 1) ∧ W.cell? ⟨wr.heap.size + 1 + 1, 2, none⟩ = some (.slice none 0 0) ∧ W.cell? ⟨wr.heap.size + 1 + 1, 3, none⟩ = some (.slice none 0 0) ∧ W.cell? ⟨wr.heap.size + 1 + 1, 4, none⟩ = some (.slice none 0 0) ∧ W.cell? ⟨wr.heap.size + 1 + 1, 5, none⟩ = some (.int .i64 (-1)) ∧ W.cell? ⟨wr.heap.size + 1 + 1, 6, none⟩ = some (.slice none 0 0)) ∧ (W.cell? ⟨w4.heap.size, 0, none⟩ = some (.slice mc.tp 0 mc.tc) ∧ W.cell? ⟨w4.heap.size, 1, none⟩ = some (.slice (some ⟨gf, 0, none⟩) 1 mc.fc) ∧ W.cell? ⟨w4.heap.size, 2, none⟩ = some (.slice mc.mp 0 mc.mc) ∧ W.cell? ⟨w4.heap.size, 3, none⟩ = some (.slice mc.gp 0 mc.gc) ∧ W.cell? ⟨w4.heap.size, 4, none⟩ = some (.slice mc.ep 0 mc.ec) ∧ W.cell? ⟨w4.heap.size, 5, none⟩ = some (.int .i64 (-1)) ∧ W.cell? ⟨w4.heap.size, 6, none⟩ = some (.slice mc.dp 0 mc.dc)))
            (first | (with_reducible exact keep_15 hb7 (by assumption)) | go_keep)
            (first | (go_at_call 19; (with_reducible refine (cS2 _ hd).mono ?_); rintro e w7 ⟨rfl, hb7⟩))
          all_goals
            go_wp2
            go_ret
            exact ⟨rfl, belt (belt (belt hB1 (Nat.le_refl _) hC7.lab.low) (Nat.le_refl _) hd) (Nat.le_refl _) hb7⟩
end Go.Proofs.YtnonedmkdcbmfaaGreatDoor
