/-
  The statement on any instruction and any two modules, walked. Only its frame proves it.
-/
import Derived.Test.YtnonedmkdcbmfaaGreatDoorZModHead
import Derived.Test.YtnonedmkdcbmfaaGreatDoorZModRefSameM
namespace Go.Proofs.YtnonedmkdcbmfaaGreatDoor
open Go.RowKit

theorem boxes_xab {w w1 : World} {q0 q1 q2 q3 u0 u1 u2 u3 u4 u5 u6 v0 v1 v2 v3 v4 v5 v6 : Value}
    (hb : Below (((w.alloc (.cells #[q0, q1, q2, q3] 40)).alloc (.cells #[u0, u1, u2, u3, u4, u5, u6] 29)).alloc (.cells #[v0, v1, v2, v3, v4, v5, v6] 29)).heap.size (((w.alloc (.cells #[q0, q1, q2, q3] 40)).alloc (.cells #[u0, u1, u2, u3, u4, u5, u6] 29)).alloc (.cells #[v0, v1, v2, v3, v4, v5, v6] 29)) w1) :
    (w1.cell? ⟨w.heap.size, 0, none⟩ = some q0 ∧ w1.cell? ⟨w.heap.size, 1, none⟩ = some q1 ∧ w1.cell? ⟨w.heap.size, 2, none⟩ = some q2 ∧ w1.cell? ⟨w.heap.size, 3, none⟩ = some q3) ∧ (w1.cell? ⟨(w.heap.size + 1), 0, none⟩ = some u0 ∧ w1.cell? ⟨(w.heap.size + 1), 1, none⟩ = some u1 ∧ w1.cell? ⟨(w.heap.size + 1), 2, none⟩ = some u2 ∧ w1.cell? ⟨(w.heap.size + 1), 3, none⟩ = some u3 ∧ w1.cell? ⟨(w.heap.size + 1), 4, none⟩ = some u4 ∧ w1.cell? ⟨(w.heap.size + 1), 5, none⟩ = some u5 ∧ w1.cell? ⟨(w.heap.size + 1), 6, none⟩ = some u6) ∧ (w1.cell? ⟨(w.heap.size + 1 + 1), 0, none⟩ = some v0 ∧ w1.cell? ⟨(w.heap.size + 1 + 1), 1, none⟩ = some v1 ∧ w1.cell? ⟨(w.heap.size + 1 + 1), 2, none⟩ = some v2 ∧ w1.cell? ⟨(w.heap.size + 1 + 1), 3, none⟩ = some v3 ∧ w1.cell? ⟨(w.heap.size + 1 + 1), 4, none⟩ = some v4 ∧ w1.cell? ⟨(w.heap.size + 1 + 1), 5, none⟩ = some v5 ∧ w1.cell? ⟨(w.heap.size + 1 + 1), 6, none⟩ = some v6) ∧ Below w.heap.size w w1 := by
  have k : ∀ (w : World) (o : Obj) (b : Nat) (q : Obj), w.heap[b]? = some q → (w.alloc o).heap[b]? = some q := fun w o b q h => by rw [Below.heap_alloc w o b (heap_in h)]; exact h
  have nw : ∀ (w : World) (o : Obj) (b : Nat), w.heap.size = b → (w.alloc o).heap[b]? = some o := fun w o b h => by subst h; exact heap_alloc_new w o
  have h0 := k _ (.cells #[v0, v1, v2, v3, v4, v5, v6] 29) _ _ (k _ (.cells #[u0, u1, u2, u3, u4, u5, u6] 29) _ _ (nw w (.cells #[q0, q1, q2, q3] 40) w.heap.size rfl))
  have h1 := k _ (.cells #[v0, v1, v2, v3, v4, v5, v6] 29) _ _ (nw (w.alloc (.cells #[q0, q1, q2, q3] 40)) (.cells #[u0, u1, u2, u3, u4, u5, u6] 29) (w.heap.size + 1) (by simp))
  have h2 := nw ((w.alloc (.cells #[q0, q1, q2, q3] 40)).alloc (.cells #[u0, u1, u2, u3, u4, u5, u6] 29)) (.cells #[v0, v1, v2, v3, v4, v5, v6] 29) (w.heap.size + 1 + 1) (by simp)
  have g0 := (hb.block _ (heap_in h0)).trans h0
  have g1 := (hb.block _ (heap_in h1)).trans h1
  have g2 := (hb.block _ (heap_in h2)).trans h2
  refine ⟨⟨by simp [World.cell?, g0], by simp [World.cell?, g0], by simp [World.cell?, g0], by simp [World.cell?, g0]⟩, ⟨by simp [World.cell?, g1], by simp [World.cell?, g1], by simp [World.cell?, g1], by simp [World.cell?, g1], by simp [World.cell?, g1], by simp [World.cell?, g1], by simp [World.cell?, g1]⟩, ⟨by simp [World.cell?, g2], by simp [World.cell?, g2], by simp [World.cell?, g2], by simp [World.cell?, g2], by simp [World.cell?, g2], by simp [World.cell?, g2], by simp [World.cell?, g2]⟩, ?_⟩
  exact belt (bel1 (bel1 (bel1 (Below.refl _ w) (Nat.le_refl _) _) (Nat.le_refl _) _) (Nat.le_refl _) _) (Nat.le_refl _) hb
theorem keep_14 {W W' : World} {B C : Nat} {u0 u1 u2 u3 u4 u5 u6 v0 v1 v2 v3 v4 v5 v6 : Value} (hb : Below W.heap.size W W') (h : W.cell? ⟨B, 0, none⟩ = some u0 ∧ W.cell? ⟨B, 1, none⟩ = some u1 ∧ W.cell? ⟨B, 2, none⟩ = some u2 ∧ W.cell? ⟨B, 3, none⟩ = some u3 ∧ W.cell? ⟨B, 4, none⟩ = some u4 ∧ W.cell? ⟨B, 5, none⟩ = some u5 ∧ W.cell? ⟨B, 6, none⟩ = some u6 ∧ W.cell? ⟨C, 0, none⟩ = some v0 ∧ W.cell? ⟨C, 1, none⟩ = some v1 ∧ W.cell? ⟨C, 2, none⟩ = some v2 ∧ W.cell? ⟨C, 3, none⟩ = some v3 ∧ W.cell? ⟨C, 4, none⟩ = some v4 ∧ W.cell? ⟨C, 5, none⟩ = some v5 ∧ W.cell? ⟨C, 6, none⟩ = some v6) : W'.cell? ⟨B, 0, none⟩ = some u0 ∧ W'.cell? ⟨B, 1, none⟩ = some u1 ∧ W'.cell? ⟨B, 2, none⟩ = some u2 ∧ W'.cell? ⟨B, 3, none⟩ = some u3 ∧ W'.cell? ⟨B, 4, none⟩ = some u4 ∧ W'.cell? ⟨B, 5, none⟩ = some u5 ∧ W'.cell? ⟨B, 6, none⟩ = some u6 ∧ W'.cell? ⟨C, 0, none⟩ = some v0 ∧ W'.cell? ⟨C, 1, none⟩ = some v1 ∧ W'.cell? ⟨C, 2, none⟩ = some v2 ∧ W'.cell? ⟨C, 3, none⟩ = some v3 ∧ W'.cell? ⟨C, 4, none⟩ = some v4 ∧ W'.cell? ⟨C, 5, none⟩ = some v5 ∧ W'.cell? ⟨C, 6, none⟩ = some v6 := by
  obtain ⟨h0, h1, h2, h3, h4, h5, h6, g0, g1, g2, g3, g4, g5, g6⟩ := h
  exact ⟨cell_below h0 hb, cell_below h1 hb, cell_below h2 hb, cell_below h3 hb, cell_below h4 hb, cell_below h5 hb, cell_below h6 hb, cell_below g0 hb, cell_below g1 hb, cell_below g2 hb, cell_below g3 hb, cell_below g4 hb, cell_below g5 hb, cell_below g6 hb⟩

set_option maxRecDepth 100000 in
set_option maxHeartbeats 8000000 in
theorem moduleTexts_walk (x : InsV) (a b : MoV) (w : World) (hLaid : Laid w) (hx : InsAt w x) (ha : ModAt w a) (hb : ModAt w b) :
    Calls Tryz.prog 4 #[x.val, a.val, b.val] w fun e w' => e = .returned (.bool true) ∧ Below w.heap.size w w' := by
  have cH := fun o o' o2 => head_mod (((w.alloc o).alloc o').alloc o2) (((hLaid.alloc o).alloc o').alloc o2)
  have cT := fun W (hW : Below w.heap.size w W) => mod_text x W (hLaid.below hW) (hx.below hW (Nat.le_refl _))
  have cT' := fun W (hW : Below w.heap.size w W) => ref_text x W (hx.below hW (Nat.le_refl _))
  have cS := fun W (hW : Below w.heap.size w W) => mod_same a b W (ha.below hW (Nat.le_refl _)) (hb.below hW (Nat.le_refl _))
  have cS' := fun W (hW : Below w.heap.size w W) => ref_same a b W (ha.below hW (Nat.le_refl _)) (hb.below hW (Nat.le_refl _))
  generalize textOf x = T at cT cT'
  generalize rightIns x = R at cT cT'
  generalize sameMod a b = V1 at cS cS'
  clear hx ha hb hLaid
  obtain ⟨xo, xa, xb, xp, xc, xl⟩ := x
  obtain ⟨atp, atc, amt, afp, afc, amf, amp, amc, amm, agp, agc, amg, aep, aec, ame, ast, adp, adc, amd⟩ := a
  obtain ⟨btp, btc, bmt, bfp, bfc, bmf, bmp, bmc, bmm, bgp, bgc, bmg, bep, bec, bme, bst, bdp, bdc, bmd⟩ := b
  simp only [MoV.val, InsV.val] at *
  generalize xl.length = xn at *
  generalize amt.length = ant at *
  generalize amf.length = anf at *
  generalize amm.length = anm at *
  generalize amg.length = ang at *
  generalize ame.length = ane at *
  generalize amd.length = and at *
  generalize bmt.length = bnt at *
  generalize bmf.length = bnf at *
  generalize bmm.length = bnm at *
  generalize bmg.length = bng at *
  generalize bme.length = bne at *
  generalize bmd.length = bnd at *
  go_enter Tryz.func4, Tryz.ntmps4
  go_wp2_with (first
    | (go_at_call 10; refine (cH _ _ _).mono ?_; rintro e w1 ⟨rfl, hb1⟩; obtain ⟨⟨q0, q1, q2, q3⟩, hka, hkb, hB1⟩ := boxes_xab hb1; clear cH hb1)
    | (go_at_call 17; (with_reducible refine (cT _ hB1).mono ?_); rintro e w2 ⟨rfl, hb2⟩; have hB2 := belt hB1 (Nat.le_refl _) hb2; have r0 := cell_below q0 hb2; have r1 := cell_below q1 hb2; have r2 := cell_below q2 hb2; have r3 := cell_below q3 hb2)
    | (go_at_call 18; (with_reducible refine (cT' _ hB2).mono ?_); rintro e w3 ⟨rfl, hb3⟩; have hB3 := belt hB2 (Nat.le_refl _) hb3; clear q0 q1 q2 q3 r0 r1 r2 r3; have ⟨k0, k1, k2, k3, k4, k5, k6, l0, l1, l2, l3, l4, l5, l6⟩ := keep_14 hb3 (keep_14 hb2 ⟨hka.1, hka.2.1, hka.2.2.1, hka.2.2.2.1, hka.2.2.2.2.1, hka.2.2.2.2.2.1, hka.2.2.2.2.2.2, hkb⟩); clear hka hkb hb2 hb3))
  have hB3' := hB3.drew
  go_region_held3 (fun W => W.cell? ⟨(w.heap.size + 1), 0, none⟩ = some (.slice atp ant atc) ∧ W.cell? ⟨(w.heap.size + 1), 1, none⟩ = some (.slice afp anf afc) ∧ W.cell? ⟨(w.heap.size + 1), 2, none⟩ = some (.slice amp anm amc) ∧ W.cell? ⟨(w.heap.size + 1), 3, none⟩ = some (.slice agp ang agc) ∧ W.cell? ⟨(w.heap.size + 1), 4, none⟩ = some (.slice aep ane aec) ∧ W.cell? ⟨(w.heap.size + 1), 5, none⟩ = some (.int .i64 ast) ∧ W.cell? ⟨(w.heap.size + 1), 6, none⟩ = some (.slice adp and adc) ∧ W.cell? ⟨(w.heap.size + 1 + 1), 0, none⟩ = some (.slice btp bnt btc) ∧ W.cell? ⟨(w.heap.size + 1 + 1), 1, none⟩ = some (.slice bfp bnf bfc) ∧ W.cell? ⟨(w.heap.size + 1 + 1), 2, none⟩ = some (.slice bmp bnm bmc) ∧ W.cell? ⟨(w.heap.size + 1 + 1), 3, none⟩ = some (.slice bgp bng bgc) ∧ W.cell? ⟨(w.heap.size + 1 + 1), 4, none⟩ = some (.slice bep bne bec) ∧ W.cell? ⟨(w.heap.size + 1 + 1), 5, none⟩ = some (.int .i64 bst) ∧ W.cell? ⟨(w.heap.size + 1 + 1), 6, none⟩ = some (.slice bdp bnd bdc))
    (first | (with_reducible exact keep_14 hb5 (by assumption)) | (with_reducible exact keep_14 hb4 (by assumption)) | go_keep)
    (first
      | (go_at_call 19; (with_reducible refine (cS _ hB3').mono ?_); rintro e w4 ⟨rfl, hb4⟩; have hB4 := belt hB3' (Nat.le_refl _) hb4)
      | (go_at_call 20; (with_reducible refine (cS' _ hB4).mono ?_); rintro e w5 ⟨rfl, hb5⟩; have hB5 := belt hB4 (Nat.le_refl _) hb5))
  all_goals
    go_wp2
    go_ret
    exact ⟨by simp, hB5⟩
end Go.Proofs.YtnonedmkdcbmfaaGreatDoor
