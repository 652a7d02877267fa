/-
  The statement on any module, any code and any text, walked. Only its frame proves it.
-/
import Derived.Test.YtnonedmkdcbmfaaGreatDoorZModRefName
import Derived.Test.YtnonedmkdcbmfaaGreatDoorZModRefMany
import Derived.Test.YtnonedmkdcbmfaaGreatDoorZModHead
namespace Go.Proofs.YtnonedmkdcbmfaaGreatDoor
open Go.RowKit
theorem box7 {w w1 : World} {v0 v1 v2 v3 v4 v5 v6 : Value} (hb : Below (w.alloc (.cells #[v0, v1, v2, v3, v4, v5, v6] 29)).heap.size (w.alloc (.cells #[v0, v1, v2, v3, v4, v5, v6] 29)) w1) :
    w1.cell? ⟨w.heap.size, 0, none⟩ = some v0 ∧ w1.cell? ⟨w.heap.size, 1, none⟩ = some v1 ∧ w1.cell? ⟨w.heap.size, 2, none⟩ = some v2 ∧ w1.cell? ⟨w.heap.size, 3, none⟩ = some v3 ∧ w1.cell? ⟨w.heap.size, 4, none⟩ = some v4 ∧ w1.cell? ⟨w.heap.size, 5, none⟩ = some v5 ∧ w1.cell? ⟨w.heap.size, 6, none⟩ = some v6 := (box_mod hb).1

set_option maxRecDepth 100000 in
set_option maxHeartbeats 8000000 in
theorem moduleRights_walk (m : MoV) (s : ByteArray) (hs : s.size ≤ maxLen) (w : World) (hLaid : Laid w) (hm : ModAt w m) :
    Calls Tryz.prog 3 #[m.val, .string s] w fun e w' => e = .returned (.bool true) ∧ Below w.heap.size w w' := by
  have cH := fun o => head_mod (w.alloc o) (hLaid.alloc o)
  have hB0 := fun o => bel1 (Below.refl w.heap.size w) (Nat.le_refl _) o
  have cR := fun W (hW : Below w.heap.size w W) => mod_right m W (hLaid.below hW) (hm.below hW (Nat.le_refl _))
  have cR' := fun W (hW : Below w.heap.size w W) => ref_rightMod m W (hm.below hW (Nat.le_refl _))
  have cN := fun W (hW : Below w.heap.size w W) => mod_name s hs W (hLaid.below hW)
  have cN' := fun W => ref_name s hs W
  generalize isName s.data.toList = V3 at cN cN'
  generalize rightMod m = V1 at cR cR'
  have hfa := hm.funcs
  have hfi := hm.funcsIn
  have hfm := hm.funcsMost
  unfold mostThings at hfm
  clear hm hs
  obtain ⟨tp, tc, mt, fp, fc, mf, mp, mc, mm, gp, gc, mg, ep, ec, me, st, dp, dc, md⟩ := m
  simp only [MoV.val] at *
  generalize mt.length = nt at *
  generalize mm.length = nm at *
  generalize mg.length = ng at *
  generalize me.length = ne at *
  generalize md.length = nd at *
  cases mf with
  | nil =>
    have cS := fun W (hW : Below w.heap.size w W) => mod_structured none 0 0 [] rfl W ⟨RowsAt.nil, (fun x hx => by cases hx), by simp⟩
    have cS' := fun W (hW : Below w.heap.size w W) => ref_structured none 0 0 [] rfl (by omega) W (fun j hj => absurd hj (by simp))
    simp only [show runs (opsOf []) [] = false from rfl, show runs ([] : List Int) [] = false from rfl] at cS cS'
    simp only [List.length_nil] at *
    generalize hnf : (0 : Nat) = nf at cR cR' ⊢
    subst hnf
    clear hfa hfi hfm
    go_enter Tryz.func3, Tryz.ntmps3
    go_wp2_with (first | (go_at_call 10; refine (cH _).mono ?_; rintro e w1 ⟨rfl, hb1⟩; have hB1 := belt (hB0 _) (Nat.le_refl _) hb1; have ⟨k0, k1, k2, k3, k4, k5, k6⟩ := box7 hb1; clear cH))
    have hB1' := hB1.drew
    go_region_held3 (fun W => W.cell? ⟨w.heap.size, 0, none⟩ = some (.slice tp nt tc) ∧ W.cell? ⟨w.heap.size, 1, none⟩ = some (.slice fp 0 fc) ∧ W.cell? ⟨w.heap.size, 2, none⟩ = some (.slice mp nm mc) ∧ W.cell? ⟨w.heap.size, 3, none⟩ = some (.slice gp ng gc) ∧ W.cell? ⟨w.heap.size, 4, none⟩ = some (.slice ep ne ec) ∧ W.cell? ⟨w.heap.size, 5, none⟩ = some (.int .i64 st) ∧ W.cell? ⟨w.heap.size, 6, none⟩ = some (.slice dp nd dc))
      (first | (with_reducible exact keep_7 hb7 (by assumption)) | (with_reducible exact keep_7 hb6 (by assumption)) | (with_reducible exact keep_7 hb5 (by assumption)) | (with_reducible exact keep_7 hb4 (by assumption)) | (with_reducible exact keep_7 hb3 (by assumption)) | (with_reducible exact keep_7 hb2 (by assumption)) | go_keep)
      (first
        | (go_at_call 11; (with_reducible refine (cR _ hB1').mono ?_); rintro e w2 ⟨rfl, hb2⟩; have hB2 := belt hB1' (Nat.le_refl _) hb2)
        | (go_at_call 12; (with_reducible refine (cR' _ hB2).mono ?_); rintro e w3 ⟨rfl, hb3⟩; have hB3 := belt hB2 (Nat.le_refl _) hb3)
        | (go_at_call 13; (with_reducible refine (cS _ hB3).mono ?_); rintro e w4 ⟨rfl, hb4⟩; have hB4 := belt hB3 (Nat.le_refl _) hb4)
        | (go_at_call 14; (with_reducible refine (cS' _ hB4).mono ?_); rintro e w5 ⟨rfl, hb5⟩; have hB5 := belt hB4 (Nat.le_refl _) hb5)
        | (go_at_call 15; (with_reducible refine (cN _ hB5).mono ?_); rintro e w6 ⟨rfl, hb6⟩; have hB6 := belt hB5 (Nat.le_refl _) hb6)
        | (go_at_call 16; (with_reducible refine (cN' _).mono ?_); rintro e w7 ⟨rfl, rfl⟩))
    all_goals
      go_wp2
      go_ret
      exact ⟨by simp, hB6⟩
  | cons f fs =>
    obtain ⟨fb, fo, hfp, hfb, hf2⟩ := hfa 0 (by simp) 2 _ rfl
    subst hfp
    simp only [Nat.zero_mul, Nat.add_zero, List.getElem_cons_zero] at hf2
    have hF := hfi f (by simp)
    have cS := fun W (hW : Below w.heap.size w W) => mod_structured f.cp f.code.length f.cc f.code rfl W (hF.1.below hW (Nat.le_refl _))
    have cS' := fun W (hW : Below w.heap.size w W) => ref_structured f.cp f.code.length f.cc (opsOf f.code) (by simp [opsOf]) hF.1.2.2 W (hF.1.below hW (Nat.le_refl _)).ops
    generalize runs (opsOf f.code) [] = V2 at cS cS'
    obtain ⟨ft, fl, cp, cc, fcode⟩ := f
    simp only [List.length_cons] at *
    generalize fcode.length = ncode at *
    generalize fs.length = nf at *
    clear hfa hfi hF
    have hpos : (0 : Int) < (nf : Int) + 1 := by omega
    go_enter Tryz.func3, Tryz.ntmps3
    go_wp2_with (first | (go_at_call 10; refine (cH _).mono ?_; rintro e w1 ⟨rfl, hb1⟩; have hB1 := belt (hB0 _) (Nat.le_refl _) hb1; have ⟨k0, k1, k2, k3, k4, k5, k6⟩ := box7 hb1; have e2 := (hb1.cell (p := ⟨fb, fo + 2, none⟩) (by show fb < (w.alloc _).heap.size; simp; omega)).trans ((World.cell?_alloc_lt w _ ⟨fb, fo + 2, none⟩ hfb).trans hf2); clear cH))
    have hB1' := hB1.drew
    go_region_held3 (fun W => W.cell? ⟨w.heap.size, 0, none⟩ = some (.slice tp nt tc) ∧ W.cell? ⟨w.heap.size, 1, none⟩ = some (.slice (some ⟨fb, fo, none⟩) (nf + 1) fc) ∧ W.cell? ⟨w.heap.size, 2, none⟩ = some (.slice mp nm mc) ∧ W.cell? ⟨w.heap.size, 3, none⟩ = some (.slice gp ng gc) ∧ W.cell? ⟨w.heap.size, 4, none⟩ = some (.slice ep ne ec) ∧ W.cell? ⟨w.heap.size, 5, none⟩ = some (.int .i64 st) ∧ W.cell? ⟨w.heap.size, 6, none⟩ = some (.slice dp nd dc))
      (first | (with_reducible exact keep_7 hb7 (by assumption)) | (with_reducible exact keep_7 hb6 (by assumption)) | (with_reducible exact keep_7 hb5 (by assumption)) | (with_reducible exact keep_7 hb4 (by assumption)) | (with_reducible exact keep_7 hb3 (by assumption)) | (with_reducible exact keep_7 hb2 (by assumption)) | go_keep)
      (first
        | (go_at_call 11; (with_reducible refine (cR _ hB1').mono ?_); rintro e w2 ⟨rfl, hb2⟩; have hB2 := belt hB1' (Nat.le_refl _) hb2)
        | (go_at_call 12; (with_reducible refine (cR' _ hB2).mono ?_); rintro e w3 ⟨rfl, hb3⟩; have hB3 := belt hB2 (Nat.le_refl _) hb3)
        | (go_at_call 13; (with_reducible refine (cS _ hB3).mono ?_); rintro e w4 ⟨rfl, hb4⟩; have hB4 := belt hB3 (Nat.le_refl _) hb4)
        | (go_at_call 14; (with_reducible refine (cS' _ hB4).mono ?_); rintro e w5 ⟨rfl, hb5⟩; have hB5 := belt hB4 (Nat.le_refl _) hb5)
        | (go_at_call 15; (with_reducible refine (cN _ hB5).mono ?_); rintro e w6 ⟨rfl, hb6⟩; have hB6 := belt hB5 (Nat.le_refl _) hb6)
        | (go_at_call 16; (with_reducible refine (cN' _).mono ?_); rintro e w7 ⟨rfl, rfl⟩))
    all_goals
      go_wp2
      go_ret
      exact ⟨by simp, hB6⟩
end Go.Proofs.YtnonedmkdcbmfaaGreatDoor
