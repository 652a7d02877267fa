/-
  The examples ahead of each statement of chapter 4: a contract that the proofs call; no statement is proved here.
-/
import Derived.Test.YtnonedmkdcbmfaaGreatDoorZModMadeAt
import Derived.Test.YtnonedmkdcbmfaaGreatDoorZModTextA
namespace Go.Proofs.YtnonedmkdcbmfaaGreatDoor
open Go.RowKit

theorem bel1 {B : Nat} {w W : World} (h : Below B w W) (hB : B ≤ w.heap.size) (o : Obj) : Below B w (W.alloc o) := h.alloc (Nat.le_trans hB h.size) o
theorem bel2 {B : Nat} {w W : World} (h : Below B w W) (hB : B ≤ w.heap.size) (o o' : Obj) : Below B w ((W.alloc o).alloc o') := bel1 (bel1 h hB o) hB o'
theorem belt {B : Nat} {w W W' : World} (h : Below B w W) (hB : B ≤ w.heap.size) (h2 : Below W.heap.size W W') : Below B w W' := h.trans (h2.mono (Nat.le_trans hB h.size))
theorem code_one (W : World) (op a b : Int) (h : inI64 op ∧ inI64 a ∧ inI64 b) : CodeAt (W.alloc (.cells #[.int .i64 op, .int .i64 a, .int .i64 b, .slice none 0 0] 40)) (some ⟨W.heap.size, 0, none⟩) [⟨op, a, b, none, 0, []⟩] := by
  refine ⟨rows_block (heap_alloc_new _ _) rfl (fun _ _ => rfl), fun x hx => ?_, by simp⟩
  rw [List.mem_singleton.1 hx]
  exact ⟨fun j hj => absurd hj (by simp), by simp, h.1, h.2.1, h.2.2, fun n hn => by cases hn⟩
theorem copy_same {w w1 : World} {m : MoV} {f : FnV} {e : Ending} (hm : ModAt w m) (h1 : m.funcs = [f]) (h : Copy1 w m f e w1) : ∃ m' : MoV, e = .returned m'.val ∧ ModAt w1 m' ∧ sameMod m m' = true ∧ sameMod m' m = true ∧ Below w.heap.size w w1 := by
  obtain ⟨m', f', b1, b2, bc, b3, b4, b5, b6, he, hb, hO, hL, hB⟩ := h
  exact ⟨m', he, hO.modAt (Fine.of hm h1 hO.one hL), hL.same h1 hO.one, hL.symm.same hO.one h1, hB⟩
theorem madeV_val (H : Nat) (pc : Option Addr) (cc : Nat) (code : List PI) (mx i0 i1 ix st : Int) : (madeV H pc cc code mx i0 i1 ix st).val = .agg #[.slice (some ⟨H, 0, none⟩) 1 1, .slice (some ⟨H + 1, 0, none⟩) 1 1, .slice (some ⟨H + 2, 0, none⟩) 1 1, .slice (some ⟨H + 3, 0, none⟩) 2 2, .slice (some ⟨H + 4, 0, none⟩) 1 1, .int .i64 st, .slice (some ⟨H + 5, 0, none⟩) 1 1] := rfl
/-- A module is laid in a variable: where its parts stand then. -/
theorem box_mod {w w2 : World} {v0 v1 v2 v3 v4 v5 v6 : Value} (hb : Below (w.alloc (.cells #[v0, v1, v2, v3, v4, v5, v6] 29)).heap.size (w.alloc (.cells #[v0, v1, v2, v3, v4, v5, v6] 29)) w2) :
    (w2.cell? ⟨w.heap.size, 0, none⟩ = some v0 ∧ w2.cell? ⟨w.heap.size, 1, none⟩ = some v1 ∧ w2.cell? ⟨w.heap.size, 2, none⟩ = some v2 ∧ w2.cell? ⟨w.heap.size, 3, none⟩ = some v3 ∧ w2.cell? ⟨w.heap.size, 4, none⟩ = some v4 ∧ w2.cell? ⟨w.heap.size, 5, none⟩ = some v5 ∧ w2.cell? ⟨w.heap.size, 6, none⟩ = some v6) ∧ (w2.heap[w.heap.size]? = some (.cells #[v0, v1, v2, v3, v4, v5, v6] 29)) ∧ Below w.heap.size w w2 := by
  have h0 : (w.alloc (.cells #[v0, v1, v2, v3, v4, v5, v6] 29)).heap[w.heap.size]? = _ := heap_alloc_new _ _
  have h9 : w2.heap[w.heap.size]? = some (.cells #[v0, v1, v2, v3, v4, v5, v6] 29) := (hb.block _ (heap_in h0)).trans h0
  refine ⟨⟨by simp [World.cell?, h9], by simp [World.cell?, h9], by simp [World.cell?, h9], by simp [World.cell?, h9], by simp [World.cell?, h9], by simp [World.cell?, h9], by simp [World.cell?, h9]⟩, h9, ?_⟩
  exact belt ((Below.refl _ w).alloc (Nat.le_refl _) _) (Nat.le_refl _) hb
theorem made_right {w W : World} (hL : Laid w) {lo H : Nat} {pc : Option Addr} {cc : Nat} {code : List PI} (hM : MadeAt w lo H pc cc code 2 5 (-5) 0) (hW : Below w.heap.size w W) :
    Calls Tryz.prog 11 #[.agg #[.slice (some ⟨H, 0, none⟩) 1 1, .slice (some ⟨H + 1, 0, none⟩) 1 1, .slice (some ⟨H + 2, 0, none⟩) 1 1, .slice (some ⟨H + 3, 0, none⟩) 2 2, .slice (some ⟨H + 4, 0, none⟩) 1 1, .int .i64 (-1), .slice (some ⟨H + 5, 0, none⟩) 1 1]] W fun e w' => e = .returned (.bool true) ∧ Below W.heap.size W w' := by
  have h := mod_right (madeV H pc cc code 2 5 (-5) 0 (-1)) W (hL.below hW) ((hM.below hW).modAt (by decide) (by decide) (by decide) (by decide) (by decide))
  rw [(hM.below hW).rights] at h
  exact h

set_option maxRecDepth 100000 in
set_option maxHeartbeats 8000000 in
theorem head_mod (w : World) (hLaid : Laid w) : Calls Tryz.prog 10 #[] w fun e w' => e = .returned (.bool true) ∧ Below w.heap.size w w' := by
  have c0 := made_of none 0 [] w ⟨RowsAt.nil, (fun x hx => by cases hx), by simp⟩
  simp only [List.length_nil] at c0
  have e1 : textOf ⟨40, 2, 8, none, 0, []⟩ = ⟨#[105, 51, 50, 46, 108, 111, 97, 100, 32, 111, 102, 102, 115, 101, 116, 61, 56, 32, 97, 108, 105, 103, 110, 61, 50]⟩ := by decide +kernel
  have e2 : rightIns ⟨40, 2, 8, none, 0, []⟩ = true := by decide +kernel
  have cT : ∀ W, Laid W → Calls Tryz.prog 17 #[.agg #[.int .i64 40, .int .i64 2, .int .i64 8, .slice none 0 0]] W fun e w' => e = .returned (.tuple #[.string ⟨#[105, 51, 50, 46, 108, 111, 97, 100, 32, 111, 102, 102, 115, 101, 116, 61, 56, 32, 97, 108, 105, 103, 110, 61, 50]⟩, .bool true]) ∧ Below W.heap.size W w' := fun W hW => by
    have := mod_text ⟨40, 2, 8, none, 0, []⟩ W hW ⟨fun j hj => absurd hj (by simp), by simp, by decide, by decide, by decide, fun n hn => by cases hn⟩
    rwa [e1, e2] at this
  have cS1 : ∀ W : World, Calls Tryz.prog 13 #[.slice (some ⟨W.heap.size, 0, none⟩) 1 1] (W.alloc (.cells #[.int .i64 11, .int .i64 0, .int .i64 0, .slice none 0 0] 40)) fun e w' => e = .returned (.bool true) ∧ Below (W.alloc (.cells #[.int .i64 11, .int .i64 0, .int .i64 0, .slice none 0 0] 40)).heap.size (W.alloc (.cells #[.int .i64 11, .int .i64 0, .int .i64 0, .slice none 0 0] 40)) w' := fun W => by
    exact mod_structured _ 1 1 [⟨11, 0, 0, none, 0, []⟩] rfl _ (code_one W 11 0 0 (by decide))
  have cS2 : ∀ W : World, Calls Tryz.prog 13 #[.slice none 0 0] W fun e w' => e = .returned (.bool false) ∧ Below W.heap.size W w' := fun W => by
    exact mod_structured none 0 0 [] rfl W ⟨RowsAt.nil, (fun x hx => by cases hx), by simp⟩
  have cN1 : ∀ W, Laid W → Calls Tryz.prog 15 #[.string ⟨#[195, 164]⟩] W fun e w' => e = .returned (.bool true) ∧ Below W.heap.size W w' := fun W hW => mod_name ⟨#[195, 164]⟩ (by decide) W hW
  have cN2 : ∀ W, Laid W → Calls Tryz.prog 15 #[.string ⟨#[255]⟩] W fun e w' => e = .returned (.bool false) ∧ Below W.heap.size W w' := fun W hW => mod_name ⟨#[255]⟩ (by decide) W hW
  clear e1 e2
  have hB0 := Below.refl w.heap.size w
  go_enter Tryz.func10, Tryz.ntmps10
  go_wp2_with (first
    | (go_at_call 21; refine c0.mono ?_; rintro e w1 ⟨H, pc, cc, code, he, hM, hne, hb1⟩; rw [madeV_val] at he; subst he; have hL1 := hLaid.below hb1; have cR := fun W hW => made_right (W := W) hL1 hM hW; have cC := fun W (hW : Below w1.heap.size w1 W) => (mod_copy _ _ W ((hM.below hW).okMod (st := -1) ((hM.below hW).modAt (by decide) (by decide) (by decide) (by decide) (by decide)) hne)).mono fun e w' h => copy_same ((hM.below hW).modAt (by decide) (by decide) (by decide) (by decide) (by decide)) rfl h; simp only [madeV_val] at cC)
    | (go_at_call 17; refine (cT _ ?_).mono ?_; (exact hL1.alloc _); rintro e w2 ⟨rfl, hb2⟩; obtain ⟨⟨k0, k1, k2, k3, k4, k5, k6⟩, hK, hB2⟩ := box_mod hb2; clear hb2))
  have hB2' := hB2.drew
  go_region_held3 (fun W => W.cell? ⟨w1.heap.size, 0, none⟩ = some (.slice (some ⟨H, 0, none⟩) 1 1) ∧ W.cell? ⟨w1.heap.size, 1, none⟩ = some (.slice (some ⟨H + 1, 0, none⟩) 1 1) ∧ W.cell? ⟨w1.heap.size, 2, none⟩ = some (.slice (some ⟨H + 2, 0, none⟩) 1 1) ∧ W.cell? ⟨w1.heap.size, 3, none⟩ = some (.slice (some ⟨H + 3, 0, none⟩) 2 2) ∧ W.cell? ⟨w1.heap.size, 4, none⟩ = some (.slice (some ⟨H + 4, 0, none⟩) 1 1) ∧ W.cell? ⟨w1.heap.size, 5, none⟩ = some (.int .i64 (-1)) ∧ W.cell? ⟨w1.heap.size, 6, none⟩ = some (.slice (some ⟨H + 5, 0, none⟩) 1 1))
    (first | (with_reducible exact keep_7 hb9 (by assumption)) | (with_reducible exact keep_7 hb8 (by assumption)) | (with_reducible exact keep_7 hb7 (by assumption)) | (with_reducible exact keep_7 hb6 (by assumption)) | (with_reducible exact keep_7 hb5 (by assumption)) | (with_reducible exact keep_7 hb4 (by assumption)) | (with_reducible exact keep_7 hb3 (by assumption)) | (with_reducible exact keep_7 ((Below.refl _ _).alloc (Nat.le_refl _) _) (by assumption)) | go_keep)
    (first
      | (go_at_call 11; (with_reducible refine (cR _ hB2').mono ?_); rintro e w3 ⟨rfl, hb3⟩; have hB3 := belt hB2' (Nat.le_refl _) hb3)
      | (go_at_call 13; (with_reducible refine (cS1 _).mono ?_); rintro e w4 ⟨rfl, hb4⟩; have hB4 := belt (bel1 hB3 (Nat.le_refl _) _) (Nat.le_refl _) hb4)
      | (go_at_call 13; (with_reducible refine (cS2 _).mono ?_); rintro e w5 ⟨rfl, hb5⟩; have hB5 := belt hB4 (Nat.le_refl _) hb5)
      | (go_at_call 22; (with_reducible refine (cC _ hB5).mono ?_); rintro e w6 ⟨m', rfl, hm', hs, _, hb6⟩; have hB6 := belt hB5 (Nat.le_refl _) hb6; have cQ := mod_same _ m' w6 ((hM.below hB6).modAt (st := -1) (by decide) (by decide) (by decide) (by decide) (by decide)) hm'; rw [hs, madeV_val] at cQ)
      | (go_at_call 19; (with_reducible refine cQ.mono ?_); rintro e w7 ⟨rfl, hb7⟩; have hB7 := belt hB6 (Nat.le_refl _) hb7; clear cQ)
      | (go_at_call 15; (with_reducible refine (cN1 _ (hL1.below hB7)).mono ?_); rintro e w8 ⟨rfl, hb8⟩; have hB8 := belt hB7 (Nat.le_refl _) hb8)
      | (go_at_call 15; (with_reducible refine (cN2 _ (hL1.below hB8)).mono ?_); rintro e w9 ⟨rfl, hb9⟩; have hB9 := belt hB8 (Nat.le_refl _) hb9))
  all_goals
    go_wp2
    go_ret
    exact ⟨rfl, belt hb1 (Nat.le_refl _) hB9⟩
end Go.Proofs.YtnonedmkdcbmfaaGreatDoor
