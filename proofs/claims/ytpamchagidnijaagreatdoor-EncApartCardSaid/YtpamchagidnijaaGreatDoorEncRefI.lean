/-
  The document's own answer to chapter 5, walked: an instruction. Contracts that the proofs call; no statement is proved here.
-/
import Derived.Test.YtpamchagidnijaaGreatDoorEncRefA
import Derived.Deep.RegionHeld3
namespace Go.Proofs.YtpamchagidnijaaGreatDoor
open Go.RowKit
set_option linter.unusedVariables false

theorem ins5_not {x : InsV} (h : rightIns x = false) : ins5 x = [] := by
  unfold ins5
  split
  · rfl
  · rw [h]; rfl
set_option maxRecDepth 100000 in
set_option maxHeartbeats 4000000 in
theorem ref5_ins_not (x : InsV) (w : World) (hx : InsAt w x) (hr : rightIns x = false) :
    Calls Tryz.prog 37 #[x.val] w fun e w' => e = .returned (.tuple #[.string (bs (ins5 x)), .bool (rightIns x)]) ∧ Below w.heap.size w w' := by
  rw [ins5_not hr, hr]
  have cR := fun W (hW : Below w.heap.size w W) => ref_right x.op x.a x.b x.lp x.ls.length x.lc x.ls rfl hx.2.1 W (hx.1.below hW (Nat.le_refl _))
  unfold rightIns at hr
  rw [hr] at cR
  have hal := fun o => (Below.refl w.heap.size w).alloc (Nat.le_refl _) o
  obtain ⟨op, a, b, lp, lc, ls⟩ := x
  simp only [InsV.val] at *
  generalize ls.length = ln at *
  go_enter Tryz.func37, Tryz.ntmps37
  go_wp2_with (first
    | (go_at_call 124; refine (cR _ (hal _)).mono ?_; rintro e w1 ⟨rfl, hb1⟩))
  go_ret2
  exact ⟨rfl, (hal _).trans (hb1.mono (hal _).size)⟩
end Go.Proofs.YtpamchagidnijaaGreatDoor

namespace Go.Proofs.YtpamchagidnijaaGreatDoor
open Go.RowKit
set_option linter.unusedVariables false

theorem box_ins {w w1 : World} {v0 v1 v2 v3 : Value} {t : TypeId} (hb : Below (w.alloc (.cells #[v0, v1, v2, v3] t)).heap.size (w.alloc (.cells #[v0, v1, v2, v3] t)) w1) : w1.cell? ⟨w.heap.size, 0, none⟩ = some v0 ∧ w1.cell? ⟨w.heap.size, 1, none⟩ = some v1 ∧ w1.cell? ⟨w.heap.size, 2, none⟩ = some v2 ∧ w1.cell? ⟨w.heap.size, 3, none⟩ = some v3 ∧ Below w.heap.size w w1 := by
  have h0 : (w.alloc (.cells #[v0, v1, v2, v3] t)).heap[w.heap.size]? = _ := heap_alloc_new _ _
  have h1 : w1.heap[w.heap.size]? = some (.cells #[v0, v1, v2, v3] t) := (hb.block _ (by simp)).trans h0
  refine ⟨?_, ?_, ?_, ?_, ((Below.refl _ w).alloc (Nat.le_refl _) _).trans (hb.mono (by simp))⟩ <;> simp [World.cell?, h1]
theorem lt_cell {W : World} {b o : Nat} {v : Value} (h : W.cell? ⟨b, o, none⟩ = some v) : b < W.heap.size := by
  by_cases hb : b < W.heap.size
  · exact hb
  · simp [World.cell?, Array.getElem?_eq_none (by omega : W.heap.size ≤ b)] at h
theorem cell_belowE {W W' : World} {a : Addr} {v : Value} (h : W.cell? a = some v) (hb : Below W.heap.size W W') : W'.cell? a = some v := by
  obtain ⟨b, o, s⟩ := a
  obtain rfl : s = none := World.cell?_spot h
  rw [hb.cell (p := ⟨b, o, none⟩) (by
    show b < W.heap.size
    by_cases hb : b < W.heap.size
    · exact hb
    · simp [World.cell?, Array.getElem?_eq_none (by omega : W.heap.size ≤ b)] at h)]
  exact h
theorem keep_2 {W W' : World} {B : Nat} {u v : Value} (hb : Below W.heap.size W W') (h : W.cell? ⟨B, 1, none⟩ = some u ∧ W.cell? ⟨B, 2, none⟩ = some v) : W'.cell? ⟨B, 1, none⟩ = some u ∧ W'.cell? ⟨B, 2, none⟩ = some v := ⟨cell_belowE h.1 hb, cell_belowE h.2 hb⟩

set_option maxRecDepth 100000 in
set_option maxHeartbeats 4000000 in
theorem ref5_ins_0 (op a b : Int) (lp : Option Addr) (lc : Nat) (ls : List Int) (w : World) (hx : InsAt w ⟨op, a, b, lp, lc, ls⟩) (hr : rightIns ⟨op, a, b, lp, lc, ls⟩ = true) (r : Rw) (hby : byCode op = some r) (hsh : r.shape = 0) :
    Calls Tryz.prog 37 #[.agg #[.int .i64 op, .int .i64 a, .int .i64 b, .slice lp ls.length lc]] w fun e w' => e = .returned (.tuple #[.string (bs (one5 op ++ tail5 0 ⟨op, a, b, lp, lc, ls⟩)), .bool true]) ∧ Below w.heap.size w w' := by
  have cR := fun W (hW : Below w.heap.size w W) => ref_right op a b lp ls.length lc ls rfl hx.2.1 W (hx.1.below hW (Nat.le_refl _))
  have hr' : rightOf (byCode op) op a b ls = true := hr
  rw [hr'] at cR
  have cO := fun W => of_some hby W
  rw [hsh] at cO
  have hop : 0 ≤ op ∧ op ≤ 255 := by
    have h1 := byCode_bd hby
    have h2 : r.code = op := by have := List.find?_some hby; simpa using this
    omega
  have c1 := fun W => ref5_one op (by omega) (by omega) W
  have hal := fun o => (Below.refl w.heap.size w).alloc (Nat.le_refl _) o
  have hb1' : (bs (one5 op)).size ≤ 1 := by rw [bs_size]; exact Nat.le_refl _

  have he : bs (one5 op) = bs (one5 op ++ tail5 0 ⟨op, a, b, lp, lc, ls⟩) := by
    rfl
  generalize ls.length = ln at *
  clear hx hr hr'
  go_enter Tryz.func37, Tryz.ntmps37
  go_wp2_with (first
    | (go_at_call 124; refine (cR _ (hal _)).mono ?_; rintro e w1 ⟨rfl, hb1⟩; obtain ⟨q0, q1, q2, q3, hB1⟩ := box_ins hb1; clear hb1)
    | (go_at_call 125; refine (cO _).mono ?_; rintro e w2 ⟨rfl, hb2⟩; have hB2 := hB1.trans (hb2.mono hB1.size); have hlt := lt_cell (cell_belowE q0 hb2); have k0 := fun o => (World.cell?_alloc_lt w2 o (⟨w.heap.size, 0, none⟩ : Addr) hlt).trans (cell_belowE q0 hb2); have k1 := fun o => (World.cell?_alloc_lt w2 o (⟨w.heap.size, 1, none⟩ : Addr) hlt).trans (cell_belowE q1 hb2); have k2 := fun o => (World.cell?_alloc_lt w2 o (⟨w.heap.size, 2, none⟩ : Addr) hlt).trans (cell_belowE q2 hb2); have k3 := fun o => (World.cell?_alloc_lt w2 o (⟨w.heap.size, 3, none⟩ : Addr) hlt).trans (cell_belowE q3 hb2); clear q0 q1 q2 q3)
    | (go_at_call 39; refine (c1 _).mono ?_; rintro e w3 ⟨rfl, hb3⟩; have q0 := cell_belowE (k0 _) hb3; have q1 := cell_belowE (k1 _) hb3; have q2 := cell_belowE (k2 _) hb3; have q3 := cell_belowE (k3 _) hb3; obtain ⟨_, i1, _, _, hB23⟩ := box_ins hb3; have hB3 := hB2.trans (hB23.mono hB2.size); clear k0 k1 k2 k3))
  go_ret2
  exact ⟨rfl, hB3⟩
set_option maxRecDepth 100000 in
set_option maxHeartbeats 4000000 in
theorem ref5_ins_1 (op a b : Int) (lp : Option Addr) (lc : Nat) (ls : List Int) (w : World) (hx : InsAt w ⟨op, a, b, lp, lc, ls⟩) (hr : rightIns ⟨op, a, b, lp, lc, ls⟩ = true) (r : Rw) (hby : byCode op = some r) (hsh : r.shape = 1) (ha : a = 64 ∨ a = 126 ∨ a = 127) :
    Calls Tryz.prog 37 #[.agg #[.int .i64 op, .int .i64 a, .int .i64 b, .slice lp ls.length lc]] w fun e w' => e = .returned (.tuple #[.string (bs (one5 op ++ tail5 1 ⟨op, a, b, lp, lc, ls⟩)), .bool true]) ∧ Below w.heap.size w w' := by
  have cR := fun W (hW : Below w.heap.size w W) => ref_right op a b lp ls.length lc ls rfl hx.2.1 W (hx.1.below hW (Nat.le_refl _))
  have hr' : rightOf (byCode op) op a b ls = true := hr
  rw [hr'] at cR
  have cO := fun W => of_some hby W
  rw [hsh] at cO
  have hop : 0 ≤ op ∧ op ≤ 255 := by
    have h1 := byCode_bd hby
    have h2 : r.code = op := by have := List.find?_some hby; simpa using this
    omega
  have c1 := fun W => ref5_one op (by omega) (by omega) W
  have hal := fun o => (Below.refl w.heap.size w).alloc (Nat.le_refl _) o
  have hb1' : (bs (one5 op)).size ≤ 1 := by rw [bs_size]; exact Nat.le_refl _
  have c4 := fun W => ref5_one a (by omega) (by omega) W
  have s4 : ¬ 9223372036854775807 < (bs (one5 op)).size + (bs (one5 a)).size := by rw [bs_size, bs_size]; show ¬ _ < 1 + 1; omega
  have he : bs (one5 op) ++ bs (one5 a) = bs (one5 op ++ tail5 1 ⟨op, a, b, lp, lc, ls⟩) := by
    rw [bs_app]; rfl
  generalize ls.length = ln at *
  clear hx hr hr'
  go_enter Tryz.func37, Tryz.ntmps37
  go_wp2_with (first
    | (go_at_call 124; refine (cR _ (hal _)).mono ?_; rintro e w1 ⟨rfl, hb1⟩; obtain ⟨q0, q1, q2, q3, hB1⟩ := box_ins hb1; clear hb1)
    | (go_at_call 125; refine (cO _).mono ?_; rintro e w2 ⟨rfl, hb2⟩; have hB2 := hB1.trans (hb2.mono hB1.size); have hlt := lt_cell (cell_belowE q0 hb2); have k0 := fun o => (World.cell?_alloc_lt w2 o (⟨w.heap.size, 0, none⟩ : Addr) hlt).trans (cell_belowE q0 hb2); have k1 := fun o => (World.cell?_alloc_lt w2 o (⟨w.heap.size, 1, none⟩ : Addr) hlt).trans (cell_belowE q1 hb2); have k2 := fun o => (World.cell?_alloc_lt w2 o (⟨w.heap.size, 2, none⟩ : Addr) hlt).trans (cell_belowE q2 hb2); have k3 := fun o => (World.cell?_alloc_lt w2 o (⟨w.heap.size, 3, none⟩ : Addr) hlt).trans (cell_belowE q3 hb2); clear q0 q1 q2 q3)
    | (go_at_call 39; refine (c1 _).mono ?_; rintro e w3 ⟨rfl, hb3⟩; have q0 := cell_belowE (k0 _) hb3; have q1 := cell_belowE (k1 _) hb3; have q2 := cell_belowE (k2 _) hb3; have q3 := cell_belowE (k3 _) hb3; obtain ⟨_, i1, _, _, hB23⟩ := box_ins hb3; have hB3 := hB2.trans (hB23.mono hB2.size); clear k0 k1 k2 k3)
    | (go_at_call 39; refine (c4 _).mono ?_; rintro e w4 ⟨rfl, hb4⟩; have hB4 := hB3.trans (hb4.mono hB3.size); have p0 := cell_belowE q0 hb4; have p1 := cell_belowE q1 hb4; have p2 := cell_belowE q2 hb4; have p3 := cell_belowE q3 hb4; clear q0 q1 q2 q3; have q0 := p0; have q1 := p1; have q2 := p2; have q3 := p3; clear p0 p1 p2 p3))
  go_ret2
  exact ⟨by rw [← he]; rfl, hB4⟩
set_option maxRecDepth 100000 in
set_option maxHeartbeats 4000000 in
theorem ref5_ins_2 (op a b : Int) (lp : Option Addr) (lc : Nat) (ls : List Int) (w : World) (hx : InsAt w ⟨op, a, b, lp, lc, ls⟩) (hr : rightIns ⟨op, a, b, lp, lc, ls⟩ = true) (r : Rw) (hby : byCode op = some r) (hsh : r.shape = 2) (ha : 0 ≤ a ∧ a < 4294967296) :
    Calls Tryz.prog 37 #[.agg #[.int .i64 op, .int .i64 a, .int .i64 b, .slice lp ls.length lc]] w fun e w' => e = .returned (.tuple #[.string (bs (one5 op ++ tail5 2 ⟨op, a, b, lp, lc, ls⟩)), .bool true]) ∧ Below w.heap.size w w' := by
  have cR := fun W (hW : Below w.heap.size w W) => ref_right op a b lp ls.length lc ls rfl hx.2.1 W (hx.1.below hW (Nat.le_refl _))
  have hr' : rightOf (byCode op) op a b ls = true := hr
  rw [hr'] at cR
  have cO := fun W => of_some hby W
  rw [hsh] at cO
  have hop : 0 ≤ op ∧ op ≤ 255 := by
    have h1 := byCode_bd hby
    have h2 : r.code = op := by have := List.find?_some hby; simpa using this
    omega
  have c1 := fun W => ref5_one op (by omega) (by omega) W
  have hal := fun o => (Below.refl w.heap.size w).alloc (Nat.le_refl _) o
  have hb1' : (bs (one5 op)).size ≤ 1 := by rw [bs_size]; exact Nat.le_refl _
  have c4 := fun W => ref5_num a (by omega) (by omega) W
  have hl := putU_small (n := a) (by omega) (by omega)
  have s4 : ¬ 9223372036854775807 < (bs (one5 op)).size + (bs (putU a)).size := by rw [bs_size, bs_size]; show ¬ _ < 1 + _; omega
  have he : bs (one5 op) ++ bs (putU a) = bs (one5 op ++ tail5 2 ⟨op, a, b, lp, lc, ls⟩) := by
    rw [bs_app]; rfl
  generalize ls.length = ln at *
  clear hx hr hr'
  go_enter Tryz.func37, Tryz.ntmps37
  go_wp2_with (first
    | (go_at_call 124; refine (cR _ (hal _)).mono ?_; rintro e w1 ⟨rfl, hb1⟩; obtain ⟨q0, q1, q2, q3, hB1⟩ := box_ins hb1; clear hb1)
    | (go_at_call 125; refine (cO _).mono ?_; rintro e w2 ⟨rfl, hb2⟩; have hB2 := hB1.trans (hb2.mono hB1.size); have hlt := lt_cell (cell_belowE q0 hb2); have k0 := fun o => (World.cell?_alloc_lt w2 o (⟨w.heap.size, 0, none⟩ : Addr) hlt).trans (cell_belowE q0 hb2); have k1 := fun o => (World.cell?_alloc_lt w2 o (⟨w.heap.size, 1, none⟩ : Addr) hlt).trans (cell_belowE q1 hb2); have k2 := fun o => (World.cell?_alloc_lt w2 o (⟨w.heap.size, 2, none⟩ : Addr) hlt).trans (cell_belowE q2 hb2); have k3 := fun o => (World.cell?_alloc_lt w2 o (⟨w.heap.size, 3, none⟩ : Addr) hlt).trans (cell_belowE q3 hb2); clear q0 q1 q2 q3)
    | (go_at_call 39; refine (c1 _).mono ?_; rintro e w3 ⟨rfl, hb3⟩; have q0 := cell_belowE (k0 _) hb3; have q1 := cell_belowE (k1 _) hb3; have q2 := cell_belowE (k2 _) hb3; have q3 := cell_belowE (k3 _) hb3; obtain ⟨_, i1, _, _, hB23⟩ := box_ins hb3; have hB3 := hB2.trans (hB23.mono hB2.size); clear k0 k1 k2 k3)
    | (go_at_call 36; refine (c4 _).mono ?_; rintro e w4 ⟨rfl, hb4⟩; have hB4 := hB3.trans (hb4.mono hB3.size); have p0 := cell_belowE q0 hb4; have p1 := cell_belowE q1 hb4; have p2 := cell_belowE q2 hb4; have p3 := cell_belowE q3 hb4; clear q0 q1 q2 q3; have q0 := p0; have q1 := p1; have q2 := p2; have q3 := p3; clear p0 p1 p2 p3))
  go_ret2
  exact ⟨by rw [← he]; rfl, hB4⟩
set_option maxRecDepth 100000 in
set_option maxHeartbeats 4000000 in
theorem ref5_ins_4 (op a b : Int) (lp : Option Addr) (lc : Nat) (ls : List Int) (w : World) (hx : InsAt w ⟨op, a, b, lp, lc, ls⟩) (hr : rightIns ⟨op, a, b, lp, lc, ls⟩ = true) (r : Rw) (hby : byCode op = some r) (hsh : r.shape = 4) (ha : 0 ≤ a ∧ a < 4294967296) :
    Calls Tryz.prog 37 #[.agg #[.int .i64 op, .int .i64 a, .int .i64 b, .slice lp ls.length lc]] w fun e w' => e = .returned (.tuple #[.string (bs (one5 op ++ tail5 4 ⟨op, a, b, lp, lc, ls⟩)), .bool true]) ∧ Below w.heap.size w w' := by
  have cR := fun W (hW : Below w.heap.size w W) => ref_right op a b lp ls.length lc ls rfl hx.2.1 W (hx.1.below hW (Nat.le_refl _))
  have hr' : rightOf (byCode op) op a b ls = true := hr
  rw [hr'] at cR
  have cO := fun W => of_some hby W
  rw [hsh] at cO
  have hop : 0 ≤ op ∧ op ≤ 255 := by
    have h1 := byCode_bd hby
    have h2 : r.code = op := by have := List.find?_some hby; simpa using this
    omega
  have c1 := fun W => ref5_one op (by omega) (by omega) W
  have hal := fun o => (Below.refl w.heap.size w).alloc (Nat.le_refl _) o
  have hb1' : (bs (one5 op)).size ≤ 1 := by rw [bs_size]; exact Nat.le_refl _
  have c4 := fun W => ref5_num a (by omega) (by omega) W
  have hl := putU_small (n := a) (by omega) (by omega)
  have s4 : ¬ 9223372036854775807 < (bs (one5 op)).size + (bs (putU a)).size := by rw [bs_size, bs_size]; show ¬ _ < 1 + _; omega
  have he : bs (one5 op) ++ bs (putU a) = bs (one5 op ++ tail5 4 ⟨op, a, b, lp, lc, ls⟩) := by
    rw [bs_app]; rfl
  generalize ls.length = ln at *
  clear hx hr hr'
  go_enter Tryz.func37, Tryz.ntmps37
  go_wp2_with (first
    | (go_at_call 124; refine (cR _ (hal _)).mono ?_; rintro e w1 ⟨rfl, hb1⟩; obtain ⟨q0, q1, q2, q3, hB1⟩ := box_ins hb1; clear hb1)
    | (go_at_call 125; refine (cO _).mono ?_; rintro e w2 ⟨rfl, hb2⟩; have hB2 := hB1.trans (hb2.mono hB1.size); have hlt := lt_cell (cell_belowE q0 hb2); have k0 := fun o => (World.cell?_alloc_lt w2 o (⟨w.heap.size, 0, none⟩ : Addr) hlt).trans (cell_belowE q0 hb2); have k1 := fun o => (World.cell?_alloc_lt w2 o (⟨w.heap.size, 1, none⟩ : Addr) hlt).trans (cell_belowE q1 hb2); have k2 := fun o => (World.cell?_alloc_lt w2 o (⟨w.heap.size, 2, none⟩ : Addr) hlt).trans (cell_belowE q2 hb2); have k3 := fun o => (World.cell?_alloc_lt w2 o (⟨w.heap.size, 3, none⟩ : Addr) hlt).trans (cell_belowE q3 hb2); clear q0 q1 q2 q3)
    | (go_at_call 39; refine (c1 _).mono ?_; rintro e w3 ⟨rfl, hb3⟩; have q0 := cell_belowE (k0 _) hb3; have q1 := cell_belowE (k1 _) hb3; have q2 := cell_belowE (k2 _) hb3; have q3 := cell_belowE (k3 _) hb3; obtain ⟨_, i1, _, _, hB23⟩ := box_ins hb3; have hB3 := hB2.trans (hB23.mono hB2.size); clear k0 k1 k2 k3)
    | (go_at_call 36; refine (c4 _).mono ?_; rintro e w4 ⟨rfl, hb4⟩; have hB4 := hB3.trans (hb4.mono hB3.size); have p0 := cell_belowE q0 hb4; have p1 := cell_belowE q1 hb4; have p2 := cell_belowE q2 hb4; have p3 := cell_belowE q3 hb4; clear q0 q1 q2 q3; have q0 := p0; have q1 := p1; have q2 := p2; have q3 := p3; clear p0 p1 p2 p3))
  go_ret2
  exact ⟨by rw [← he]; rfl, hB4⟩
set_option maxRecDepth 100000 in
set_option maxHeartbeats 4000000 in
theorem ref5_ins_5 (op a b : Int) (lp : Option Addr) (lc : Nat) (ls : List Int) (w : World) (hx : InsAt w ⟨op, a, b, lp, lc, ls⟩) (hr : rightIns ⟨op, a, b, lp, lc, ls⟩ = true) (r : Rw) (hby : byCode op = some r) (hsh : r.shape = 5) (ha : 0 ≤ a ∧ a < 4294967296) (hb : 0 ≤ b ∧ b < 4294967296) :
    Calls Tryz.prog 37 #[.agg #[.int .i64 op, .int .i64 a, .int .i64 b, .slice lp ls.length lc]] w fun e w' => e = .returned (.tuple #[.string (bs (one5 op ++ tail5 5 ⟨op, a, b, lp, lc, ls⟩)), .bool true]) ∧ Below w.heap.size w w' := by
  have cR := fun W (hW : Below w.heap.size w W) => ref_right op a b lp ls.length lc ls rfl hx.2.1 W (hx.1.below hW (Nat.le_refl _))
  have hr' : rightOf (byCode op) op a b ls = true := hr
  rw [hr'] at cR
  have cO := fun W => of_some hby W
  rw [hsh] at cO
  have hop : 0 ≤ op ∧ op ≤ 255 := by
    have h1 := byCode_bd hby
    have h2 : r.code = op := by have := List.find?_some hby; simpa using this
    omega
  have c1 := fun W => ref5_one op (by omega) (by omega) W
  have hal := fun o => (Below.refl w.heap.size w).alloc (Nat.le_refl _) o
  have hb1' : (bs (one5 op)).size ≤ 1 := by rw [bs_size]; exact Nat.le_refl _
  have c4 := fun W => ref5_num a (by omega) (by omega) W
  have c5 := fun W => ref5_num b (by omega) (by omega) W
  have hl := putU_small (n := a) (by omega) (by omega)
  have hl2 := putU_small (n := b) (by omega) (by omega)
  have s4 : ¬ 9223372036854775807 < (bs (one5 op)).size + (bs (putU a)).size := by rw [bs_size, bs_size]; show ¬ _ < 1 + _; omega
  have s5 : ¬ 9223372036854775807 < (bs (one5 op)).size + (bs (putU a)).size + (bs (putU b)).size := by rw [bs_size, bs_size, bs_size]; show ¬ _ < 1 + _ + _; omega
  have he : bs (one5 op) ++ bs (putU a) ++ bs (putU b) = bs (one5 op ++ tail5 5 ⟨op, a, b, lp, lc, ls⟩) := by
    rw [bs_app, bs_app, List.append_assoc]; rfl
  generalize ls.length = ln at *
  clear hx hr hr'
  go_enter Tryz.func37, Tryz.ntmps37
  go_wp2_with (first
    | (go_at_call 124; refine (cR _ (hal _)).mono ?_; rintro e w1 ⟨rfl, hb1⟩; obtain ⟨q0, q1, q2, q3, hB1⟩ := box_ins hb1; clear hb1)
    | (go_at_call 125; refine (cO _).mono ?_; rintro e w2 ⟨rfl, hb2⟩; have hB2 := hB1.trans (hb2.mono hB1.size); have hlt := lt_cell (cell_belowE q0 hb2); have k0 := fun o => (World.cell?_alloc_lt w2 o (⟨w.heap.size, 0, none⟩ : Addr) hlt).trans (cell_belowE q0 hb2); have k1 := fun o => (World.cell?_alloc_lt w2 o (⟨w.heap.size, 1, none⟩ : Addr) hlt).trans (cell_belowE q1 hb2); have k2 := fun o => (World.cell?_alloc_lt w2 o (⟨w.heap.size, 2, none⟩ : Addr) hlt).trans (cell_belowE q2 hb2); have k3 := fun o => (World.cell?_alloc_lt w2 o (⟨w.heap.size, 3, none⟩ : Addr) hlt).trans (cell_belowE q3 hb2); clear q0 q1 q2 q3)
    | (go_at_call 39; refine (c1 _).mono ?_; rintro e w3 ⟨rfl, hb3⟩; have q0 := cell_belowE (k0 _) hb3; have q1 := cell_belowE (k1 _) hb3; have q2 := cell_belowE (k2 _) hb3; have q3 := cell_belowE (k3 _) hb3; obtain ⟨_, i1, _, _, hB23⟩ := box_ins hb3; have hB3 := hB2.trans (hB23.mono hB2.size); clear k0 k1 k2 k3))
  have hBd := hB3.drew
  go_region_held3 (fun W => W.cell? ⟨w.heap.size, 1, none⟩ = some (.int .i64 a) ∧ W.cell? ⟨w.heap.size, 2, none⟩ = some (.int .i64 b))
    (first | (with_reducible exact keep_2 hb5 (by assumption)) | (with_reducible exact keep_2 hb4 (by assumption)) | go_keep)
    (first
      | (go_at_call 36; (with_reducible refine (c4 _).mono ?_); rintro e w4 ⟨rfl, hb4⟩; have hB4 := hBd.trans (hb4.mono hBd.size))
      | (go_at_call 36; (with_reducible refine (c5 _).mono ?_); rintro e w5 ⟨rfl, hb5⟩; have hB5 := hB4.trans (hb5.mono hB4.size)))
  all_goals
    go_wp2
    go_ret2
    exact ⟨by rw [← he]; rfl, hB5⟩
set_option maxRecDepth 100000 in
set_option maxHeartbeats 4000000 in
theorem ref5_ins_6 (op a b : Int) (lp : Option Addr) (lc : Nat) (ls : List Int) (w : World) (hx : InsAt w ⟨op, a, b, lp, lc, ls⟩) (hr : rightIns ⟨op, a, b, lp, lc, ls⟩ = true) (r : Rw) (hby : byCode op = some r) (hsh : r.shape = 6) :
    Calls Tryz.prog 37 #[.agg #[.int .i64 op, .int .i64 a, .int .i64 b, .slice lp ls.length lc]] w fun e w' => e = .returned (.tuple #[.string (bs (one5 op ++ tail5 6 ⟨op, a, b, lp, lc, ls⟩)), .bool true]) ∧ Below w.heap.size w w' := by
  have cR := fun W (hW : Below w.heap.size w W) => ref_right op a b lp ls.length lc ls rfl hx.2.1 W (hx.1.below hW (Nat.le_refl _))
  have hr' : rightOf (byCode op) op a b ls = true := hr
  rw [hr'] at cR
  have cO := fun W => of_some hby W
  rw [hsh] at cO
  have hop : 0 ≤ op ∧ op ≤ 255 := by
    have h1 := byCode_bd hby
    have h2 : r.code = op := by have := List.find?_some hby; simpa using this
    omega
  have c1 := fun W => ref5_one op (by omega) (by omega) W
  have hal := fun o => (Below.refl w.heap.size w).alloc (Nat.le_refl _) o
  have s6 : ¬ 9223372036854775807 < (bs (one5 op)).size + 1 := by rw [bs_size]; show ¬ _ < 1 + 1; omega
  have hb1' : (bs (one5 op)).size ≤ 1 := by rw [bs_size]; exact Nat.le_refl _

  have he : bs (one5 op) ++ (⟨#[0]⟩ : ByteArray) = bs (one5 op ++ tail5 6 ⟨op, a, b, lp, lc, ls⟩) := by
    rw [show (⟨#[0]⟩ : ByteArray) = bs [0] from rfl, bs_app]; rfl
  generalize ls.length = ln at *
  clear hx hr hr'
  go_enter Tryz.func37, Tryz.ntmps37
  go_wp2_with (first
    | (go_at_call 124; refine (cR _ (hal _)).mono ?_; rintro e w1 ⟨rfl, hb1⟩; obtain ⟨q0, q1, q2, q3, hB1⟩ := box_ins hb1; clear hb1)
    | (go_at_call 125; refine (cO _).mono ?_; rintro e w2 ⟨rfl, hb2⟩; have hB2 := hB1.trans (hb2.mono hB1.size); have hlt := lt_cell (cell_belowE q0 hb2); have k0 := fun o => (World.cell?_alloc_lt w2 o (⟨w.heap.size, 0, none⟩ : Addr) hlt).trans (cell_belowE q0 hb2); have k1 := fun o => (World.cell?_alloc_lt w2 o (⟨w.heap.size, 1, none⟩ : Addr) hlt).trans (cell_belowE q1 hb2); have k2 := fun o => (World.cell?_alloc_lt w2 o (⟨w.heap.size, 2, none⟩ : Addr) hlt).trans (cell_belowE q2 hb2); have k3 := fun o => (World.cell?_alloc_lt w2 o (⟨w.heap.size, 3, none⟩ : Addr) hlt).trans (cell_belowE q3 hb2); clear q0 q1 q2 q3)
    | (go_at_call 39; refine (c1 _).mono ?_; rintro e w3 ⟨rfl, hb3⟩; have q0 := cell_belowE (k0 _) hb3; have q1 := cell_belowE (k1 _) hb3; have q2 := cell_belowE (k2 _) hb3; have q3 := cell_belowE (k3 _) hb3; obtain ⟨_, i1, _, _, hB23⟩ := box_ins hb3; have hB3 := hB2.trans (hB23.mono hB2.size); clear k0 k1 k2 k3))
  go_ret2
  exact ⟨by rw [← he]; rfl, hB3⟩
set_option maxRecDepth 100000 in
set_option maxHeartbeats 4000000 in
theorem ref5_ins_7 (op a b : Int) (lp : Option Addr) (lc : Nat) (ls : List Int) (w : World) (hx : InsAt w ⟨op, a, b, lp, lc, ls⟩) (hr : rightIns ⟨op, a, b, lp, lc, ls⟩ = true) (r : Rw) (hby : byCode op = some r) (hsh : r.shape = 7) (ha : -9223372036854775808 ≤ a ∧ a ≤ 9223372036854775807) :
    Calls Tryz.prog 37 #[.agg #[.int .i64 op, .int .i64 a, .int .i64 b, .slice lp ls.length lc]] w fun e w' => e = .returned (.tuple #[.string (bs (one5 op ++ tail5 7 ⟨op, a, b, lp, lc, ls⟩)), .bool true]) ∧ Below w.heap.size w w' := by
  have cR := fun W (hW : Below w.heap.size w W) => ref_right op a b lp ls.length lc ls rfl hx.2.1 W (hx.1.below hW (Nat.le_refl _))
  have hr' : rightOf (byCode op) op a b ls = true := hr
  rw [hr'] at cR
  have cO := fun W => of_some hby W
  rw [hsh] at cO
  have hop : 0 ≤ op ∧ op ≤ 255 := by
    have h1 := byCode_bd hby
    have h2 : r.code = op := by have := List.find?_some hby; simpa using this
    omega
  have c1 := fun W => ref5_one op (by omega) (by omega) W
  have hal := fun o => (Below.refl w.heap.size w).alloc (Nat.le_refl _) o
  have hb1' : (bs (one5 op)).size ≤ 1 := by rw [bs_size]; exact Nat.le_refl _
  have c4 : ∀ W, Calls Tryz.prog 126 #[.int .i64 a] W fun e w' => e = .returned (.string (bs (putS a))) ∧ Below W.heap.size W w' := fun W => ref_put_s a ha.1 ha.2 W
  have hl := putS_len10 ha.1 ha.2
  have s4 : ¬ 9223372036854775807 < (bs (one5 op)).size + (bs (putS a)).size := by rw [bs_size, bs_size]; show ¬ _ < 1 + _; omega
  have he : bs (one5 op) ++ bs (putS a) = bs (one5 op ++ tail5 7 ⟨op, a, b, lp, lc, ls⟩) := by
    rw [bs_app]; rfl
  generalize ls.length = ln at *
  clear hx hr hr'
  go_enter Tryz.func37, Tryz.ntmps37
  go_wp2_with (first
    | (go_at_call 124; refine (cR _ (hal _)).mono ?_; rintro e w1 ⟨rfl, hb1⟩; obtain ⟨q0, q1, q2, q3, hB1⟩ := box_ins hb1; clear hb1)
    | (go_at_call 125; refine (cO _).mono ?_; rintro e w2 ⟨rfl, hb2⟩; have hB2 := hB1.trans (hb2.mono hB1.size); have hlt := lt_cell (cell_belowE q0 hb2); have k0 := fun o => (World.cell?_alloc_lt w2 o (⟨w.heap.size, 0, none⟩ : Addr) hlt).trans (cell_belowE q0 hb2); have k1 := fun o => (World.cell?_alloc_lt w2 o (⟨w.heap.size, 1, none⟩ : Addr) hlt).trans (cell_belowE q1 hb2); have k2 := fun o => (World.cell?_alloc_lt w2 o (⟨w.heap.size, 2, none⟩ : Addr) hlt).trans (cell_belowE q2 hb2); have k3 := fun o => (World.cell?_alloc_lt w2 o (⟨w.heap.size, 3, none⟩ : Addr) hlt).trans (cell_belowE q3 hb2); clear q0 q1 q2 q3)
    | (go_at_call 39; refine (c1 _).mono ?_; rintro e w3 ⟨rfl, hb3⟩; have q0 := cell_belowE (k0 _) hb3; have q1 := cell_belowE (k1 _) hb3; have q2 := cell_belowE (k2 _) hb3; have q3 := cell_belowE (k3 _) hb3; obtain ⟨_, i1, _, _, hB23⟩ := box_ins hb3; have hB3 := hB2.trans (hB23.mono hB2.size); clear k0 k1 k2 k3)
    | (go_at_call 126; refine (c4 _).mono ?_; rintro e w4 ⟨rfl, hb4⟩; have hB4 := hB3.trans (hb4.mono hB3.size); have p0 := cell_belowE q0 hb4; have p1 := cell_belowE q1 hb4; have p2 := cell_belowE q2 hb4; have p3 := cell_belowE q3 hb4; clear q0 q1 q2 q3; have q0 := p0; have q1 := p1; have q2 := p2; have q3 := p3; clear p0 p1 p2 p3))
  go_ret2
  exact ⟨by rw [← he]; rfl, hB4⟩
end Go.Proofs.YtpamchagidnijaaGreatDoor

namespace Go.Proofs.YtpamchagidnijaaGreatDoor
open Go.RowKit
set_option linter.unusedVariables false

set_option maxRecDepth 100000 in
set_option maxHeartbeats 4000000 in
theorem ref5_ins_3 (op a b : Int) (lp : Option Addr) (lc : Nat) (ls : List Int) (w : World) (hx : InsAt w ⟨op, a, b, lp, lc, ls⟩) (hr : rightIns ⟨op, a, b, lp, lc, ls⟩ = true) (r : Rw) (hby : byCode op = some r) (hsh : r.shape = 3) (ha : 0 ≤ a ∧ a < 4294967296) (hls : ∀ n ∈ ls, 0 ≤ n ∧ n < 4294967296) (hll : ls.length ≤ 4096) :
    Calls Tryz.prog 37 #[.agg #[.int .i64 op, .int .i64 a, .int .i64 b, .slice lp ls.length lc]] w fun e w' => e = .returned (.tuple #[.string (bs (one5 op ++ tail5 3 ⟨op, a, b, lp, lc, ls⟩)), .bool true]) ∧ Below w.heap.size w w' := by
  have cR := fun W (hW : Below w.heap.size w W) => ref_right op a b lp ls.length lc ls rfl hx.2.1 W (hx.1.below hW (Nat.le_refl _))
  have hr' : rightOf (byCode op) op a b ls = true := hr
  rw [hr'] at cR
  have cO := fun W => of_some hby W
  rw [hsh] at cO
  have hop : 0 ≤ op ∧ op ≤ 255 := by
    have h1 := byCode_bd hby
    have h2 : r.code = op := by have := List.find?_some hby; simpa using this
    omega
  have c1 := fun W => ref5_one op (by omega) (by omega) W
  have hal := fun o => (Below.refl w.heap.size w).alloc (Nat.le_refl _) o
  have hb1' : (bs (one5 op)).size ≤ 1 := by rw [bs_size]; exact Nat.le_refl _
  have hints := hx.1
  obtain ⟨n, hn⟩ : ∃ n, ls.length = n := ⟨_, rfl⟩
  rw [hn] at hll cR ⊢
  have HN := Lib.hid hn
  have c4 := fun W => ref5_num n (by omega) (by omega) W
  have c6 := fun W => ref5_num a (by omega) (by omega) W
  have hl := putU_small (n := (n : Int)) (by omega) (by omega)
  have hl2 := putU_small (n := a) (by omega) (by omega)
  have s4 : ¬ 9223372036854775807 < (bs (one5 op)).size + (bs (putU n)).size := by rw [bs_size, bs_size]; show ¬ _ < 1 + _; omega
  clear hx hr hr' hn
  go_enter Tryz.func37, Tryz.ntmps37
  go_wp2_with (first
    | (go_at_call 124; refine (cR _ (hal _)).mono ?_; rintro e w1 ⟨rfl, hb1⟩; obtain ⟨q0, q1, q2, q3, hB1⟩ := box_ins hb1; clear hb1)
    | (go_at_call 125; refine (cO _).mono ?_; rintro e w2 ⟨rfl, hb2⟩; have hB2 := hB1.trans (hb2.mono hB1.size); have hlt := lt_cell (cell_belowE q0 hb2); have k0 := fun o => (World.cell?_alloc_lt w2 o (⟨w.heap.size, 0, none⟩ : Addr) hlt).trans (cell_belowE q0 hb2); have k1 := fun o => (World.cell?_alloc_lt w2 o (⟨w.heap.size, 1, none⟩ : Addr) hlt).trans (cell_belowE q1 hb2); have k2 := fun o => (World.cell?_alloc_lt w2 o (⟨w.heap.size, 2, none⟩ : Addr) hlt).trans (cell_belowE q2 hb2); have k3 := fun o => (World.cell?_alloc_lt w2 o (⟨w.heap.size, 3, none⟩ : Addr) hlt).trans (cell_belowE q3 hb2); clear q0 q1 q2 q3)
    | (go_at_call 39; refine (c1 _).mono ?_; rintro e w3 ⟨rfl, hb3⟩; have q1 := cell_belowE (k1 _) hb3; have q3 := cell_belowE (k3 _) hb3; obtain ⟨_, i1, _, _, hB23⟩ := box_ins hb3; have hB3 := hB2.trans (hB23.mono hB2.size); clear k0 k1 k2 k3)
    | (go_at_call 36; refine (c4 _).mono ?_; rintro e w4 ⟨rfl, hb4⟩; have hB4 := hB3.trans (hb4.mono hB3.size); have p1 := cell_belowE q1 hb4; have p3 := cell_belowE q3 hb4; clear q1 q3 i1))
  go_loopw [7, 8] (fun s i wr => ∃ (k : Nat) (d : List UInt8), k ≤ n ∧ i = .int .i64 k ∧ s = .string (bs d) ∧ d.length ≤ 6 + 5 * k ∧ Hid (d = one5 op ++ putU n ++ (ls.take k).flatMap putU) ∧ Below w.heap.size w wr ∧ wr.cell? ⟨w.heap.size, 1, none⟩ = some (.int .i64 a) ∧ wr.cell? ⟨w.heap.size, 3, none⟩ = some (.slice lp n lc)) (fun _ i _ => n - (intOf i).toNat)
  case atStart => exact ⟨0, one5 op ++ putU n, by omega, rfl, by rw [bs_app], by rw [List.length_append]; show 1 + _ ≤ _; omega, Lib.hid (by simp), hB4, p1, p3⟩
  case round =>
    clear p1 p3 hB4 hb4 c1 c4 s4 hl hb1'
    obtain ⟨k, d, hk, rfl, rfl, hd, HD, hB, p1, p3⟩ := hrel
    by_cases hlt : k < n
    · have hle : k < ls.length := by have := HN.out; omega
      have hr := hints.below hB (Nat.le_refl _)
      obtain ⟨lb, lo, hp1, hb1, e0⟩ := hr k hle
      subst hp1
      have hx := hls _ (List.getElem_mem hle)
      have hxm : ls.take (k + 1) = ls.take k ++ [ls[k]] := List.take_succ_eq_append_getElem hle
      have HX := Lib.hid hxm
      clear hxm
      generalize ls[k] = x at *
      have c7 := fun W => ref5_num x (by omega) (by omega) W
      have hl3 := putU_small (n := x) (by omega) (by omega)
      have s7 : ¬ 9223372036854775807 < (bs d).size + (bs (putU x)).size := by rw [bs_size, bs_size]; omega
      clear hr hints hls HN
      go_wp2_with (go_at_call 36; refine (c7 _).mono ?_; rintro e w5 ⟨rfl, hb5⟩; have hB5 := hB.trans (hb5.mono hB.size); have q1 := cell_belowE p1 hb5; have q3 := cell_belowE p3 hb5)
      go_roundw
      case rel => exact ⟨k + 1, d ++ putU x, by omega, by simp, by rw [bs_app], by rw [List.length_append]; omega, Lib.hid (by rw [HD.out, HX.out, List.flatMap_append]; simp), hB5, q1, q3⟩
      case measure => simp [intOf]; omega
    · obtain rfl : k = n := by omega
      have s8 : ¬ 9223372036854775807 < (bs d).size + (bs (putU a)).size := by rw [bs_size, bs_size]; omega
      have he : bs d ++ bs (putU a) = bs (one5 op ++ tail5 3 ⟨op, a, b, lp, lc, ls⟩) := by
        rw [bs_app, HD.out]
        unfold tail5
        simp [← HN.out]
      clear hints hls HN HD
      have hBd := hB.drew
      go_wp2_with (go_at_call 36; refine (c6 _).mono ?_; rintro e w6 ⟨rfl, hb6⟩; have hB6 := hB.trans (hb6.mono hB.size))
      go_ret2
      exact ⟨by rw [← he]; rfl, hB6⟩
theorem ref5_ins (x : InsV) (w : World) (hx : InsAt w x) :
    Calls Tryz.prog 37 #[x.val] w fun e w' => e = .returned (.tuple #[.string (bs (ins5 x)), .bool (rightIns x)]) ∧ Below w.heap.size w w' := by
  cases hr : rightIns x with
  | false => have := ref5_ins_not x w hx hr; rwa [hr] at this
  | true =>
    obtain ⟨op, a, b, lp, lc, ls⟩ := x
    have h0 : rightOf (byCode op) op a b ls = true := hr
    cases hby : byCode op with
    | none => rw [hby] at h0; cases h0
    | some r =>
      have hi : ins5 ⟨op, a, b, lp, lc, ls⟩ = one5 op ++ tail5 r.shape ⟨op, a, b, lp, lc, ls⟩ := by
        unfold ins5; simp only [hby]; rw [hr]; rfl
      rw [hi]
      rw [hby] at h0
      unfold rightOf at h0
      simp only at h0
      have hbd := byCode_bd hby
      have ha7 := hx.2.2.2.1
      unfold inI64 at ha7
      split at h0
      · cases h0
      · split at h0
        · cases h0
        · have h8 : r.shape = 0 ∨ r.shape = 1 ∨ r.shape = 2 ∨ r.shape = 3 ∨ r.shape = 4 ∨ r.shape = 5 ∨ r.shape = 6 ∨ r.shape = 7 := by omega
          rcases h8 with h | h | h | h | h | h | h | h
          all_goals rw [h] at h0 ⊢
          all_goals simp [word] at h0
          · exact ref5_ins_0 op a b lp lc ls w hx hr r hby h
          · exact ref5_ins_1 op a b lp lc ls w hx hr r hby h h0
          · exact ref5_ins_2 op a b lp lc ls w hx hr r hby h h0
          · exact ref5_ins_3 op a b lp lc ls w hx hr r hby h h0.2 h0.1.1 h0.1.2
          · exact ref5_ins_4 op a b lp lc ls w hx hr r hby h h0
          · exact ref5_ins_5 op a b lp lc ls w hx hr r hby h h0.1 h0.2
          · exact ref5_ins_6 op a b lp lc ls w hx hr r hby h
          · exact ref5_ins_7 op a b lp lc ls w hx hr r hby h ha7
end Go.Proofs.YtpamchagidnijaaGreatDoor
