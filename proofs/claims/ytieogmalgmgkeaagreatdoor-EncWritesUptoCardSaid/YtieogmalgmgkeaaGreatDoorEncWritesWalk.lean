/-
  The statement on what is written, walked; where no function's code, no name, no text is too long for any machine. Only its frame proves it.
-/
import Derived.Test.YtieogmalgmgkeaaGreatDoorDrawInv
import Derived.Test.YtieogmalgmgkeaaGreatDoorEncRefN
import Derived.Test.YtieogmalgmgkeaaGreatDoorModMadeAt
import Derived.Deep.Cut
namespace Go.Proofs.YtieogmalgmgkeaaGreatDoor
open Go.RowKit
set_option linter.unusedVariables false

theorem ref5_mod (m : MoV) (w : World) (hm : ModAt w m) (h5 : rightMod m = true → Mod5 m) :
    Calls Tryz.prog 10 #[m.val] w fun e w' => e = .returned (.tuple #[.string (bs (ans5 m).1), .int .i64 (ans5 m).2]) ∧ Below w.heap.size w w' := by
  cases hr : rightMod m with
  | true => exact ref5_mod_right m w hm (h5 hr)
  | false =>
    have hans : ans5 m = ([], 1) := by unfold ans5; rw [hr]; rfl
    rw [hans]
    exact ref5_mod_not m w hm hr
theorem made_mod5 {w : World} {lo H : Nat} {pc : Option Addr} {cc : Nat} {code : List PI} (h : MadeAt w lo H pc cc code 2 5 (-5) 0) : Mod5 (madeV H pc cc code 2 5 (-5) 0 (-1)) where
  right := by rw [h.rights]; decide
  code := fun f hf => by
    rw [List.mem_singleton.1 hf]
    have := h.most
    simp [madeF]
    omega
  names := fun t ht => by rw [List.mem_singleton.1 ht]; decide
  texts := fun t ht => by rw [List.mem_singleton.1 ht]; decide

theorem reads7 {w : World} {B : Nat} {u0 u1 u2 u3 u4 u5 u6 : Value} {t : TypeId} (h : w.heap[B]? = some (.cells #[u0, u1, u2, u3, u4, u5, u6] t)) :
    w.cell? ⟨B, 0, none⟩ = some u0 ∧ w.cell? ⟨B, 1, none⟩ = some u1 ∧ w.cell? ⟨B, 2, none⟩ = some u2 ∧ w.cell? ⟨B, 3, none⟩ = some u3 ∧ w.cell? ⟨B, 4, none⟩ = some u4 ∧ w.cell? ⟨B, 5, none⟩ = some u5 ∧ w.cell? ⟨B, 6, none⟩ = some u6 ∧
    w.frozen? ⟨B, 0, none⟩ = false ∧ w.frozen? ⟨B, 1, none⟩ = false ∧ w.frozen? ⟨B, 2, none⟩ = false ∧ w.frozen? ⟨B, 3, none⟩ = false ∧ w.frozen? ⟨B, 4, none⟩ = false ∧ w.frozen? ⟨B, 5, none⟩ = false ∧ w.frozen? ⟨B, 6, none⟩ = false := by
  have c : ∀ j, w.cell? ⟨B, j, none⟩ = (#[u0, u1, u2, u3, u4, u5, u6] : Array Value)[j]? := fun j => by rw [World.cell?, h]; rfl
  have f : ∀ j, w.frozen? ⟨B, j, none⟩ = false := fun j => by simp [World.frozen?, h]
  exact ⟨c 0, c 1, c 2, c 3, c 4, c 5, c 6, f 0, f 1, f 2, f 3, f 4, f 5, f 6⟩
theorem grown_t {a b c : World} {r : Option Nat} (h : a.grownBy b r) (k : b.grownBy c r) : a.grownBy c r := ⟨k.os.trans h.os, k.tape.trans h.tape, k.output.trans h.output, Nat.le_trans h.size k.size, fun i hi hr => (k.block i (Nat.lt_of_lt_of_le hi h.size) hr).trans (h.block i hi hr)⟩
theorem store7 {w : World} {B : Nat} {u0 u1 u2 u3 u4 u5 u6 : Value} (v0 v1 v2 v3 v4 v5 v6 : Value) {t : TypeId} (h : w.heap[B]? = some (.cells #[u0, u1, u2, u3, u4, u5, u6] t)) :
    (((((((w.setCell ⟨B, 0, none⟩ v0).setCell ⟨B, 1, none⟩ v1).setCell ⟨B, 2, none⟩ v2).setCell ⟨B, 3, none⟩ v3).setCell ⟨B, 4, none⟩ v4).setCell ⟨B, 5, none⟩ v5).setCell ⟨B, 6, none⟩ v6).heap[B]? = some (.cells #[v0, v1, v2, v3, v4, v5, v6] t) ∧
    w.grownBy (((((((w.setCell ⟨B, 0, none⟩ v0).setCell ⟨B, 1, none⟩ v1).setCell ⟨B, 2, none⟩ v2).setCell ⟨B, 3, none⟩ v3).setCell ⟨B, 4, none⟩ v4).setCell ⟨B, 5, none⟩ v5).setCell ⟨B, 6, none⟩ v6) (some B) := by
  have s : ∀ (w : World) (j : Nat) (cs : Array Value) (v : Value), w.heap[B]? = some (.cells cs t) → (w.setCell ⟨B, j, none⟩ v).heap[B]? = some (.cells (cs.setIfInBounds j v) t) := fun w j cs v h => by
    simp [World.setCell, Array.getElem?_modify, h]
  have h0 := s _ 0 #[u0, u1, u2, u3, u4, u5, u6] v0 h
  rw [show (#[u0, u1, u2, u3, u4, u5, u6] : Array Value).setIfInBounds 0 v0 = #[v0, u1, u2, u3, u4, u5, u6] from rfl] at h0
  have h1 := s _ 1 #[v0, u1, u2, u3, u4, u5, u6] v1 h0
  rw [show (#[v0, u1, u2, u3, u4, u5, u6] : Array Value).setIfInBounds 1 v1 = #[v0, v1, u2, u3, u4, u5, u6] from rfl] at h1
  have h2 := s _ 2 #[v0, v1, u2, u3, u4, u5, u6] v2 h1
  rw [show (#[v0, v1, u2, u3, u4, u5, u6] : Array Value).setIfInBounds 2 v2 = #[v0, v1, v2, u3, u4, u5, u6] from rfl] at h2
  have h3 := s _ 3 #[v0, v1, v2, u3, u4, u5, u6] v3 h2
  rw [show (#[v0, v1, v2, u3, u4, u5, u6] : Array Value).setIfInBounds 3 v3 = #[v0, v1, v2, v3, u4, u5, u6] from rfl] at h3
  have h4 := s _ 4 #[v0, v1, v2, v3, u4, u5, u6] v4 h3
  rw [show (#[v0, v1, v2, v3, u4, u5, u6] : Array Value).setIfInBounds 4 v4 = #[v0, v1, v2, v3, v4, u5, u6] from rfl] at h4
  have h5 := s _ 5 #[v0, v1, v2, v3, v4, u5, u6] v5 h4
  rw [show (#[v0, v1, v2, v3, v4, u5, u6] : Array Value).setIfInBounds 5 v5 = #[v0, v1, v2, v3, v4, v5, u6] from rfl] at h5
  have h6 := s _ 6 #[v0, v1, v2, v3, v4, v5, u6] v6 h5
  rw [show (#[v0, v1, v2, v3, v4, v5, u6] : Array Value).setIfInBounds 6 v6 = #[v0, v1, v2, v3, v4, v5, v6] from rfl] at h6
  exact ⟨h6, grown_t (grown_t (grown_t (grown_t (grown_t (grown_t (cell_grown _ _ _ _) (cell_grown _ _ _ _)) (cell_grown _ _ _ _)) (cell_grown _ _ _ _)) (cell_grown _ _ _ _)) (cell_grown _ _ _ _)) (cell_grown _ _ _ _)⟩
theorem box4 {w : World} {B : Nat} {u0 u1 u2 u3 : Value} {t : TypeId} (h : w.heap[B]? = some (.cells #[u0, u1, u2, u3] t)) : w.cell? ⟨B, 0, none⟩ = some u0 ∧ w.cell? ⟨B, 1, none⟩ = some u1 ∧ w.cell? ⟨B, 2, none⟩ = some u2 ∧ w.cell? ⟨B, 3, none⟩ = some u3 := by
  have c : ∀ j, w.cell? ⟨B, j, none⟩ = (#[u0, u1, u2, u3] : Array Value)[j]? := fun j => by rw [World.cell?, h]; rfl
  exact ⟨c 0, c 1, c 2, c 3⟩
theorem madeV_val5 (H : Nat) (pc : Option Addr) (cc : Nat) (code : List PI) (mx i0 i1 ix st : Int) : (madeV H pc cc code mx i0 i1 ix st).val = .agg #[.slice (some ⟨H, 0, none⟩) 1 1, .slice (some ⟨H + 1, 0, none⟩) 1 1, .slice (some ⟨H + 2, 0, none⟩) 1 1, .slice (some ⟨H + 3, 0, none⟩) 2 2, .slice (some ⟨H + 4, 0, none⟩) 1 1, .int .i64 st, .slice (some ⟨H + 5, 0, none⟩) 1 1] := rfl

set_option maxRecDepth 100000 in
set_option maxHeartbeats 8000000 in
theorem encWrites_walk (m : MoV) (own : Bool) (p : Option Addr) (c : Nat) (l : List StepV) (x : InsV) (w : World) (hLaid : Laid w) (hm : ModAt w m) (h5 : rightMod m = true → Mod5 m) (hS : StepsAt w p l) (hx : InsAt w x) :
    Calls Tryz.prog 3 #[m.val, .bool own, .slice p l.length c, x.val] w fun e w' => e = .returned (.bool true) ∧ Below w.heap.size w w' := by
  have cH := fun W (hW : Below w.heap.size w W) => head5 W (hLaid.below hW)
  have cM := fun W (hW : Below w.heap.size w W) => made_of p c l W (hS.below hW (Nat.le_refl _))
  have hB2 := fun o o' => ((Below.refl w.heap.size w).alloc (Nat.le_refl _) o).alloc (by simp) o'
  have hMV := hm
  clear hS
  generalize l.length = ln at *
  simp only [madeV_val5] at cM
  simp only [MoV.val, InsV.val]
  go_enter Tryz.func3, Tryz.ntmps3
  go_upto_if 21 with (go_at_call 7; refine (cH _ (hB2 _ _)).mono ?_; rintro e w1 ⟨rfl, hb1⟩)
  have h1 := hb1.block w.heap.size (by simp; omega)
  have h2 := hb1.block (w.heap.size + 1) (by simp)
  rw [(Below.heap_alloc _ _ _ (by simp)).trans (heap_alloc_new _ _)] at h1
  have hB1 : Below w.heap.size w w1 := (hB2 _ _).trans (hb1.mono (by simp; omega))
  have h2' : w1.heap[w.heap.size + 1]? = some (.cells #[.int .i64 x.op, .int .i64 x.a, .int .i64 x.b, .slice x.lp x.ls.length x.lc] 33) := h2.trans (by have := heap_alloc_new (w.alloc (.cells #[.slice m.tp m.types.length m.tc, .slice m.fp m.funcs.length m.fc, .slice m.mp m.memory.length m.mc, .slice m.gp m.globals.length m.gc, .slice m.ep m.exports.length m.ec, .int .i64 m.start, .slice m.dp m.data.length m.dc] 29)) (.cells #[.int .i64 x.op, .int .i64 x.a, .int .i64 x.b, .slice x.lp x.ls.length x.lc] 33); simpa using this)
  clear h2
  go_cut [4, 7, 9] from 18 (fun s4 s7 s9 W => s4 = .pointer (some ⟨w.heap.size, 0, none⟩) ∧ s7 = .pointer (some ⟨w.heap.size + 1, 0, none⟩) ∧ s9 = .bool true ∧ ∃ mv : MoV, W.heap[w.heap.size]? = some (.cells ⟨mv.cells⟩ 29) ∧ W.heap[w.heap.size + 1]? = some (.cells #[.int .i64 x.op, .int .i64 x.a, .int .i64 x.b, .slice x.lp x.ls.length x.lc] 33) ∧ ModAt W mv ∧ (rightMod mv = true → Mod5 mv) ∧ Below w.heap.size w W)
  case first =>
    cases own
    · go_wp2
      go_meet
      exact ⟨rfl, rfl, rfl, m, h1, h2', hm.below hB1 (Nat.le_refl _), h5, hB1⟩
    · go_wp2_with (go_at_call 8; refine (cM _ hB1).mono ?_; rintro e w2 ⟨H, pc, cc, code, rfl, hM, hne, hb2⟩; have g1 := (hb2.block _ (heap_in h1)).trans h1; obtain ⟨r0, r1, r2, r3, r4, r5, r6, f0, f1, f2, f3, f4, f5, f6⟩ := reads7 g1)
      go_meet
      have G := store7 (.slice (some ⟨H, 0, none⟩) 1 1) (.slice (some ⟨H + 1, 0, none⟩) 1 1) (.slice (some ⟨H + 2, 0, none⟩) 1 1) (.slice (some ⟨H + 3, 0, none⟩) 2 2) (.slice (some ⟨H + 4, 0, none⟩) 1 1) (.int .i64 (-1)) (.slice (some ⟨H + 5, 0, none⟩) 1 1) g1
      have hM3 := hM.on G.2 (.inl (by have := heap_in h1; omega))
      have hl2 := heap_in h2'
      exact ⟨rfl, rfl, rfl, madeV H pc cc code 2 5 (-5) 0 (-1), G.1, (G.2.block _ (by have := hb2.size; omega) (by simp)).trans ((hb2.block _ hl2).trans h2'), hM3.modAt ⟨by decide, by decide⟩ ⟨by decide, by decide⟩ ⟨by decide, by decide⟩ ⟨by decide, by decide⟩ ⟨by decide, by decide⟩, fun _ => made_mod5 hM3, (belt hB1 (Nat.le_refl _) hb2).grown G.2 (by have := hB1.size; have := hb2.size; omega) (fun g e => by injection e with e; omega)⟩
  case rest =>
    obtain ⟨rfl, rfl, rfl, mv, k1, k2, hmv, h5v, hB⟩ := hcut
    clear cH cM h1 h2' hB1 hb1 hB2 h5 hm hMV
    have hL := hLaid.below hB
    have hxv := hx.below hB (Nat.le_refl _)
    have cA := fun W (hW : Below wc.heap.size wc W) => enc_mod mv W (hL.below hW) (hmv.below hW (Nat.le_refl _))
    have cB := fun W (hW : Below wc.heap.size wc W) => ref5_mod mv W (hmv.below hW (Nat.le_refl _)) h5v
    have cC := fun W (hW : Below wc.heap.size wc W) => enc_instr x W (hL.below hW).spaces (hxv.below hW (Nat.le_refl _))
    have cD := fun W (hW : Below wc.heap.size wc W) => ref5_ins x W (hxv.below hW (Nat.le_refl _))
    have hk1 := fun {W : World} (hW : Below wc.heap.size wc W) => reads7 ((hW.block _ (heap_in k1)).trans k1)
    have hk2 := fun {W : World} (hW : Below wc.heap.size wc W) => box4 ((hW.block _ (heap_in k2)).trans k2)
    obtain ⟨r0, r1, r2, r3, r4, r5, r6, _⟩ := hk1 (Below.refl _ wc)
    obtain ⟨R, hR⟩ : ∃ R, R = ans5 mv := ⟨_, rfl⟩
    obtain ⟨R1, R2⟩ := R
    rw [← hR] at cA cB
    generalize ins5 x = T at *
    generalize rightIns x = ok at *
    simp only [MoV.val, InsV.val] at cA cB cC cD
    clear hR h5v hmv hx hxv k1 k2
    go_wp2_with (first
      | (go_at_call 9; (with_reducible refine (cA _ (Below.refl _ _)).mono ?_); rintro e w2 ⟨rfl, hb2⟩; obtain ⟨q0, q1, q2, q3, q4, q5, q6, _⟩ := hk1 hb2)
      | (go_at_call 10; (with_reducible refine (cB _ hb2).mono ?_); rintro e w3 ⟨rfl, hb3⟩; have hB3 := belt hb2 (Nat.le_refl _) hb3; obtain ⟨y0, y1, y2, y3⟩ := hk2 hB3)
      | (go_at_call 11; (with_reducible refine (cC _ hB3).mono ?_); rintro e w4 ⟨rfl, hb4⟩; have hB4 := belt hB3 (Nat.le_refl _) hb4; obtain ⟨z0, z1, z2, z3⟩ := hk2 hB4)
      | (go_at_call 12; (with_reducible refine (cD _ hB4).mono ?_); rintro e w5 ⟨rfl, hb5⟩; have hB5 := belt hB4 (Nat.le_refl _) hb5))
    go_ret
    exact ⟨rfl, hB.trans (hB5.mono hB.size)⟩
end Go.Proofs.YtieogmalgmgkeaaGreatDoor
