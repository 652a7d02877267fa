/-
  The document's own answer to chapter 5, walked: modules. Contracts that the proofs call; no statement is proved here.
-/
import Derived.Test.YtpamchagidnijaaGreatDoorEncRefI
import Derived.Test.YtpamchagidnijaaGreatDoorEncRefR
import Derived.Lib.AppendStr
import Derived.Test.YtpamchagidnijaaGreatDoorModRefMany
import Derived.Deep.RegionHeld3
namespace Go.Proofs.YtpamchagidnijaaGreatDoor
open Go.RowKit
set_option linter.unusedVariables false

set_option maxRecDepth 100000 in
set_option maxHeartbeats 4000000 in
theorem ref5_mod_not (m : MoV) (w : World) (hm : ModAt w m) (hr : rightMod m = false) :
    Calls Tryz.prog 14 #[m.val] w fun e w' => e = .returned (.tuple #[.string ⟨#[]⟩, .int .i64 1]) ∧ Below w.heap.size w w' := by
  have cR := fun W (hW : Below w.heap.size w W) => ref_rightMod m W (hm.below hW (Nat.le_refl _))
  rw [hr] at cR
  have hal := fun o => (Below.refl w.heap.size w).alloc (Nat.le_refl _) o
  clear hm hr
  obtain ⟨tp, tc, types, fp, fc, funcs, mp, mc, memory, gp, gc, globals, ep, ec, exports, start, dp, dc, data⟩ := m
  simp only [MoV.val] at *
  generalize types.length = nt at *
  generalize funcs.length = nf at *
  generalize memory.length = nm at *
  generalize globals.length = ng at *
  generalize exports.length = ne at *
  generalize data.length = nd at *
  go_enter Tryz.func14, Tryz.ntmps14
  go_wp2_with (go_at_call 34; refine (cR _ (hal _)).mono ?_; rintro e w1 ⟨rfl, hb1⟩)
  go_ret2
  exact ⟨rfl, (hal _).trans (hb1.mono (hal _).size)⟩
/-- What is asked of its sizes (chapter 5's own answer makes all of it in memory). -/
structure Mod5 (m : MoV) : Prop where
  right : rightMod m = true
  code : ∀ f ∈ m.funcs, f.code.length ≤ 1048576
  names : ∀ t ∈ m.exports, t.name.size ≤ 140737488351232
  texts : ∀ t ∈ m.data, t.bytes.size ≤ 140737488351232
theorem vtypes_len {l : List UInt8} {k : Int} (h : vtypes l k = true) : (l.length : Int) ≤ k := by
  unfold vtypes at h
  simp only [Bool.and_eq_true, decide_eq_true_eq] at h
  omega
theorem ty5_len {t : TyV} (h : rightTy t = true) : (ty5 t).length ≤ 4300 := by
  unfold rightTy at h
  simp only [Bool.and_eq_true] at h
  have h1 := vtypes_len h.1
  have h2 := vtypes_len h.2
  have h3 := txt5_len (s := t.params.data.toList) (by omega)
  have h4 := txt5_len (s := t.results.data.toList) (by omega)
  unfold ty5
  rw [List.length_append, List.length_append]
  show 1 + _ + _ ≤ _
  omega
theorem ins5_len {x : InsV} (h : rightIns x = true) (ha : inI64 x.a) : (ins5 x).length ≤ 20500 := by
  obtain ⟨op, a, b, lp, lc, ls⟩ := x
  have h0 : rightOf (byCode op) op a b ls = true := h
  cases hby : byCode op with
  | none => rw [hby] at h0; cases h0
  | some r =>
    have hi : ins5 ⟨op, a, b, lp, lc, ls⟩ = one5 op ++ tail5 r.shape ⟨op, a, b, lp, lc, ls⟩ := by
      unfold ins5; simp only [hby]; rw [h]; rfl
    rw [hi, List.length_append]
    show 1 + _ ≤ _
    rw [hby] at h0
    unfold rightOf at h0
    simp only at h0
    unfold inI64 at ha
    have hbd := byCode_bd hby
    split at h0
    · cases h0
    · split at h0
      · cases h0
      · have h8 : r.shape = 0 ∨ r.shape = 1 ∨ r.shape = 2 ∨ r.shape = 3 ∨ r.shape = 4 ∨ r.shape = 5 ∨ r.shape = 6 ∨ r.shape = 7 := by omega
        rcases h8 with h | h | h | h | h | h | h | h
        all_goals rw [h] at h0 ⊢
        all_goals simp [word] at h0
        · show 1 + 0 ≤ _; omega
        · show 1 + 1 ≤ _; omega
        · have := putU_small (n := a) (by omega) (by omega); show 1 + (putU a).length ≤ _; omega
        · have h1 := putU_small (n := a) (by omega) (by omega)
          have h2 := putU_small (n := (ls.length : Int)) (by omega) (by omega)
          have h3 := flat_most (f := putU) (k := 5) (l := ls) fun y hy => putU_small (h0.1.1 y hy).1 (h0.1.1 y hy).2
          show 1 + (putU ls.length ++ ls.flatMap putU ++ putU a).length ≤ _
          rw [List.length_append, List.length_append]
          have := h0.1.2
          omega
        · have := putU_small (n := a) (by omega) (by omega); show 1 + (putU a).length ≤ _; omega
        · have h1 := putU_small (n := a) (by omega) (by omega)
          have h2 := putU_small (n := b) (by omega) (by omega)
          show 1 + (putU a ++ putU b).length ≤ _
          rw [List.length_append]; omega
        · show 1 + 1 ≤ _; omega
        · have h7 : -9223372036854775808 ≤ a ∧ a ≤ 9223372036854775807 := ha
          have := putS_len10 h7.1 h7.2
          show 1 + (putS a).length ≤ _; omega
theorem strCells_bs (l : List UInt8) : Go.Lib.strCells (bs l) = l.map fun b => Value.int .u8 (b.toNat : Int) := by
  unfold Go.Lib.strCells bs
  simp
theorem keep_3 {W W' : World} {a0 a1 a2 : Addr} {u0 u1 u2 : Value} (hb : Below W.heap.size W W') (h : W.cell? a0 = some u0 ∧ W.cell? a1 = some u1 ∧ W.cell? a2 = some u2) : W'.cell? a0 = some u0 ∧ W'.cell? a1 = some u1 ∧ W'.cell? a2 = some u2 := ⟨cell_belowE h.1 hb, cell_belowE h.2.1 hb, cell_belowE h.2.2 hb⟩
theorem heap_inE {w : World} {b : Nat} {o : Obj} (h : w.heap[b]? = some o) : b < w.heap.size := by
  by_cases hb : b < w.heap.size
  · exact hb
  · rw [Array.getElem?_eq_none (by omega)] at h; cases h
theorem box7E {w w1 : World} {v0 v1 v2 v3 v4 v5 v6 : Value} {t : TypeId} (hb : Below (w.alloc (.cells #[v0, v1, v2, v3, v4, v5, v6] t)).heap.size (w.alloc (.cells #[v0, v1, v2, v3, v4, v5, v6] t)) w1) : w1.heap[w.heap.size]? = some (.cells #[v0, v1, v2, v3, v4, v5, v6] t) ∧ Below w.heap.size w w1 := by
  have h0 : (w.alloc (.cells #[v0, v1, v2, v3, v4, v5, v6] t)).heap[w.heap.size]? = _ := heap_alloc_new _ _
  exact ⟨(hb.block _ (by simp)).trans h0, ((Below.refl _ w).alloc (Nat.le_refl _) _).trans (hb.mono (by simp))⟩

end Go.Proofs.YtpamchagidnijaaGreatDoor
