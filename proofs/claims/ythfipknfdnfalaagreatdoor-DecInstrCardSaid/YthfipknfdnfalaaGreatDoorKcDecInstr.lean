/-
  Package dec's Instr, whole: walked. A contract that the proofs call; no statement is proved here.
-/
import Derived.Test.YthfipknfdnfalaaGreatDoorKcDecInsA
namespace Go.Proofs.YthfipknfdnfalaaGreatDoor
set_option maxRecDepth 100000
set_option maxHeartbeats 16000000
open Go.RowKit Go.Maps
set_option linter.unusedVariables false
def insAns (s : List UInt8) (place : Int) : InsV × Int × Int :=
  if place < 0 ∨ (s.length : Int) < place then (bareI 0 0 0 [], 0, 1)
  else match pIns (s.drop place.toNat) with
    | .bad e => (bareI 0 0 0 [], 0, e)
    | .ok x rest => (x, (s.length : Int) - rest.length, 0)
theorem results_cell_tmp2 {fn : Func} {p u v : Tmp} {ty : TypeId} (h : fn.results = #[.cell p ty, .tmp u, .tmp v]) (tmps : Array Value) (P : Program) (w : World) :
    (results fn tmps).run P w =
      ((asAddr (tmps.getD p undef)).run P w).andThen fun a w₁ => ((loadVar ty a).run P w₁).andThen fun x w₂ => .ok (.tuple #[x, tmps.getD u undef, tmps.getD v undef]) w₂ := by
  simp only [results, h]
  simp [Sem.run_bind, Result.andThen]
theorem intsAt_own {w : World} {base n c : Nat} {p : Option Addr} {l : List Int} (h : w.ownsRow base 3 1 (.slice p n c) n (l.flatMap rowInt)) (hn : l.length = n) : IntsAt w p l := by
  intro j hj
  have hl : (l.flatMap rowInt)[j]? = some (.int .i64 l[j]) := by
    have e : ∀ m : List Int, m.flatMap rowInt = m.map (.int .i64) := fun m => by induction m with
      | nil => rfl
      | cons a m ih => rw [List.flatMap_cons, ih]; rfl
    rw [e, List.getElem?_map, List.getElem?_eq_getElem hj]; rfl
  rcases h.2 with ⟨h0, h1⟩ | ⟨g, cap, cur, hv, _, hg, _⟩
  · exfalso; omega
  · injection hv with hp _ _
    subst hp
    have := World.ownsRow.cells h (g := g) rfl j _ hl
    rw [Go.WideShapes.add_plain] at this
    exact ⟨g, 0, rfl, in_heap6 hg, this⟩
theorem InsNew.insAt {w w' : World} {x : InsV} (h : InsNew w w' x) : InsAt w' x :=
  ⟨intsAt_own h.1 rfl, by have := h.2.1; omega, h.2.2.2.1, h.2.2.2.2.1, h.2.2.2.2.2, fun n hn => by have := h.2.2.1 n hn; unfold inI64; omega⟩
theorem InsNew.same {w w' w2 : World} {x : InsV} (h : InsNew w w' x) (hs : ∀ g, w.heap.size ≤ g → w2.heap[g]? = w'.heap[g]?) : InsNew w w2 x :=
  ⟨own_same h.1 fun g hg => hs g (own_lt6 h.1 g hg).1, h.2⟩
theorem InsNew.down {w w0 w' : World} {x : InsV} (h : InsNew w w' x) (hw : w0.heap.size ≤ w.heap.size) : InsNew w0 w' x := ⟨own_down h.1 hw, h.2⟩
theorem new_reader (s : ByteArray) (a : Int) (w : World) :
    Calls Tryz.prog 49 #[.string s, .int .i64 a] w fun e w' => ∃ M, e = .returned (.agg #[.string s, .int .i64 a, .int .i64 0, .map (some M)]) ∧ w.heap.size ≤ M ∧ Infos M w' (.map []) ∧ Below w.heap.size w w' := by
  have hmm := @run_makeMap Tryz.prog
  have hB1 := (Below.refl w.heap.size w).alloc (Nat.le_refl _) (.cells #[.string ⟨#[]⟩, .int .i64 0, .int .i64 0, .map none] 111)
  go_enter Tryz.func49, Tryz.ntmps49
  go_wp2
  refine bodyPost_ret (v := .agg #[.string s, .int .i64 a, .int .i64 0, .map (some (w.heap.size + 1))]) ?_ rfl ?_
  · rw [results_one_cell rfl]; go_simp
  · have hB := (Below.refl w.heap.size w).alloc (Nat.le_refl _) (.cells #[.string s, .int .i64 a, .int .i64 0, .map (some (w.heap.size + 1))] 111)
    have ho := World.ownsMap_made (w.alloc (.cells #[.string s, .int .i64 a, .int .i64 0, .map (some (w.heap.size + 1))] 111)) Tryz.prog 3 (infoRead (H := Unit))
    have hsz : (w.alloc (.cells #[.string s, .int .i64 a, .int .i64 0, .map (some (w.heap.size + 1))] 111)).heap.size = w.heap.size + 1 := by simp
    rw [hsz] at ho
    exact ⟨w.heap.size + 1, rfl, by omega, ⟨ho.mono (Nat.zero_le _), isMap_empty, fun c hc => by cases hc⟩, hB.alloc (by omega) _⟩
theorem sets4_box {W : World} {b : Nat} {u0 u1 u2 u3 : Value} {t : TypeId} (v0 v1 v2 v3 : Value) (h : W.heap[b]? = some (.cells #[u0, u1, u2, u3] t)) : ((((W.setCell ⟨b, 0, none⟩ v0).setCell ⟨b, 1, none⟩ v1).setCell ⟨b, 2, none⟩ v2).setCell ⟨b, 3, none⟩ v3).heap[b]? = some (.cells #[v0, v1, v2, v3] t) := by
  simp [World.setCell, Array.getElem?_modify, h]
theorem sets4_other {W : World} {b g : Nat} (v0 v1 v2 v3 : Value) (h : g ≠ b) : ((((W.setCell ⟨b, 0, none⟩ v0).setCell ⟨b, 1, none⟩ v1).setCell ⟨b, 2, none⟩ v2).setCell ⟨b, 3, none⟩ v3).heap[g]? = W.heap[g]? :=
  (Below.heap_setCell _ _ _ _ h).trans ((Below.heap_setCell _ _ _ _ h).trans ((Below.heap_setCell _ _ _ _ h).trans (Below.heap_setCell _ _ _ _ h)))
def AnsIns (s : ByteArray) (a : Int) (w : World) (e : Ending) (w' : World) : Prop :=
  ∃ x, e = .returned (.tuple #[x.val, .int .i64 (insAns s.data.toList a).2.1, .int .i64 (insAns s.data.toList a).2.2]) ∧ x.bare = (insAns s.data.toList a).1 ∧ InsNew w w' x ∧ Below w.heap.size w w'
theorem rem_len {r : RV} (h : r.pos ≤ r.s.size) : (r.pos : Int) = (r.s.data.toList.length : Int) - r.rem.length := by
  unfold RV.rem
  rw [List.length_drop, Array.length_toList]
  have e : r.s.size = r.s.data.size := rfl
  omega
theorem zero_new (w w' : World) : InsNew w w' (bareI 0 0 0 []) := insNew_nil _ _ _ _ _ ⟨by decide, by decide⟩ ⟨by decide, by decide⟩ ⟨by decide, by decide⟩
theorem dec_instr_out (s : ByteArray) (a : Int) (ha : a < 0 ∨ (s.size : Int) < a) (w : World) : Calls Tryz.prog 22 #[.string s, .int .i64 a] w (AnsIns s a w) := by
  have hans : insAns s.data.toList a = (bareI 0 0 0 [], 0, 1) := by unfold insAns; rw [if_pos (by rw [Array.length_toList]; exact ha)]
  have hB := (Below.refl w.heap.size w).alloc (Nat.le_refl _) (.cells #[.int .i64 0, .int .i64 0, .int .i64 0, .slice none 0 0] 46)
  by_cases h0 : a < 0
  · go_enter Tryz.func22, Tryz.ntmps22
    go_wp2
    refine bodyPost_ret (v := .tuple #[.agg #[.int .i64 0, .int .i64 0, .int .i64 0, .slice none 0 0], .int .i64 0, .int .i64 1]) ?_ rfl ?_
    · rw [results_cell_tmp2 rfl]; go_simp
    · exact ⟨bareI 0 0 0 [], by rw [hans]; rfl, by rw [hans]; rfl, zero_new _ _, hB⟩
  · have h1 : (s.size : Int) < a := by omega
    go_enter Tryz.func22, Tryz.ntmps22
    go_wp2
    refine bodyPost_ret (v := .tuple #[.agg #[.int .i64 0, .int .i64 0, .int .i64 0, .slice none 0 0], .int .i64 0, .int .i64 1]) ?_ rfl ?_
    · rw [results_cell_tmp2 rfl]; go_simp
    · exact ⟨bareI 0 0 0 [], by rw [hans]; rfl, by rw [hans]; rfl, zero_new _ _, hB⟩
theorem dec_instr_in (s : ByteArray) (a : Nat) (ha : a ≤ s.size) (hs : s.size ≤ 281474976710656) (w : World) (hLaid : Laid w) : Calls Tryz.prog 22 #[.string s, .int .i64 a] w (AnsIns s a w) := by
  have q0 : ¬ (a : Int) < 0 := by omega
  have q1 : ¬ (s.size : Int) < a := by omega
  have hres := heap_alloc_new w (.cells #[.int .i64 0, .int .i64 0, .int .i64 0, .slice none 0 0] 46)
  have hB := (Below.refl w.heap.size w).alloc (Nat.le_refl _) (.cells #[.int .i64 0, .int .i64 0, .int .i64 0, .slice none 0 0] 46)
  have hwa : (w.alloc (.cells #[.int .i64 0, .int .i64 0, .int .i64 0, .slice none 0 0] 46)).heap.size = w.heap.size + 1 := by simp
  have c1 := new_reader s a (w.alloc (.cells #[.int .i64 0, .int .i64 0, .int .i64 0, .slice none 0 0] 46))
  go_enter Tryz.func22, Tryz.ntmps22
  go_wp2_with (first
    | (go_at_call 49; (with_reducible refine c1.mono ?_); rintro e w1 ⟨M, rfl, hM, hD, hb1⟩; have hs1 := hb1.size; have hM1 := ownsMap_in hD.own; have hb0 := (hb1.block w.heap.size (by omega)).trans hres; have hB1 := hB.trans (hb1.mono hB.size); have hr : RdAt w w1.heap.size M 111 [] ⟨s, a, 0⟩ (w1.alloc (.cells #[.string s, .int .i64 a, .int .i64 0, .map (some M)] 111)) := ⟨hB1.alloc hB1.size _, heap_alloc_new w1 _, ⟨_, hD.same (Below.heap_alloc _ _ _ hM1)⟩, (by omega), hB1.size, (by omega), hs, ha⟩; have c2 := instr_reads hLaid hr; clear c1 hres hD hb1)
    | (go_at_call 62; (with_reducible refine c2.mono ?_); rintro e w2 ⟨⟨op, xa, xb, lp, lc, ls⟩, r2, rfl, g2, h2, m2, hn2⟩; have hb2 := (m2.block w.heap.size (by simp; omega) (by omega) (by omega)).trans ((Below.heap_alloc w1 _ _ (by omega)).trans hb0); obtain ⟨k0, k1, k2, k3, e0, e1, e2, e3, z0, z1, z2, z3⟩ := box_at hb2; obtain ⟨x0, x1, x2, x3, y0, y1, y2, y3⟩ := h2.reads; have hne : w.heap.size ≠ w1.heap.size := (by omega); have hlt2 := in_heap6 hb2; clear c2 hb0 hr; dsimp only [InsV.val]))
  all_goals
    have hW0 := sets4_box (.int .i64 op) (.int .i64 xa) (.int .i64 xb) (.slice lp ls.length lc) hb2
    have hl := (last4 h2 ((Mov.of_below (hB1.alloc hB1.size _)).trans m2) (b := w.heap.size) (.int .i64 op) (.int .i64 xa) (.int .i64 xb) (.slice lp ls.length lc) (by omega) (by omega) (Nat.le_refl _) (Nat.le_refl _)).1
    have hN : InsNew (w1.alloc (.cells #[.string s, .int .i64 a, .int .i64 0, .map (some M)] 111)) ((((w2.setCell ⟨w.heap.size, 0, none⟩ (.int .i64 op)).setCell ⟨w.heap.size, 1, none⟩ (.int .i64 xa)).setCell ⟨w.heap.size, 2, none⟩ (.int .i64 xb)).setCell ⟨w.heap.size, 3, none⟩ (.slice lp ls.length lc)) ⟨op, xa, xb, lp, lc, ls⟩ := hn2.same fun g hg => sets4_other _ _ _ _ (by simp at hg; omega)
    clear x0 x1 x2 x3 y0 y1 y2 y3 k0 k1 k2 k3 e0 e1 e2 e3 z0 z1 z2 z3 h2 hb2 hn2 m2
    generalize (((w2.setCell ⟨w.heap.size, 0, none⟩ (.int .i64 op)).setCell ⟨w.heap.size, 1, none⟩ (.int .i64 xa)).setCell ⟨w.heap.size, 2, none⟩ (.int .i64 xb)).setCell ⟨w.heap.size, 3, none⟩ (.slice lp ls.length lc) = W at *
    obtain ⟨k0, k1, k2, k3, e0, e1, e2, e3, z0, z1, z2, z3⟩ := box_at hW0
    obtain ⟨x0, x1, x2, x3, y0, y1, y2, y3⟩ := hl.reads
  · have hq : (r2.e != 0) = true := by assumption
    have hans : insAns s.data.toList a = (bareI 0 0 0 [], 0, r2.e) := by
      unfold insAns
      rw [if_neg (by rw [Array.length_toList]; have e : s.size = s.data.size := rfl; omega), Int.toNat_natCast]
      rcases g2.2 with ⟨g3, _⟩ | ⟨_, g3, _⟩ | ⟨_, g3, g4⟩
      · exact absurd rfl g3
      · rw [g3] at hq; cases hq
      · rw [show s.data.toList.drop a = (⟨s, a, 0⟩ : RV).rem from rfl, g4]
    have hbel := hl.below
    clear hW0 hN hl g2
    go_region
    all_goals
      go_wp2
      refine bodyPost_ret (v := .tuple #[.agg #[.int .i64 0, .int .i64 0, .int .i64 0, .slice none 0 0], .int .i64 0, .int .i64 r2.e]) ?_ rfl ?_
      · rw [results_cell_tmp2 rfl]; go_simp
      · exact ⟨bareI 0 0 0 [], by rw [hans]; rfl, by rw [hans]; rfl, zero_new _ _, ((((hbel.setCell (Nat.le_refl _) _).setCell (Nat.le_refl _) _).setCell (Nat.le_refl _) _).setCell (Nat.le_refl _) _).drew⟩
  · have hq : r2.e = 0 := by
      have h0 : (r2.e != 0) = false := by assumption
      simpa using h0
    have hans : insAns s.data.toList a = ((⟨op, xa, xb, lp, lc, ls⟩ : InsV).bare, (r2.pos : Int), 0) := by
      unfold insAns
      rw [if_neg (by rw [Array.length_toList]; have e : s.size = s.data.size := rfl; omega), Int.toNat_natCast]
      have hs2 : r2.s = s := g2.1
      rcases g2.2 with ⟨g3, _⟩ | ⟨_, _, g4⟩ | ⟨_, g3, _⟩
      · exact absurd rfl g3
      · rw [show s.data.toList.drop a = (⟨s, a, 0⟩ : RV).rem from rfl, g4]
        simp only
        rw [rem_len hl.pos, hs2]
      · exact absurd hq g3
    have hbel := hl.below
    have HQ := Lib.hid hq
    clear hW0 hl g2 hq
    go_region
    all_goals
      go_wp2
      refine bodyPost_ret (v := .tuple #[.agg #[.int .i64 op, .int .i64 xa, .int .i64 xb, .slice lp ls.length lc], .int .i64 r2.pos, .int .i64 0]) ?_ rfl ?_
      · rw [results_cell_tmp2 rfl]; go_simp
      · refine ⟨⟨op, xa, xb, lp, lc, ls⟩, by rw [hans]; rfl, by rw [hans], ?_, ((((hbel.setCell (Nat.le_refl _) _).setCell (Nat.le_refl _) _).setCell (Nat.le_refl _) _).setCell (Nat.le_refl _) _).drew⟩
        exact InsNew.down (hN.same fun g hg => sets4_other _ _ _ _ (by simp at hg; omega)) (by simp; omega)
theorem dec_instr (s : ByteArray) (a : Int) (hs : s.size ≤ 281474976710656) (w : World) (hLaid : Laid w) : Calls Tryz.prog 22 #[.string s, .int .i64 a] w (AnsIns s a w) := by
  by_cases ha : a < 0 ∨ (s.size : Int) < a
  · exact dec_instr_out s a ha w
  · obtain ⟨k, rfl⟩ := Int.eq_ofNat_of_zero_le (show 0 ≤ a by omega)
    exact dec_instr_in s k (by omega) hs w hLaid
end Go.Proofs.YthfipknfdnfalaaGreatDoor
