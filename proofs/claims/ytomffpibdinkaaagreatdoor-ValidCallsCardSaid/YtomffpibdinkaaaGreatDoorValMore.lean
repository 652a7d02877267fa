/-
  Package valid's walk kills the way, opens a block, leaves one; labels, locals, globals: walked. Contracts that the proofs call; no statement is proved here.
-/
import Derived.Test.YtomffpibdinkaaaGreatDoorValTake
import Derived.RegionTactic
namespace Go.Proofs.YtomffpibdinkaaaGreatDoor
open Go.RowKit
set_option linter.unusedVariables false
variable {w0 : World} {B M : Nat} {m : MoV} {lo wh : ByteArray} {s : VS} {sv ov : Value} {w : World}

theorem WAt.setDead {g c : Nat} {b : FrV} {o : List FrV} (h : WAt w0 B M m lo wh s sv (.slice (some ⟨g, 0, none⟩) (o.length + 1) c) w) (ho : s.opens = b :: o) :
    WAt w0 B M m lo wh { s with opens := { b with dead := true } :: o } sv (.slice (some ⟨g, 0, none⟩) (o.length + 1) c) (w.setCell ⟨g, o.length * 4 + 3, none⟩ (.bool true)) ∧ MovV B sv (.slice (some ⟨g, 0, none⟩) (o.length + 1) c) w (w.setCell ⟨g, o.length * 4 + 3, none⟩ (.bool true)) sv (.slice (some ⟨g, 0, none⟩) (o.length + 1) c) := by
  have hp := h.opn
  rw [ho] at hp
  have hg := own_lt7 hp g rfl
  obtain ⟨h1, h2⟩ := hp.stored (o.length * 4 + 3) (.bool true)
  rw [opnB_set] at h1
  have hM := h.hM
  have hwf := h.wf
  have hfew := h.few
  have hop := h.hB
  refine ⟨⟨h.below.setCell (by show w0.heap.size ≤ g; omega) _, (Below.heap_setCell _ _ _ _ (by show B ≠ g; omega)).trans h.box, own_same7 h.stk fun k hk => Below.heap_setCell _ _ _ _ (fun e => h.far k hk (by rw [e]; rfl)), h1, h.far, h.hB, h.hM, by simpa [World.setCell] using h.hl, ?_, ?_⟩, ⟨rfl, rfl, rfl, by simp [World.setCell], fun k _ _ _ h3 => Below.heap_setCell _ _ _ _ (fun e => h3 (by rw [e]; rfl)), fun g hg => .inl hg, fun g hg => .inl hg⟩⟩
  · obtain ⟨st, op, wr⟩ := s
    simp only at ho
    subst ho
    exact ⟨List.pairwise_cons.2 ⟨fun x hx => (List.pairwise_cons.1 hwf.1).1 x hx, (List.pairwise_cons.1 hwf.1).2⟩, hwf.2⟩
  · rw [ho] at hfew
    exact hfew
theorem WAt.topAt {g c : Nat} {b : FrV} {o : List FrV} (h : WAt w0 B M m lo wh s sv (.slice (some ⟨g, 0, none⟩) (o.length + 1) c) w) (ho : s.opens = b :: o) :
    (w.cell? ⟨g, o.length * 4, none⟩ = some (.int .i64 b.code) ∧ w.cell? ⟨g, o.length * 4 + 1, none⟩ = some (.string (b7 b.result)) ∧ w.cell? ⟨g, o.length * 4 + 2, none⟩ = some (.int .i64 b.height) ∧ w.cell? ⟨g, o.length * 4 + 3, none⟩ = some (.bool b.dead)) ∧ (∀ j, w.frozen? ⟨g, j, none⟩ = false) ∧ g < w.heap.size := by
  obtain ⟨g', c', e, _, _, h2, h3, h4⟩ := h.top ho
  cases e
  exact ⟨h3, h4, h2⟩
theorem kill_is {s : VS} {b : FrV} {o : List FrV} (ho : s.opens = b :: o) : s.kill = { ({ s with stack := s.stack.drop (s.stack.length - b.height) } : VS) with opens := { b with dead := true } :: o } := by
  unfold VS.kill; rw [ho]
set_option maxRecDepth 100000 in
set_option maxHeartbeats 4000000 in
theorem v_kill (h : WAt w0 B M m lo wh s sv ov w) (h0 : s.opens ≠ []) : Calls Tryz.prog 102 #[.pointer (some ⟨B, 0, none⟩)] w (DidV w0 B M m lo wh s.kill sv ov w (.tuple #[])) := by
  obtain ⟨b, o, ho⟩ := List.exists_cons_of_ne_nil h0
  obtain ⟨g, c, rfl, hc, hg1, hg2, ⟨k0, k1, k2, k3⟩, kf⟩ := h.top ho
  obtain ⟨hin, hht, hn⟩ := h.inner ho
  have ci := v_inner h ho hc
  have hsl := h.stkLen
  have hkw := kill_wf h.wf
  rw [kill_is ho] at hkw ⊢
  obtain ⟨x, _, y, _⟩ := h.lists
  have hwf : (⟨s.stack.drop (s.stack.length - b.height), s.opens, s.wrong⟩ : VS).Wf := ⟨h.wf.1, by rw [ho]; show b.height ≤ _; rw [List.length_drop]; omega⟩
  have hcut : ∃ p c', sv = .slice p s.stack.length c' ∧ (p = none → s.stack.length = 0 ∧ c' = 0) ∧ (∀ a, p = some a → ∃ g, a = ⟨g, 0, none⟩) ∧ s.stack.length ≤ c' ∧ ∀ q, WAt w0 B M m lo wh { s with stack := s.stack.drop (s.stack.length - b.height) } (.slice p b.height c') (.slice (some ⟨g, 0, none⟩) (o.length + 1) c) ((w.drewN q).setCell ⟨B, 10, none⟩ (.slice p b.height c')) ∧ MovV B sv (.slice (some ⟨g, 0, none⟩) (o.length + 1) c) w ((w.drewN q).setCell ⟨B, 10, none⟩ (.slice p b.height c')) (.slice p b.height c') (.slice (some ⟨g, 0, none⟩) (o.length + 1) c) := by
    rcases own_any7 hsl with ⟨rfl, h1, _⟩ | ⟨g2, c2, rfl, _, hg3, hc2⟩
    · have hb0 : b.height = 0 := by omega
      have hl0 : s.stack = [] := List.length_eq_zero_iff.1 h1
      have hst : s.stack.drop (s.stack.length - b.height) = s.stack := by rw [hl0, List.drop_nil]
      rw [hst] at hwf ⊢
      refine ⟨none, 0, by rw [h1], fun _ => ⟨h1, rfl⟩, fun a e => (by cases e), by omega, fun q => ?_⟩
      rw [hb0]
      have hq := h.drewN q
      exact ⟨hq.setStk hq.below hq.box hq.stk hq.opn hq.far hq.hl hwf h.few.1, (MovV.of (below_drewN (Below.refl _ _) q)).trans (MovV.set _ _ _ _ _ _)⟩
    · refine ⟨_, c2, rfl, fun e => (by cases e), fun a e => ⟨g2, by cases e; rfl⟩, hc2, fun q => ?_⟩
      obtain ⟨h5, m5⟩ := (h.drewN q).cutStk rfl (k := b.height) hht hwf
      exact ⟨h5, (MovV.of (below_drewN (Below.refl _ _) q)).trans m5⟩
  obtain ⟨p, c', rfl, hpn, hps, hcl, hcut⟩ := hcut
  have hdead := fun q => (hcut q).1.setDead (b := b) (o := o) ho
  have HC := Lib.hid hcut
  have HD := Lib.hid hdead
  have hfew := h.few.1
  generalize s.stack.length = L at *
  have K2 := Lib.hid k2
  generalize hgh : b.height = hh at *
  have z0 : (0 : Int) ≤ (hh : Int) := by omega
  have z1 : (hh : Int) ≤ (c' : Int) := by omega
  have hcase : (p = none ∧ L = 0 ∧ c' = 0 ∧ hh = 0) ∨ ∃ g2, p = some ⟨g2, 0, none⟩ := by
    cases p with
    | none => have := hpn rfl; exact .inl ⟨rfl, this.1, this.2, by omega⟩
    | some a => obtain ⟨g2, rfl⟩ := hps a rfl; exact .inr ⟨g2, rfl⟩
  have htop := fun q => (hcut q).1.topAt (b := b) (o := o) ho
  have HT := Lib.hid htop
  clear htop
  clear hcut hdead hkw hwf hsl hin h ho h0 kf k0 k1 hpn hps
  generalize o.length = n at *
  rcases hcase with ⟨rfl, rfl, rfl, rfl⟩ | ⟨g2, rfl⟩
  all_goals
    go_enter Tryz.func102, Tryz.ntmps102
    go_wp2_with fail
    refine ci.mono ?_
    rintro e w1 ⟨rfl, q, rfl⟩
    clear ci
    go_wp2
    go_region
    obtain ⟨⟨_, _, _, t3⟩, tf, _⟩ := HT.out (q + 1)
    have tf3 := tf (n * 4 + 3)
    obtain ⟨h5, m5⟩ := HC.out (q + 1)
    obtain ⟨h6, m6⟩ := HD.out (q + 1)
    have MM := m5.trans m6
    clear tf HC HD HT m5 m6 h5 x y k2 k3
    generalize World.setCell (w.drewN (q + 1)) _ _ = W at *
    go_wp2
    go_end0
    exact ⟨_, _, rfl, h6, MM⟩
end Go.Proofs.YtomffpibdinkaaaGreatDoor
