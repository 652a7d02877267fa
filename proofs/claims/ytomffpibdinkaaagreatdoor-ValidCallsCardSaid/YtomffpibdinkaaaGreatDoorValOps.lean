/-
  Package valid's walk: types are asked, put, taken: walked. Contracts that the proofs call; no statement is proved here.
-/
import Derived.Test.YtomffpibdinkaaaGreatDoorValAt
import Derived.Deep.Cut
namespace Go.Proofs.YtomffpibdinkaaaGreatDoor
open Go.RowKit
set_option linter.unusedVariables false
variable {w0 : World} {B M : Nat} {m : MoV} {lo wh : ByteArray} {s : VS} {sv ov : Value} {w : World}

theorem WAt.grownStk (h : WAt w0 B M m lo wh s sv ov w) {st : List UInt8} {sv' : Value} {w1 : World} (h4 : Own w1 (M + 1) 5 sv' st.reverse) (g4 : w.grownBy w1 sv.ownBlock) (a4 : sv'.ownBlock = sv.ownBlock ∨ sv'.ownBlock = some w.heap.size) (hw : (⟨st, s.opens, s.wrong⟩ : VS).Wf) (hn : st.length ≤ 1000000000) :
    WAt w0 B M m lo wh { s with stack := st } sv' ov (w1.setCell ⟨B, 10, none⟩ sv') ∧ MovV B sv ov w (w1.setCell ⟨B, 10, none⟩ sv') sv' ov := by
  have hge : ∀ k, sv.ownBlock = some k → M + 1 ≤ k := fun k hk => (own_lt7 h.stk k hk).1
  have hB := h.hB
  have hM := h.hM
  have hl := h.hl
  refine ⟨h.setStk (h.below.grown g4 h.below.size fun k hk => by have := hge k hk; omega) ((g4.block B (by omega) fun e => by have := hge B e.symm; omega).trans h.box) h4 (own_same7 h.opn fun g hg => g4.block g (own_lt7 h.opn g hg).2 fun e => h.far g e.symm hg) (fun g hg e => ?_) (Nat.lt_of_lt_of_le hl g4.size) hw hn, ⟨g4.os, g4.tape, g4.output, by simpa [World.setCell] using g4.size, fun k hk h1 h2 h3 => (Below.heap_setCell _ _ _ _ h1).trans (g4.block k hk fun e => h2 e.symm), fun g hg => ?_, fun g hg => .inl hg⟩⟩
  · rcases a4 with a | a
    · exact h.far g (a ▸ hg) e
    · rw [a] at hg; cases hg; have := (own_lt7 h.opn _ e).2; omega
  · rcases a4 with a | a
    · exact .inl (a ▸ hg)
    · rw [a] at hg; cases hg; exact .inr (Nat.le_refl _)

set_option maxRecDepth 100000 in
set_option maxHeartbeats 2000000 in
theorem v_ask (h : WAt w0 B M m lo wh s sv ov w) (b : Bool) : Calls Tryz.prog 106 #[.pointer (some ⟨B, 0, none⟩), .bool b] w (DidV w0 B M m lo wh (s.ask b) sv ov w (.tuple #[])) := by
  cases b with
  | true =>
    have e : s.ask true = s := by unfold VS.ask; simp
    rw [e]
    go_enter Tryz.func106, Tryz.ntmps106
    go_wp2
    go_end0
    exact ⟨sv, ov, rfl, h, MovV.refl _ _ _ _⟩
  | false =>
    have e : s.ask false = { s with wrong := true } := by unfold VS.ask; simp
    rw [e]
    obtain ⟨h2, m2⟩ := h.setWrong
    have f := h.free 12
    have x : w.cell? ⟨B, 12, none⟩ = some (.bool s.wrong) := h.cell 12
    clear h
    go_enter Tryz.func106, Tryz.ntmps106
    go_wp2
    go_end0
    exact ⟨sv, ov, rfl, h2, m2⟩
set_option maxRecDepth 100000 in
set_option maxHeartbeats 2000000 in
theorem v_inner {g c : Nat} {b : FrV} {o : List FrV} (h : WAt w0 B M m lo wh s sv (.slice (some ⟨g, 0, none⟩) (o.length + 1) c) w) (ho : s.opens = b :: o) (hc : o.length + 1 ≤ c) :
    Calls Tryz.prog 122 #[.pointer (some ⟨B, 0, none⟩)] w fun e w' => e = .returned (.pointer (some ⟨g, o.length * 4, none⟩)) ∧ ∃ q, w' = w.drewN q := by
  have x := (h.lists).2.1
  obtain ⟨_, _, hn⟩ := h.inner ho
  clear h ho
  generalize o.length = n at *
  have z0 : (0 : Int) ≤ ((n + 1 : Nat) : Int) - 1 := by omega
  have z1 : ((n + 1 : Nat) : Int) - 1 < ((n + 1 : Nat) : Int) := by omega
  have z2 : (((n + 1 : Nat) : Int) - 1).toNat = n := by omega
  go_enter Tryz.func122, Tryz.ntmps122
  go_wp2
  go_quiet (fail)
  go_wp2
  go_ret
  exact ⟨rfl, nq, rfl⟩
theorem bytes_of7 (k : ByteArray) : ∃ l : List UInt8, k = ⟨l.toArray⟩ ∧ k.data.toList = l := ⟨k.data.toList, by obtain ⟨⟨l⟩⟩ := k; rfl, rfl⟩
theorem infoU87 : (Tryz.prog.info? 5).map (fun i => (i.zero, i.size, i.bytes)) = some (some (.int .u8 0), 1, 1) := by kernel_rfl
set_option maxRecDepth 100000 in
set_option maxHeartbeats 2000000 in
theorem v_put (h : WAt w0 B M m lo wh s sv ov w) (k : ByteArray) (hk : s.stack.length + k.size ≤ 1000000000) : Calls Tryz.prog 107 #[.pointer (some ⟨B, 0, none⟩), .string k] w (DidV w0 B M m lo wh (s.put k.data.toList) sv ov w (.tuple #[])) := by
  obtain ⟨l, rfl, hl⟩ := bytes_of7 k
  rw [hl]
  have hkl : s.stack.length + l.length ≤ 1000000000 := by have : (⟨l.toArray⟩ : ByteArray).size = l.length := by simp [ByteArray.size]
                                                          omega
  obtain ⟨i0, hi, hz0, hz1, hz2⟩ := info_parts infoU87
  obtain ⟨x, _, y, _⟩ := h.lists
  have hM := h.hl
  have hB := h.hM
  have hne := h.ne.1
  have hst := h.stk
  have hown := fun (v' : Value) (w1 : World) => h.grownStk (st := l.reverse ++ s.stack) (sv' := v') (w1 := w1)
  have hwf := put_wf h.wf l
  have hbx := h.box
  have HOWN := Lib.hid hown
  have HBX := Lib.hid hbx
  have HWF := Lib.hid hwf
  clear h hl hown hbx hwf hk
  go_enter Tryz.func107, Tryz.ntmps107
  go_wp2_with (at_builtin; refine wpl_string rfl (.tmp 8) (.tmp 9) 61 9 rfl (M + 1) 5 i0 Tryz.underlying61 Tryz.underlying9 hi hz0 hz1 hz2 _ _ rfl hst l rfl (by rw [List.length_reverse]; omega) (by omega) ?_)
  intro v' w1 h4 g4 a4
  have hbx1 := (g4.block B (by omega) (fun e => hne B e.symm rfl)).trans HBX.out
  have y1 : w1.frozen? ⟨B, 10, none⟩ = false := by simp [World.frozen?, hbx1]
  have x1 : w1.cell? ⟨B, 10, none⟩ = some sv := by rw [World.cell?, hbx1]; rfl
  obtain ⟨p', n', c', rfl⟩ : ∃ p n c, v' = .slice p n c := by
    rcases own_any7 h4 with ⟨rfl, h6, _⟩ | ⟨g, c, rfl, _⟩
    · exact ⟨_, _, _, rfl⟩
    · exact ⟨_, _, _, rfl⟩
  go_wp2
  go_end0
  obtain ⟨h5, m5⟩ := HOWN.out _ w1 (by rw [List.reverse_append, List.reverse_reverse]; exact h4) g4 a4 HWF.out (by rw [List.length_append, List.length_reverse]; omega)
  exact ⟨_, ov, rfl, h5, m5⟩
set_option maxRecDepth 100000 in
set_option maxHeartbeats 2000000 in
theorem v_endless (h : WAt w0 B M m lo wh s sv ov w) (h0 : s.opens ≠ []) : Calls Tryz.prog 123 #[.pointer (some ⟨B, 0, none⟩)] w fun e w' => e = .returned (.bool s.endless) ∧ ∃ q, w' = w.drewN q := by
  obtain ⟨b, o, ho⟩ := List.exists_cons_of_ne_nil h0
  obtain ⟨g, c, rfl, hc, hg1, hg2, ⟨k0, k1, k2, k3⟩, kf⟩ := h.top ho
  obtain ⟨hin, hht, hn⟩ := h.inner ho
  have ci := v_inner h ho hc
  have hsl := h.stkLen
  obtain ⟨x, _, _, _⟩ := h.lists
  have hfew := h.few.1
  have e1 : s.endless = (b.dead && decide (s.stack.length = b.height)) := by unfold VS.endless; rw [hin]
  rw [e1]
  obtain ⟨p, cp, rfl⟩ : ∃ p cp, sv = .slice p s.stack.length cp := by
    rcases own_any7 hsl with ⟨rfl, h1, _⟩ | ⟨g, c, rfl, _⟩
    · exact ⟨none, 0, by rw [h1]⟩
    · exact ⟨_, _, rfl⟩
  generalize s.stack.length = L at *
  generalize b.height = hh at *
  generalize o.length = n at *
  generalize b.dead = dd at *
  clear e1 hin h hsl ho h0 kf k0 k1
  go_enter Tryz.func123, Tryz.ntmps123
  go_wp2_with fail
  refine ci.mono ?_
  rintro e w1 ⟨rfl, q, rfl⟩
  clear ci
  cases dd with
  | false =>
    go_wp2
    go_quiet (fail)
    go_wp2
    go_ret
    exact ⟨rfl, q + nq, by first | rfl | exact World.drewN_drewN _ _ _⟩
  | true =>
    by_cases hq : L = hh
    · subst hq
      go_wp2
      go_quiet (fail)
      go_wp2
      go_ret
      exact ⟨by simp, q + nq, by first | rfl | exact World.drewN_drewN _ _ _⟩
    · have h1 : ((L : Int) == (hh : Int)) = false := beq_eq_false_iff_ne.2 (by omega)
      have HQ := Lib.hid hq
      clear hq
      go_wp2
      go_quiet (fail)
      go_wp2
      go_ret
      exact ⟨by simp [HQ.out], q + nq, by first | rfl | exact World.drewN_drewN _ _ _⟩
/-- The stack is cut. -/
theorem WAt.cutStk {g c L : Nat} (h : WAt w0 B M m lo wh s (.slice (some ⟨g, 0, none⟩) L c) ov w) (hL : L = s.stack.length) {k : Nat} (hk : k ≤ L) (hw : (⟨s.stack.drop (L - k), s.opens, s.wrong⟩ : VS).Wf) :
    WAt w0 B M m lo wh { s with stack := s.stack.drop (L - k) } (.slice (some ⟨g, 0, none⟩) k c) ov (w.setCell ⟨B, 10, none⟩ (.slice (some ⟨g, 0, none⟩) k c)) ∧ MovV B (.slice (some ⟨g, 0, none⟩) L c) ov w (w.setCell ⟨B, 10, none⟩ (.slice (some ⟨g, 0, none⟩) k c)) (.slice (some ⟨g, 0, none⟩) k c) ov := by
  subst hL
  have h1 := own_prefix h.stkLen hk
  have hd : (s.stack.drop (s.stack.length - k)).length = k := by rw [List.length_drop]; omega
  have h2 : Own w (M + 1) 5 (.slice (some ⟨g, 0, none⟩) k c) (s.stack.drop (s.stack.length - k)).reverse := by
    unfold Own
    rw [List.length_reverse, hd]
    have e : (s.stack.drop (s.stack.length - k)).reverse = s.stack.reverse.take k := by
      rw [List.reverse_drop]
      congr 1
      omega
    rw [e, List.map_take]
    rw [Nat.mul_one] at h1
    exact h1
  exact ⟨h.setStk h.below h.box h2 h.opn h.far h.hl hw (by have := h.few.1; omega), ⟨rfl, rfl, rfl, by simp [World.setCell], fun k _ h1 _ _ => Below.heap_setCell _ _ _ _ h1, fun g hg => .inl hg, fun g hg => .inl hg⟩⟩
set_option maxRecDepth 100000 in
set_option maxHeartbeats 4000000 in
theorem v_takeAny (h : WAt w0 B M m lo wh s sv ov w) (h0 : s.opens ≠ []) : Calls Tryz.prog 109 #[.pointer (some ⟨B, 0, none⟩)] w (DidV w0 B M m lo wh s.takeAny.2 sv ov w (.int .u8 (s.takeAny.1.toNat : Int))) := by
  obtain ⟨b, o, ho⟩ := List.exists_cons_of_ne_nil h0
  obtain ⟨g, c, rfl, hc, hg1, hg2, ⟨k0, k1, k2, k3⟩, kf⟩ := h.top ho
  obtain ⟨hin, hht, hn⟩ := h.inner ho
  have ci := fun q => v_inner (h.drewN q) ho hc
  have ca := fun q => v_ask (h.drewN q) b.dead
  have hsl := h.stkLen
  obtain ⟨x, _, y, _⟩ := h.lists
  have hfew := h.few.1
  by_cases hlt : s.stack.length ≤ b.height
  · have e1 : s.takeAny = (0, s.ask b.dead) := by unfold VS.takeAny; rw [hin, if_pos hlt]
    rw [e1]
    obtain ⟨p, cp, rfl⟩ : ∃ p cp, sv = .slice p s.stack.length cp := by
      rcases own_any7 hsl with ⟨rfl, h1, _⟩ | ⟨g, c, rfl, _⟩
      · exact ⟨none, 0, by rw [h1]⟩
      · exact ⟨_, _, rfl⟩
    have ci0 := v_inner h ho hc
    have mz := fun q => (MovV.refl B (.slice p s.stack.length cp) (.slice (some ⟨g, 0, none⟩) (o.length + 1) c) w).drewN q
    generalize s.ask b.dead = s1 at *
    generalize s.stack.length = L at *
    generalize b.height = hh at *
    generalize o.length = n at *
    generalize b.dead = dd at *
    have hq : (L : Int) - 1 < (hh : Int) := by omega
    clear e1 hin h hsl ho h0 kf k0 k1
    go_enter Tryz.func109, Tryz.ntmps109
    go_wp2_with fail
    refine ci0.mono ?_
    rintro e w1 ⟨rfl, q, rfl⟩
    clear ci0
    go_wp2_with fail
    refine (ci q).mono ?_
    rintro e w1 ⟨rfl, q2, rfl⟩
    clear ci
    go_wp2_with fail
    refine (ca (q + q2)).mono ?_
    rintro e w3 ⟨sv3, ov3, rfl, h3, m3⟩
    clear ca
    go_wp2
    go_ret
    exact ⟨sv3, ov3, rfl, h3, (mz (q + q2)).trans m3⟩
  · obtain ⟨t, st, hst⟩ : ∃ t st, s.stack = t :: st := by
      cases hs : s.stack with
      | nil => rw [hs] at hlt; exact absurd (Nat.zero_le _) hlt
      | cons t st => exact ⟨t, st, rfl⟩
    have e1 : s.takeAny = (t, { s with stack := st }) := by unfold VS.takeAny; rw [hin, if_neg hlt, hst]; rfl
    have hwf := takeAny_wf h.wf
    rw [e1] at hwf ⊢
    have hl : s.stack.length = st.length + 1 := by rw [hst]; rfl
    rcases own_any7 hsl with ⟨_, h1, _⟩ | ⟨g2, c2, rfl, _, hg3, hc2⟩
    · omega
    · have hcell : w.cell? ⟨g2, st.length, none⟩ = some (.int .u8 (t.toNat : Int)) := by
        rw [hsl.cellAt st.length (by omega), hst]
        simp
      have hcut := fun q => (h.drewN q).cutStk rfl (k := st.length) (by omega) (by rw [hl, show st.length + 1 - st.length = 1 by omega, hst]; exact hwf)
      have ed : s.stack.drop (s.stack.length - st.length) = st := by rw [hl, show st.length + 1 - st.length = 1 by omega, hst]; rfl
      rw [ed] at hcut
      have ci0 := v_inner h ho hc
      have mz := fun q => (MovV.refl B (.slice (some ⟨g2, 0, none⟩) s.stack.length c2) (.slice (some ⟨g, 0, none⟩) (o.length + 1) c) w).drewN q
      rw [hl] at hcut hlt hc2 hfew x mz ⊢
      generalize hs1 : ({ s with stack := st } : VS) = s1 at *
      have HC := Lib.hid hcut
      have HM := Lib.hid mz
      generalize st.length = L at *
      generalize b.height = hh at *
      generalize o.length = n at *
      have hq : ¬ (((L + 1 : Nat) : Int) - 1 < (hh : Int)) := by omega
      have z0 : (0 : Int) ≤ ((L + 1 : Nat) : Int) - 1 := by omega
      have z1 : ((L + 1 : Nat) : Int) - 1 < ((L + 1 : Nat) : Int) := by omega
      have z2 : (((L + 1 : Nat) : Int) - 1).toNat = L := by omega
      have z3 : ((L + 1 : Nat) : Int) - 1 ≤ (c2 : Int) := by omega
      clear e1 hin h hsl ho h0 kf k0 k1 k3 hcut mz ed hs1 hwf hl hst ca ci hg1 hg2 hht
      go_enter Tryz.func109, Tryz.ntmps109
      go_wp2_with fail
      refine ci0.mono ?_
      rintro e w1 ⟨rfl, q, rfl⟩
      clear ci0
      go_wp2
      go_ret
      exact ⟨_, _, rfl, (HC.out q).1, (HM.out q).trans (HC.out q).2⟩
end Go.Proofs.YtomffpibdinkaaaGreatDoor
