/-
  The document's own reader reads an instruction, whatever its code is; its Instr, whole: walked. Contracts that the proofs call; no statement is proved here.
-/
import Derived.Test.YthfipknfdnfalaaGreatDoorKaRfIns
import Derived.Test.YthfipknfdnfalaaGreatDoorKaDecInsA
import Derived.Test.YthfipknfdnfalaaGreatDoorKaDecInstr
namespace Go.Proofs.YthfipknfdnfalaaGreatDoor
open Go.RowKit
set_option linter.unusedVariables false
theorem q_det6 {w0 : World} {B : Nat} {s : ByteArray} {n : Nat} {r : RV} {w : World} (h : QAt w0 B s n r w) : ∃ b r1, 0 ≤ b ∧ b < 256 ∧ Got pOne r r1 b ∧ r1.pos ≤ n ∧ ∀ w, QAt w0 B s n r w →
    Calls Tryz.prog 53 #[.pointer (some ⟨B, 0, none⟩)] w fun e w' => e = .returned (.int .i64 b) ∧ QAt w0 B s n r1 w' ∧ Mov B B w w' := by
  have hp := h.pos
  by_cases he : r.e = 0
  · by_cases hlt : r.pos < n
    · obtain ⟨hb, hrem⟩ := q_rem h hlt
      have hu := UInt8.toNat_lt s[r.pos]
      exact ⟨(s[r.pos].toNat : Int), ⟨r.s, r.pos + 1, r.e⟩, by omega, by omega, ⟨rfl, .inr (.inl ⟨he, he, by rw [hrem]; rfl⟩)⟩, hlt, fun w h => q_one_yes h he hlt _ ⟨hb, rfl⟩⟩
    · have hg := got_end (r := r) (by have := h.rsize; omega)
      rw [RV.bad_zero he] at hg
      exact ⟨0, ⟨r.s, r.pos, 2⟩, by decide, by decide, hg, hp, fun w h => q_one_end h he hlt⟩
  · exact ⟨0, r, by decide, by decide, ⟨rfl, .inl ⟨he, rfl⟩⟩, hp, fun w h => q_one_not h he⟩
theorem q_instr {w0 : World} {B : Nat} {s : ByteArray} {n : Nat} {r : RV} {w : World} (h : QAt w0 B s n r w) :
    Calls Tryz.prog 63 #[.pointer (some ⟨B, 0, none⟩)] w (DidQ w0 B s n r w pIns InsV.bare InsV.val InsNew) := by
  obtain ⟨b, r1, b0, b1, g1, hpos, c1⟩ := q_det6 h
  by_cases he : r1.e = 0
  · by_cases hf : isFloat b = true
    · exact q_ins_float h b r1 ⟨b0, b1⟩ g1 he c1 hf
    · have hf : isFloat b = false := by simpa using hf
      by_cases h17 : b = 17
      · exact q_ins_k17 h b r1 ⟨b0, b1⟩ g1 he c1 hf h17
      · cases hR : byCode b with
        | none => exact q_ins_none h b r1 ⟨b0, b1⟩ g1 he c1 hf h17 hR
        | some R =>
          obtain ⟨rc, rn, sh, rp, rr⟩ := R
          have h6 := byCode_6 hR
          have h8 : sh = 0 ∨ sh = 1 ∨ sh = 2 ∨ sh = 3 ∨ sh = 4 ∨ sh = 5 ∨ sh = 6 ∨ sh = 7 := by
            have a := h6.2.2.2.2.2.1
            have c := h6.2.2.2.2.2.2
            simp only at a c
            omega
          rcases h8 with rfl | rfl | rfl | rfl | rfl | rfl | rfl | rfl
          · exact q_ins_s0 h b r1 ⟨b0, b1⟩ g1 he c1 rc rn rp rr hR
          · -- what its answer is
            have hQ : ∃ W, QAt w0 B s n r1 W := by
              have h2 := (h.set1 r1.pos hpos).set3 r1.e
              have e1 : (⟨r.s, r1.pos, r1.e⟩ : RV) = r1 := by rw [← g1.1]
              exact ⟨_, e1 ▸ h2⟩
            obtain ⟨W, hW⟩ := hQ
            obtain ⟨k, r4, k0, k1, g4, k2, c4⟩ := q_det hW
            by_cases he4 : r4.e = 0
            · by_cases h64 : k = 64
              · exact q_ins_s1_64 h b r1 ⟨b0, b1⟩ g1 he c1 rc rn rp rr hR k r4 k0 k1 g4 c4 he4 h64
              · by_cases h127 : k = 127
                · exact q_ins_s1_127 h b r1 ⟨b0, b1⟩ g1 he c1 rc rn rp rr hR k r4 k0 k1 g4 c4 he4 h127
                · by_cases h126 : k = 126
                  · exact q_ins_s1_126 h b r1 ⟨b0, b1⟩ g1 he c1 rc rn rp rr hR k r4 k0 k1 g4 c4 he4 h126
                  · by_cases h125 : k = 125
                    · exact q_ins_s1_125 h b r1 ⟨b0, b1⟩ g1 he c1 rc rn rp rr hR k r4 k0 k1 g4 c4 he4 h125
                    · by_cases h124 : k = 124
                      · exact q_ins_s1_124 h b r1 ⟨b0, b1⟩ g1 he c1 rc rn rp rr hR k r4 k0 k1 g4 c4 he4 h124
                      · exact q_ins_s1_any h b r1 ⟨b0, b1⟩ g1 he c1 rc rn rp rr hR k r4 k0 k1 g4 c4 he4 h64 h127 h126 h125 h124
            · exact q_ins_s1_no h b r1 ⟨b0, b1⟩ g1 he c1 rc rn rp rr hR k r4 k0 k1 g4 c4 he4 (k2 he4)
          · exact q_ins_s2 h b r1 ⟨b0, b1⟩ g1 he c1 rc rn rp rr hR
          · exact q_ins_s3 h b r1 ⟨b0, b1⟩ g1 he c1 rc rn rp rr hR
          · exact q_ins_s4 h b r1 ⟨b0, b1⟩ g1 he c1 rc rn rp rr hR
          · exact q_ins_s5 h b r1 ⟨b0, b1⟩ g1 he c1 rc rn rp rr hR
          · exact q_ins_s6 h b r1 ⟨b0, b1⟩ g1 he c1 rc rn rp rr hR
          · exact q_ins_s7 h b r1 ⟨b0, b1⟩ g1 he c1 rc rn rp rr hR
  · exact q_ins_no h b r1 ⟨b0, b1⟩ g1 he c1
set_option maxRecDepth 100000 in
set_option maxHeartbeats 4000000 in
theorem ref_instr_out (s : ByteArray) (a : Int) (ha : a < 0 ∨ (s.size : Int) < a) (w : World) : Calls Tryz.prog 23 #[.string s, .int .i64 a] w (AnsIns s a w) := by
  have hans : insAns s.data.toList a = (bareI 0 0 0 [], 0, 1) := by unfold insAns; rw [if_pos (by rw [Array.length_toList]; exact ha)]
  have hB := (Below.refl w.heap.size w).alloc (Nat.le_refl _) (.cells #[.int .i64 0, .int .i64 0, .int .i64 0, .slice none 0 0] 46)
  by_cases h0 : a < 0
  · go_enter Tryz.func23, Tryz.ntmps23
    go_wp2
    refine bodyPost_ret (v := .tuple #[.agg #[.int .i64 0, .int .i64 0, .int .i64 0, .slice none 0 0], .int .i64 0, .int .i64 1]) ?_ rfl ?_
    · rw [results_cell_tmp2 rfl]; go_simp
    · refine ⟨bareI 0 0 0 [], by rw [hans]; rfl, by rw [hans]; rfl, zero_new _ _, ?_⟩
      first | exact hB | exact (((hB.setCell (Nat.le_refl _) _).setCell (Nat.le_refl _) _).setCell (Nat.le_refl _) _).setCell (Nat.le_refl _) _
  · have h1 : (s.size : Int) < a := by omega
    go_enter Tryz.func23, Tryz.ntmps23
    go_wp2
    refine bodyPost_ret (v := .tuple #[.agg #[.int .i64 0, .int .i64 0, .int .i64 0, .slice none 0 0], .int .i64 0, .int .i64 1]) ?_ rfl ?_
    · rw [results_cell_tmp2 rfl]; go_simp
    · refine ⟨bareI 0 0 0 [], by rw [hans]; rfl, by rw [hans]; rfl, zero_new _ _, ?_⟩
      first | exact hB | exact (((hB.setCell (Nat.le_refl _) _).setCell (Nat.le_refl _) _).setCell (Nat.le_refl _) _).setCell (Nat.le_refl _) _
theorem QAt.start (s : ByteArray) (a : Nat) (ha : a ≤ s.size) (hs : s.size ≤ 140737488355328) {w w1 : World} (hb : Below w.heap.size w w1) : QAt w w1.heap.size s s.size ⟨s, a, 0⟩ (w1.alloc (.cells #[.string s, .int .i64 a, .int .i64 s.size, .int .i64 0] 120)) :=
  ⟨hb.alloc hb.size _, heap_alloc_new w1 _, hb.size, by simp, hs, ha, Nat.le_refl _⟩
set_option maxRecDepth 100000 in
set_option maxHeartbeats 8000000 in
theorem ref_instr_in (s : ByteArray) (a : Nat) (ha : a ≤ s.size) (hs : s.size ≤ 140737488355328) (w : World) : Calls Tryz.prog 23 #[.string s, .int .i64 a] w (AnsIns s a w) := by
  have q0 : ¬ (a : Int) < 0 := by omega
  have q1 : ¬ (s.size : Int) < a := by omega
  have hres := heap_alloc_new w (.cells #[.int .i64 0, .int .i64 0, .int .i64 0, .slice none 0 0] 46)
  have hB := (Below.refl w.heap.size w).alloc (Nat.le_refl _) (.cells #[.int .i64 0, .int .i64 0, .int .i64 0, .slice none 0 0] 46)
  have hwa : (w.alloc (.cells #[.int .i64 0, .int .i64 0, .int .i64 0, .slice none 0 0] 46)).heap.size = w.heap.size + 1 := by simp
  have hr := QAt.start s a ha hs hB
  rw [hwa] at hr
  have hr0 := (Below.heap_alloc _ _ _ (by rw [hwa]; omega)).trans hres (a := ((w.alloc (.cells #[.int .i64 0, .int .i64 0, .int .i64 0, .slice none 0 0] 46)).alloc (.cells #[.string s, .int .i64 a, .int .i64 s.size, .int .i64 0] 120)).heap[w.heap.size]?)
  have c2 := q_instr hr
  clear hres
  go_enter Tryz.func23, Tryz.ntmps23
  go_wp2_with fail
  refine c2.mono ?_
  rintro e w2 ⟨⟨op, xa, xb, lp, lc, ls⟩, r2, rfl, g2, h2, m2, hn2⟩
  have hb2 := (m2.block w.heap.size (by simp; omega) (by omega) (by omega)).trans hr0
  obtain ⟨k0, k1, k2, k3, e0, e1, e2, e3, z0, z1, z2, z3⟩ := box_at hb2
  obtain ⟨x0, x1, x2, x3, y0, y1, y2, y3⟩ := h2.reads
  have hne : w.heap.size ≠ w.heap.size + 1 := by omega
  have hlt2 := in_heap6 hb2
  have hBd := h2.below
  clear c2 hr hr0
  dsimp only [InsV.val]
  have h2b := h2.alloc (.cells #[.int .i64 op, .int .i64 xa, .int .i64 xb, .slice lp ls.length lc] 46)
  have hbb := (Below.heap_alloc w2 (.cells #[.int .i64 op, .int .i64 xa, .int .i64 xb, .slice lp ls.length lc] 46) _ hlt2).trans hb2
  have hxb := heap_alloc_new w2 (.cells #[.int .i64 op, .int .i64 xa, .int .i64 xb, .slice lp ls.length lc] 46)
  have hnb : InsNew ((w.alloc (.cells #[.int .i64 0, .int .i64 0, .int .i64 0, .slice none 0 0] 46)).alloc (.cells #[.string s, .int .i64 a, .int .i64 s.size, .int .i64 0] 120)) (w2.alloc (.cells #[.int .i64 op, .int .i64 xa, .int .i64 xb, .slice lp ls.length lc] 46)) ⟨op, xa, xb, lp, lc, ls⟩ := ⟨World.ownsRow.alloc hn2.1 _, hn2.2⟩
  have hs2 : w.heap.size < w2.heap.size := hlt2
  have hlb := in_heap6 hbb
  have hBb := hBd.alloc hBd.size (.cells #[.int .i64 op, .int .i64 xa, .int .i64 xb, .slice lp ls.length lc] 46)
  obtain ⟨_, _, _, _, t0, t1, t2, t3, f0, f1, f2, f3⟩ := box_at hbb
  obtain ⟨_, _, _, _, d0, d1, d2, d3, j0, j1, j2, j3⟩ := box_at hxb
  obtain ⟨x0, x1, x2, x3, y0, y1, y2, y3⟩ := h2b.reads
  clear k0 k1 k2 k3 e0 e1 e2 e3 z0 z1 z2 z3 h2 hb2 hn2 m2 hbb hxb
  by_cases he : r2.e = 0
  · have hans : insAns s.data.toList a = ((⟨op, xa, xb, lp, lc, ls⟩ : InsV).bare, (r2.pos : Int), 0) := by
      unfold insAns
      rw [if_neg (by rw [Array.length_toList]; have e : s.size = s.data.size := rfl; omega), Int.toNat_natCast]
      have hs2 : r2.s = s := g2.1
      rcases g2.2 with ⟨g3, _⟩ | ⟨_, _, g4⟩ | ⟨_, g3, _⟩
      · exact absurd rfl g3
      · rw [show s.data.toList.drop a = (⟨s, a, 0⟩ : RV).rem from rfl, g4]
        simp only
        rw [rem_len (by rw [hs2]; exact h2b.pos), hs2]
      · exact absurd he g3
    rw [he] at x3
    have HE := Lib.hid he
    have HANS := Lib.hid hans
    have HN := Lib.hid hnb
    clear g2 he hans hnb h2b
    go_wp2
    clear hlt2 hs2
    generalize w2.alloc (.cells #[.int .i64 op, .int .i64 xa, .int .i64 xb, .slice lp ls.length lc] 46) = W at *
    go_region
    all_goals
      go_wp2
      refine bodyPost_ret (v := .tuple #[.agg #[.int .i64 op, .int .i64 xa, .int .i64 xb, .slice lp ls.length lc], .int .i64 r2.pos, .int .i64 0]) ?_ rfl ?_
      · rw [results_cell_tmp2 rfl]; go_simp
      · refine ⟨⟨op, xa, xb, lp, lc, ls⟩, by rw [HANS.out]; rfl, by rw [HANS.out], ?_, ((((hBb.setCell (Nat.le_refl _) _).setCell (Nat.le_refl _) _).setCell (Nat.le_refl _) _).setCell (Nat.le_refl _) _).drew⟩
        exact InsNew.down (HN.out.same fun g hg => sets4_other _ _ _ _ (by simp at hg; omega)) (by simp; omega)
  · have hq : (r2.e != 0) = true := by simpa using he
    have hans : insAns s.data.toList a = (bareI 0 0 0 [], 0, r2.e) := by
      unfold insAns
      rw [if_neg (by rw [Array.length_toList]; have e : s.size = s.data.size := rfl; omega), Int.toNat_natCast]
      rcases g2.2 with ⟨g3, _⟩ | ⟨_, g3, _⟩ | ⟨_, g3, g4⟩
      · exact absurd rfl g3
      · exact absurd g3 he
      · rw [show s.data.toList.drop a = (⟨s, a, 0⟩ : RV).rem from rfl, g4]
    have HANS := Lib.hid hans
    clear g2 he hans hnb h2b
    go_wp2
    clear hlt2 hs2
    generalize w2.alloc (.cells #[.int .i64 op, .int .i64 xa, .int .i64 xb, .slice lp ls.length lc] 46) = W at *
    go_region
    all_goals
      go_wp2
      refine bodyPost_ret (v := .tuple #[.agg #[.int .i64 0, .int .i64 0, .int .i64 0, .slice none 0 0], .int .i64 0, .int .i64 r2.e]) ?_ rfl ?_
      · rw [results_cell_tmp2 rfl]; go_simp
      · exact ⟨bareI 0 0 0 [], by rw [HANS.out]; rfl, by rw [HANS.out]; rfl, zero_new _ _, ((((hBb.setCell (Nat.le_refl _) _).setCell (Nat.le_refl _) _).setCell (Nat.le_refl _) _).setCell (Nat.le_refl _) _).drew⟩
theorem ref_instr (s : ByteArray) (a : Int) (hs : s.size ≤ 140737488355328) (w : World) : Calls Tryz.prog 23 #[.string s, .int .i64 a] w (AnsIns s a w) := by
  by_cases ha : a < 0 ∨ (s.size : Int) < a
  · exact ref_instr_out s a ha w
  · obtain ⟨k, rfl⟩ := Int.eq_ofNat_of_zero_le (show 0 ≤ a by omega)
    exact ref_instr_in s k (by omega) hs w
end Go.Proofs.YthfipknfdnfalaaGreatDoor
