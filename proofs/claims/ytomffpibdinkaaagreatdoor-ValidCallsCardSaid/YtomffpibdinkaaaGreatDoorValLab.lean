/-
  Package valid's walk: what a number tells: a type, a label, a local, a global, a power of two: walked. Contracts that the proofs call; no statement is proved here.
-/
import Derived.Test.YtomffpibdinkaaaGreatDoorValMore
namespace Go.Proofs.YtomffpibdinkaaaGreatDoor
open Go.RowKit
set_option linter.unusedVariables false
variable {w0 : World} {B M : Nat} {m : MoV} {lo wh : ByteArray} {s : VS} {sv ov : Value} {w : World}

set_option maxHeartbeats 2000000 in
theorem v_answer (n : Int) (w : World) : Calls Tryz.prog 103 #[.int .i64 n] w fun e w' => e = .returned (.string (b7 (answer7 n))) ∧ w = w' := by
  by_cases h1 : n = 127
  · subst h1
    go_enter Tryz.func103, Tryz.ntmps103
    go_wp2
    go_ret
    exact ⟨rfl, rfl⟩
  · by_cases h2 : n = 126
    · subst h2
      go_enter Tryz.func103, Tryz.ntmps103
      go_wp2
      go_ret
      exact ⟨rfl, rfl⟩
    · have e : answer7 n = [] := by unfold answer7; rw [if_neg h1, if_neg h2]
      rw [e]
      have q1 : (n == 127) = false := beq_eq_false_iff_ne.2 h1
      have q2 : (n == 126) = false := beq_eq_false_iff_ne.2 h2
      clear e
      go_enter Tryz.func103, Tryz.ntmps103
      go_wp2
      go_ret
      exact ⟨rfl, rfl⟩
set_option maxHeartbeats 2000000 in
theorem v_within (n k : Int) (w : World) : Calls Tryz.prog 53 #[.int .i64 n, .int .i64 k] w fun e w' => e = .returned (.bool (decide (0 ≤ n ∧ n < k))) ∧ w = w' := by
  by_cases h1 : 0 ≤ n
  · by_cases h2 : n < k
    · have e : decide (0 ≤ n ∧ n < k) = true := decide_eq_true ⟨h1, h2⟩
      rw [e]
      clear e
      go_enter Tryz.func53, Tryz.ntmps53
      go_wp2
      go_ret
      exact ⟨rfl, rfl⟩
    · have e : decide (0 ≤ n ∧ n < k) = false := decide_eq_false fun h => h2 h.2
      rw [e]
      have h3 : k ≤ n := by omega
      have q : decide (n < k) = false := decide_eq_false h2
      clear e
      go_enter Tryz.func53, Tryz.ntmps53
      go_wp2
      go_ret
      exact ⟨by simp, rfl⟩
  · have e : decide (0 ≤ n ∧ n < k) = false := decide_eq_false fun h => h1 h.1
    rw [e]
    have q : decide (0 ≤ n) = false := decide_eq_false h1
    clear e
    go_enter Tryz.func53, Tryz.ntmps53
    go_wp2
    go_ret
    exact ⟨by simp, rfl⟩
theorem ret_int7 {k : IntKind} {a b : Int} (h : a = b) : Ending.returned (.int k a) = .returned (.int k b) := by rw [h]
set_option maxHeartbeats 4000000 in
theorem v_power (c : Int) (w : World) : Calls Tryz.prog 112 #[.int .i64 c] w fun e w' => e = .returned (.int .i64 (power7 c)) ∧ w = w' := by
  obtain ⟨P, hP⟩ : ∃ P, power7 c = P := ⟨_, rfl⟩
  rw [hP]
  have HP := Lib.hid hP
  clear hP
  go_enter Tryz.func112, Tryz.ntmps112
  go_wp2
  all_goals
    go_ret
    refine ⟨ret_int7 ?_, rfl⟩
    rw [← HP.out]
    unfold power7
    simp only [beq_iff_eq, beq_eq_false_iff_ne, ne_eq] at *
    split
    · first | rfl | (exfalso; omega)
    · split
      · first | rfl | (exfalso; omega)
      · split
        · first | rfl | (exfalso; omega)
        · first | rfl | (exfalso; omega)
/-! ### Locals -/
def vc7 (m : MoV) (lo wh : ByteArray) : VC := ⟨m, lo.data.toList, wh.data.toList⟩
theorem extract_one7 (s : ByteArray) (n : Nat) (h : n < s.size) : s.extract n (n + 1) = b7 [s[n]] := by
  apply ByteArray.ext
  apply Array.toList_inj.1
  rw [ByteArray.data_extract, Array.toList_extract, List.extract_eq_take_drop, b7_list]
  rw [show n + 1 - n = 1 by omega, List.drop_eq_getElem_cons (by rw [Array.length_toList]; exact h)]
  rfl
set_option maxRecDepth 100000 in
set_option maxHeartbeats 4000000 in
theorem v_local (h : WAt w0 B M m lo wh s sv ov w) (hlo : lo.size ≤ 1000000000) (n : Int) (hn : -9223372036854775808 ≤ n ∧ n ≤ 9223372036854775807) : Calls Tryz.prog 110 #[.pointer (some ⟨B, 0, none⟩), .int .i64 n] w (DidV w0 B M m lo wh (local7 (vc7 m lo wh) s n).2 sv ov w (.string (b7 (local7 (vc7 m lo wh) s n).1))) := by
  have x : w.cell? ⟨B, 8, none⟩ = some (.string lo) := h.cell 8
  have x12 : w.cell? ⟨B, 12, none⟩ = some (.bool s.wrong) := h.cell 12
  have f12 := h.free 12
  have hsz : (vc7 m lo wh).locals.length = lo.size := Array.length_toList
  have cw := fun W => v_within n (lo.size : Int) W
  obtain ⟨n0, n1⟩ := hn
  by_cases hi : 0 ≤ n ∧ n < (lo.size : Int)
  · have hd : decide (0 ≤ n ∧ n < (lo.size : Int)) = true := decide_eq_true hi
    rw [hd] at cw
    obtain ⟨j, rfl⟩ := Int.eq_ofNat_of_zero_le hi.1
    have hj : j < lo.size := by omega
    have e : local7 (vc7 m lo wh) s (j : Int) = ([lo[j]], s) := by
      unfold local7
      rw [if_pos ⟨hi.1, by rw [hsz]; exact hi.2⟩, Int.toNat_natCast]
      have : (vc7 m lo wh).locals[j]? = some lo[j] := by
        show lo.data.toList[j]? = some lo[j]
        rw [List.getElem?_eq_getElem (by rw [Array.length_toList]; exact hj)]
        rfl
      rw [this]
      rfl
    have ex := extract_one7 lo j hj
    rw [e, ← ex]
    have z0 : (0 : Int) ≤ (j : Int) + 1 := by omega
    have z1 : (j : Int) + 1 ≤ (lo.size : Int) := by omega
    have z2 : (j : Int) ≤ (j : Int) + 1 := by omega
    have z3 : ((j : Int) + 1).toNat = j + 1 := by omega
    have z4 : IntKind.i64.wrap ((j : Int) + 1) = (j : Int) + 1 := IntWalk.i64_in _ (by omega)
    clear hd e ex hsz hi
    go_enter Tryz.func110, Tryz.ntmps110
    go_wp2_with (go_at_call 53; (with_reducible refine (cw _).mono ?_); rintro e w1 ⟨rfl, rfl⟩)
    go_ret
    exact ⟨sv, ov, rfl, h, MovV.refl _ _ _ _⟩
  · have hd : decide (0 ≤ n ∧ n < (lo.size : Int)) = false := decide_eq_false hi
    rw [hd] at cw
    have e : local7 (vc7 m lo wh) s n = ([], s.ask false) := by
      unfold local7
      rw [if_neg (by rw [hsz]; exact hi)]
    have e2 : s.ask false = { s with wrong := true } := by unfold VS.ask; simp
    rw [e, e2]
    obtain ⟨h2, m2⟩ := h.setWrong
    clear h hd e e2 hi hsz
    go_enter Tryz.func110, Tryz.ntmps110
    go_wp2_with (go_at_call 53; (with_reducible refine (cw _).mono ?_); rintro e w1 ⟨rfl, rfl⟩)
    go_ret
    exact ⟨sv, ov, rfl, h2, m2⟩
/-! ### Labels -/
theorem opnB_at : ∀ (q : List FrV) (n : Nat) (hn : n < q.length) (i : Nat), i < 4 → (opnB q)[(q.length - 1 - n) * 4 + i]? = (q[n]).row[i]?
  | b :: o, 0, hn, i, hi => by
    rw [show (b :: o).length - 1 - 0 = o.length by simp]
    exact opnB_top b o i
  | b :: o, n + 1, hn, i, hi => by
    have hn' : n < o.length := by simpa using hn
    rw [opnB_cons, List.getElem?_append_left (by rw [opnB_len]; simp; omega), show (b :: o).length - 1 - (n + 1) = o.length - 1 - n by simp; omega]
    exact opnB_at o n hn' i hi
set_option maxRecDepth 100000 in
set_option maxHeartbeats 4000000 in
theorem v_label (h : WAt w0 B M m lo wh s sv ov w) (n : Int) (hn : -9223372036854775808 ≤ n ∧ n ≤ 9223372036854775807) : Calls Tryz.prog 108 #[.pointer (some ⟨B, 0, none⟩), .int .i64 n] w (DidV w0 B M m lo wh (s.label n).2 sv ov w (.string (b7 (s.label n).1))) := by
  obtain ⟨_, x, _, _⟩ := h.lists
  have x12 : w.cell? ⟨B, 12, none⟩ = some (.bool s.wrong) := h.cell 12
  have f12 := h.free 12
  have hp := h.opn
  have hfew := h.few.2
  have cw := fun W => v_within n (s.opens.length : Int) W
  obtain ⟨n0, n1⟩ := hn
  obtain ⟨p, c, rfl⟩ : ∃ p c, ov = .slice p s.opens.length c := by
    rcases own_any7 hp with ⟨rfl, h1, _⟩ | ⟨g, c, rfl, _⟩
    · exact ⟨none, 0, by rw [h1]⟩
    · exact ⟨_, _, rfl⟩
  by_cases hi : 0 ≤ n ∧ n < (s.opens.length : Int)
  · have hd : decide (0 ≤ n ∧ n < (s.opens.length : Int)) = true := decide_eq_true hi
    rw [hd] at cw
    obtain ⟨j, rfl⟩ := Int.eq_ofNat_of_zero_le hi.1
    have hj : j < s.opens.length := by omega
    have e : s.label (j : Int) = (if s.opens[j].code = 3 then [] else s.opens[j].result, s) := by
      unfold VS.label
      rw [if_pos hi, Int.toNat_natCast, List.getElem?_eq_getElem hj]
    rw [e]
    rcases own_any7 hp with ⟨_, h1, _⟩ | ⟨g, c2, e3, hg1, hg2, hc2⟩
    · omega
    · cases e3
      have hcell : ∀ i, i < 4 → w.cell? ⟨g, (s.opens.length - 1 - j) * 4 + i, none⟩ = s.opens[j].row[i]? := fun i hi2 => by
        rw [hp.cellAt _ (by omega), opnB_at _ _ hj _ hi2]
      have k0 : w.cell? ⟨g, (s.opens.length - 1 - j) * 4, none⟩ = some (.int .i64 s.opens[j].code) := hcell 0 (by omega)
      have k1 : w.cell? ⟨g, (s.opens.length - 1 - j) * 4 + 1, none⟩ = some (.string (b7 s.opens[j].result)) := hcell 1 (by omega)
      have k2 : w.cell? ⟨g, (s.opens.length - 1 - j) * 4 + 2, none⟩ = some (.int .i64 s.opens[j].height) := hcell 2 (by omega)
      have k3 : w.cell? ⟨g, (s.opens.length - 1 - j) * 4 + 3, none⟩ = some (.bool s.opens[j].dead) := hcell 3 (by omega)
      clear hcell e hp hd
      generalize s.opens[j] = b at *
      generalize hL : s.opens.length = L at *
      obtain ⟨i, hi3⟩ : ∃ i, L - 1 - j = i := ⟨_, rfl⟩
      rw [hi3] at k0 k1 k2 k3
      have zi : (L : Int) - 1 - (j : Int) = (i : Int) := by omega
      have z0 : (0 : Int) ≤ (i : Int) := by omega
      have z1 : (i : Int) < (L : Int) := by omega
      have z5 : IntKind.i64.wrap ((L : Int) - 1) = (L : Int) - 1 := IntWalk.i64_in _ (by omega)
      have z6 : IntKind.i64.wrap (i : Int) = (i : Int) := IntWalk.i64_in _ (by omega)
      have HW := Lib.hid h
      clear hL hi hi3 h
      have MW := Lib.hid (((MovV.refl B sv (.slice (some ⟨g, 0, none⟩) L c) w).then ((Below.refl _ _).alloc (Nat.le_refl _) (.cells #[.int .i64 b.code, .string (b7 b.result), .int .i64 b.height, .bool b.dead] 115))).then (Below.refl _ _).drew)
      by_cases hb3 : b.code = 3
      · rw [if_pos hb3]
        go_enter Tryz.func108, Tryz.ntmps108
        go_wp2_with (go_at_call 53; (with_reducible refine (cw _).mono ?_); rintro e w1 ⟨rfl, rfl⟩)
        rw [hb3] at k0 MW
        clear hb3
        go_region_held3 (fun W => W.cell? ⟨B, 11, none⟩ = some (.slice (some ⟨g, 0, none⟩) L c) ∧ W.cell? ⟨g, i * 4, none⟩ = some (.int .i64 3) ∧ W.cell? ⟨g, i * 4 + 1, none⟩ = some (.string (b7 b.result)) ∧ W.cell? ⟨g, i * 4 + 2, none⟩ = some (.int .i64 b.height) ∧ W.cell? ⟨g, i * 4 + 3, none⟩ = some (.bool b.dead)) (go_keep) (fail)
        go_wp2
        go_ret
        exact ⟨sv, _, rfl, (HW.out.alloc _).drew, MW.out⟩
      · rw [if_neg hb3]
        have q3 : (b.code == 3) = false := beq_eq_false_iff_ne.2 hb3
        clear hb3
        go_enter Tryz.func108, Tryz.ntmps108
        go_wp2_with (go_at_call 53; (with_reducible refine (cw _).mono ?_); rintro e w1 ⟨rfl, rfl⟩)
        go_region_held3 (fun W => W.cell? ⟨B, 11, none⟩ = some (.slice (some ⟨g, 0, none⟩) L c) ∧ W.cell? ⟨g, i * 4, none⟩ = some (.int .i64 b.code) ∧ W.cell? ⟨g, i * 4 + 1, none⟩ = some (.string (b7 b.result)) ∧ W.cell? ⟨g, i * 4 + 2, none⟩ = some (.int .i64 b.height) ∧ W.cell? ⟨g, i * 4 + 3, none⟩ = some (.bool b.dead)) (go_keep) (fail)
        go_wp2
        go_ret
        exact ⟨sv, _, rfl, (HW.out.alloc _).drew, MW.out⟩
  · have hd : decide (0 ≤ n ∧ n < (s.opens.length : Int)) = false := decide_eq_false hi
    rw [hd] at cw
    have e : s.label n = ([], s.ask false) := by
      unfold VS.label
      rw [if_neg hi]
    have e2 : s.ask false = { s with wrong := true } := by unfold VS.ask; simp
    rw [e, e2]
    obtain ⟨h2, m2⟩ := h.setWrong
    clear h hd e e2 hi hp
    go_enter Tryz.func108, Tryz.ntmps108
    go_wp2_with (go_at_call 53; (with_reducible refine (cw _).mono ?_); rintro e w1 ⟨rfl, rfl⟩)
    go_ret
    exact ⟨_, _, rfl, h2, m2⟩
/-! ### Globals -/
set_option maxRecDepth 100000 in
set_option maxHeartbeats 4000000 in
theorem v_global (h : WAt w0 B M m lo wh s sv ov w) (hm : ModAt w0 m) (n : Int) (hn : -9223372036854775808 ≤ n ∧ n ≤ 9223372036854775807) : Calls Tryz.prog 111 #[.pointer (some ⟨B, 0, none⟩), .int .i64 n] w (DidV w0 B M m lo wh (global7 (vc7 m lo wh) s n).2.2 sv ov w (.tuple #[.string (b7 (global7 (vc7 m lo wh) s n).1), .bool (global7 (vc7 m lo wh) s n).2.1])) := by
  have x : w.cell? ⟨B, 3, none⟩ = some (.slice m.gp m.globals.length m.gc) := h.cell 3
  have x12 : w.cell? ⟨B, 12, none⟩ = some (.bool s.wrong) := h.cell 12
  have f12 := h.free 12
  have cw := fun W => v_within n (m.globals.length : Int) W
  have hgl := hm.globalsMost
  unfold mostThings at hgl
  obtain ⟨n0, n1⟩ := hn
  by_cases hi : 0 ≤ n ∧ n < (m.globals.length : Int)
  · have hd : decide (0 ≤ n ∧ n < (m.globals.length : Int)) = true := decide_eq_true hi
    rw [hd] at cw
    obtain ⟨j, rfl⟩ := Int.eq_ofNat_of_zero_le hi.1
    have hj : j < m.globals.length := by omega
    have e : global7 (vc7 m lo wh) s (j : Int) = (answer7 m.globals[j].type, m.globals[j].may, s) := by
      unfold global7
      rw [show (vc7 m lo wh).m.globals = m.globals from rfl, if_pos hi, Int.toNat_natCast, List.getElem?_eq_getElem hj]
    rw [e]
    have hR := hm.globals.below h.below (Nat.le_refl _)
    obtain ⟨gb, go, hp, hgb⟩ := hR.start hj rfl
    rw [hp] at hR x
    have k0 : w.cell? ⟨gb, go + j * 3 + 0, none⟩ = some (.int .i64 m.globals[j].type) := hR.cell hj 0 rfl
    have k1 : w.cell? ⟨gb, go + j * 3 + 1, none⟩ = some (.bool m.globals[j].may) := hR.cell hj 1 rfl
    have k2 : w.cell? ⟨gb, go + j * 3 + 2, none⟩ = some (.int .i64 m.globals[j].init) := hR.cell hj 2 rfl
    simp only [Nat.add_zero] at k0
    have HW := Lib.hid h
    clear e hp hd hR hm h
    generalize m.globals[j] = b at *
    generalize hL : m.globals.length = L at *
    have z0 : (0 : Int) ≤ (j : Int) := by omega
    have z1 : (j : Int) < (L : Int) := by omega
    have ca := fun W => v_answer b.type W
    have MW := fun q => Lib.hid (((MovV.refl B sv ov w).then ((Below.refl _ _).alloc (Nat.le_refl _) (.cells #[.int .i64 b.type, .bool b.may, .int .i64 b.init] 71))).drewN q)
    have WW := fun q => Lib.hid ((HW.out.alloc (.cells #[.int .i64 b.type, .bool b.may, .int .i64 b.init] 71)).drewN q)
    clear hL hi HW
    go_enter Tryz.func111, Tryz.ntmps111
    go_wp2_with (go_at_call 53; (with_reducible refine (cw _).mono ?_); rintro e w1 ⟨rfl, rfl⟩)
    go_quiet ((go_at_call 103; refine Calls.quiet_of_same ((ca _).mono fun e w' ⟨h1, h2⟩ => ⟨h1, h2.symm⟩)))
    go_wp2
    go_ret2
    exact ⟨sv, ov, rfl, (WW _).out, (MW _).out⟩
  · have hd : decide (0 ≤ n ∧ n < (m.globals.length : Int)) = false := decide_eq_false hi
    rw [hd] at cw
    have e : global7 (vc7 m lo wh) s n = ([], false, s.ask false) := by
      unfold global7
      rw [show (vc7 m lo wh).m.globals = m.globals from rfl, if_neg hi]
    have e2 : s.ask false = { s with wrong := true } := by unfold VS.ask; simp
    rw [e, e2]
    obtain ⟨h2, m2⟩ := h.setWrong
    clear h hd e e2 hi hm
    go_enter Tryz.func111, Tryz.ntmps111
    go_wp2_with (go_at_call 53; (with_reducible refine (cw _).mono ?_); rintro e w1 ⟨rfl, rfl⟩)
    go_ret2
    exact ⟨_, _, rfl, h2, m2⟩
end Go.Proofs.YtomffpibdinkaaaGreatDoor
