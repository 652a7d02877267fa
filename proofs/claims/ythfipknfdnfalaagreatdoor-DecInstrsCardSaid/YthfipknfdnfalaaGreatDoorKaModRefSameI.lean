/-
  Which instructions, and functions, are the same, by the document's own answer (chapter 4): walked. A contract that the proofs call; no statement is proved here.
-/
import Derived.Test.YthfipknfdnfalaaGreatDoorKaOpRefFind
import Derived.Deep.QuietTactic
import Derived.BigQuiet
namespace Go.Proofs.YthfipknfdnfalaaGreatDoor
open Go.RowKit
theorem drop_same {α : Type} [DecidableEq α] {l m : List α} {k : Nat} (h1 : k < l.length) (h2 : k < m.length) : decide (l.drop k = m.drop k) = (decide (l[k] = m[k]) && decide (l.drop (k + 1) = m.drop (k + 1))) := by
  rw [List.drop_eq_getElem_cons h1, List.drop_eq_getElem_cons h2]
  simp only [List.cons.injEq, Bool.decide_and]
theorem boxed2 {w w1 : World} {a b c d a' b' c' d' : Value} {t : TypeId} (hB : Below (w.heap.size + 1 + 1) ((w.alloc (.cells #[a, b, c, d] t)).alloc (.cells #[a', b', c', d'] t)) w1) :
    w1.cell? ⟨w.heap.size, 0, none⟩ = some a ∧ w1.cell? ⟨w.heap.size, 1, none⟩ = some b ∧ w1.cell? ⟨w.heap.size, 2, none⟩ = some c ∧ w1.cell? ⟨w.heap.size, 3, none⟩ = some d ∧
    w1.cell? ⟨w.heap.size + 1, 0, none⟩ = some a' ∧ w1.cell? ⟨w.heap.size + 1, 1, none⟩ = some b' ∧ w1.cell? ⟨w.heap.size + 1, 2, none⟩ = some c' ∧ w1.cell? ⟨w.heap.size + 1, 3, none⟩ = some d' := by
  have h : ∀ j, w1.cell? ⟨w.heap.size, j, none⟩ = #[a, b, c, d][j]? := fun j => by
    rw [hB.cell (p := ⟨w.heap.size, j, none⟩) (by show w.heap.size < _; omega), World.cell?_alloc_lt _ _ _ (by simp), World.cell?_alloc_new]
  have g : ∀ j, w1.cell? ⟨w.heap.size + 1, j, none⟩ = #[a', b', c', d'][j]? := fun j => by
    rw [hB.cell (p := ⟨w.heap.size + 1, j, none⟩) (by show w.heap.size + 1 < _; omega), show w.heap.size + 1 = (w.alloc (.cells #[a, b, c, d] t)).heap.size by simp, World.cell?_alloc_new]
  exact ⟨h 0, h 1, h 2, h 3, g 0, g 1, g 2, g 3⟩
theorem bdrewN {B : Nat} {a w : World} (h : Below B a w) (q : Nat) : Below B a (w.drewN q) := ⟨h.os, h.tape, h.output, h.size, h.block⟩
set_option maxRecDepth 100000 in
set_option maxHeartbeats 4000000 in
theorem ref_sameIns_ne (x y : InsV) (h : ¬ (x.op = y.op ∧ x.a = y.a ∧ x.b = y.b ∧ x.ls.length = y.ls.length)) (w : World) :
    Calls Tryz.prog 24 #[x.val, y.val] w fun e w' => e = .returned (.bool false) ∧ Below w.heap.size w w' := by
  obtain ⟨xo, xa, xb, xp, xc, xl⟩ := x
  obtain ⟨yo, ya, yb, yp, yc, yl⟩ := y
  simp only [InsV.val] at *
  generalize xl.length = n at *
  generalize yl.length = m at *
  have hB := (((Below.refl w.heap.size w).alloc (Nat.le_refl _) (.cells #[.int .i64 xo, .int .i64 xa, .int .i64 xb, .slice xp n xc] 46)).alloc (by simp) (.cells #[.int .i64 yo, .int .i64 ya, .int .i64 yb, .slice yp m yc] 46))
  by_cases h1 : xo = yo
  · subst h1
    by_cases h2 : xa = ya
    · subst h2
      by_cases h3 : xb = yb
      · subst h3
        have n4 : ((n : Int) != (m : Int)) = true := by have : n ≠ m := fun e => h ⟨rfl, rfl, rfl, e⟩; simp; omega
        clear h
        go_enter Tryz.func24, Tryz.ntmps24
        go_wp2
        go_ret
        exact ⟨rfl, hB⟩
      · have n3 : (xb != yb) = true := by simpa using h3
        clear h
        go_enter Tryz.func24, Tryz.ntmps24
        go_wp2
        go_ret
        exact ⟨rfl, hB⟩
    · have n2 : (xa != ya) = true := by simpa using h2
      clear h
      go_enter Tryz.func24, Tryz.ntmps24
      go_wp2
      go_ret
      exact ⟨rfl, hB⟩
  · have n1 : (xo != yo) = true := by simpa using h1
    clear h
    go_enter Tryz.func24, Tryz.ntmps24
    go_wp2
    go_ret
    exact ⟨rfl, hB⟩
set_option maxRecDepth 100000 in
set_option maxHeartbeats 4000000 in
theorem ref_sameIns_eq (op a b : Int) (xp yp : Option Addr) (xc yc n : Nat) (xl yl : List Int) (hx : xl.length = n) (hy : yl.length = n) (hn : n ≤ 17592186044416) (w : World) (hX : IntsAt w xp xl) (hY : IntsAt w yp yl) :
    Calls Tryz.prog 24 #[.agg #[.int .i64 op, .int .i64 a, .int .i64 b, .slice xp n xc], .agg #[.int .i64 op, .int .i64 a, .int .i64 b, .slice yp n yc]] w fun e w' => e = .returned (.bool (decide (xl = yl))) ∧ Below w.heap.size w w' := by
  have hB0 := (((Below.refl w.heap.size w).alloc (Nat.le_refl _) (.cells #[.int .i64 op, .int .i64 a, .int .i64 b, .slice xp n xc] 46)).alloc (by simp) (.cells #[.int .i64 op, .int .i64 a, .int .i64 b, .slice yp n yc] 46))
  have hB := Below.refl (w.heap.size + 1 + 1) ((w.alloc (.cells #[.int .i64 op, .int .i64 a, .int .i64 b, .slice xp n xc] 46)).alloc (.cells #[.int .i64 op, .int .i64 a, .int .i64 b, .slice yp n yc] 46))
  obtain ⟨R, hR⟩ : ∃ R, R = decide (xl = yl) := ⟨_, rfl⟩
  rw [← hR]
  have HR := Lib.hid hR
  have HN := Lib.hid (And.intro hx hy)
  clear hR hx hy
  go_enter Tryz.func24, Tryz.ntmps24
  go_wp2
  go_loopw [5] (fun i wr => ∃ k : Nat, k ≤ n ∧ i = .int .i64 k ∧ Below (w.heap.size + 1 + 1) ((w.alloc (.cells #[.int .i64 op, .int .i64 a, .int .i64 b, .slice xp n xc] 46)).alloc (.cells #[.int .i64 op, .int .i64 a, .int .i64 b, .slice yp n yc] 46)) wr ∧ Hid (R = decide (xl.drop k = yl.drop k))) (fun i _ => n - (intOf i).toNat)
  case atStart => exact ⟨0, by omega, rfl, hB, HR⟩
  case round =>
    clear HR hB
    obtain ⟨k, hk, rfl, hB, HK⟩ := hrel
    have hBw := hB0.trans (hB.mono (by omega))
    obtain ⟨_, _, _, q3, _, _, _, s3⟩ := boxed2 hB
    by_cases hlt : k < n
    · have h1 : k < xl.length := by have := HN.out; omega
      have h2 : k < yl.length := by have := HN.out; omega
      obtain ⟨b1, o1, e1, hb1, hc1⟩ := hX.below hBw (Nat.le_refl _) k h1
      obtain ⟨b2, o2, e2, hb2, hc2⟩ := hY.below hBw (Nat.le_refl _) k h2
      have hD := HK.out
      rw [drop_same h1 h2] at hD
      clear hX hY
      subst e1 e2
      generalize xl[k] = u at hc1 hD
      generalize yl[k] = v at hc2 hD
      by_cases huv : u = v
      · subst huv
        have HD := Lib.hid hD
        clear hD
        go_wp2
        go_quiet (fail)
        go_wp2
        go_roundw
        case rel => exact ⟨k + 1, by omega, by go_num, bdrewN hB _, Lib.hid (by have := HD.out; simpa using this)⟩
        case measure => simp [intOf]; omega
      · have n1 : (u != v) = true := by simpa using huv
        have HD := Lib.hid (show R = false by rw [hD]; simp [huv])
        clear hD
        go_wp2
        go_quiet (fail)
        go_wp2
        go_ret
        exact ⟨ret_bool HD.out, bdrewN hBw _⟩
    · have HD := Lib.hid (show R = true by rw [HK.out, List.drop_eq_nil_of_le (by have := HN.out; omega), List.drop_eq_nil_of_le (by have := HN.out; omega)]; simp)
      go_wp2
      go_ret
      exact ⟨ret_bool HD.out, hBw⟩
theorem ref_sameIns (x y : InsV) (w : World) (hX : InsAt w x) (hY : InsAt w y) :
    Calls Tryz.prog 24 #[x.val, y.val] w fun e w' => e = .returned (.bool (sameIns x y)) ∧ Below w.heap.size w w' := by
  by_cases h : x.op = y.op ∧ x.a = y.a ∧ x.b = y.b ∧ x.ls.length = y.ls.length
  · have c := ref_sameIns_eq x.op x.a x.b x.lp y.lp x.lc y.lc x.ls.length x.ls y.ls rfl h.2.2.2.symm hX.2.1 w hX.1 hY.1
    have e : y.val = .agg #[.int .i64 x.op, .int .i64 x.a, .int .i64 x.b, .slice y.lp x.ls.length y.lc] := by simp only [InsV.val]; rw [h.1, h.2.1, h.2.2.1, h.2.2.2]
    rw [e]
    have e2 : sameIns x y = decide (x.ls = y.ls) := by unfold sameIns; simp [h.1, h.2.1, h.2.2.1]
    rw [e2]
    exact c
  · have c := ref_sameIns_ne x y h w
    have e2 : sameIns x y = false := by
      unfold sameIns
      refine decide_eq_false fun e => h ⟨e.1, e.2.1, e.2.2.1, by rw [e.2.2.2]⟩
    rw [e2]
    exact c
end Go.Proofs.YthfipknfdnfalaaGreatDoor
