/-
  The statement on what instruction stands at a place, walked. Only its frame proves it.
-/
import Derived.Test.YthfipknfdnfalaaGreatDoorKaDecModW
import Derived.Test.YthfipknfdnfalaaGreatDoorKaRfInstr
import Derived.Test.YthfipknfdnfalaaGreatDoorKaModRefSameI
namespace Go.Proofs.YthfipknfdnfalaaGreatDoor
open Go.RowKit
set_option linter.unusedVariables false
theorem same_ins6 {x y : InsV} (h : x.bare = y.bare) : sameIns x y = true := by
  obtain ⟨op, a, b, lp, lc, ls⟩ := x
  obtain ⟨op', a', b', lp', lc', ls'⟩ := y
  simp only [InsV.bare, InsV.mk.injEq] at h
  unfold sameIns
  simp [h]
set_option maxRecDepth 100000 in
set_option maxHeartbeats 8000000 in
theorem decInstrs_walk (s : ByteArray) (at0 : Int) (hs : s.size ≤ 140737488355328) (w : World) (hLaid : Laid w) :
    Calls Tryz.prog 4 #[.string s, .int .i64 at0] w fun e w' => e = .returned (.bool true) ∧ Below w.heap.size w w' := by
  have c1 := examples6 w hLaid
  obtain ⟨R, hR⟩ : ∃ R, insAns s.data.toList at0 = R := ⟨_, rfl⟩
  obtain ⟨R1, R2, R3⟩ := R
  go_enter Tryz.func4, Tryz.ntmps4
  go_wp2_with fail
  refine c1.mono ?_
  rintro e w1 ⟨rfl, hb1⟩
  have c2 := dec_instr s at0 (by omega) w1 (hLaid.below hb1)
  unfold AnsIns at c2
  rw [hR] at c2
  clear c1
  go_wp2_with fail
  refine c2.mono ?_
  rintro e w2 ⟨⟨xo, xa, xb, xp, xc, xl⟩, rfl, hx, hnx, hb2⟩
  have hB2 := belt6 hb1 (Nat.le_refl _) hb2
  have hix := hnx.insAt
  have c3 := fun W => ref_instr s at0 hs W
  unfold AnsIns at c3
  rw [hR] at c3
  clear c2
  simp only [InsV.val]
  go_wp2_with fail
  refine (c3 _).mono ?_
  rintro e w3 ⟨⟨yo, ya, yb, yp, yc, yl⟩, rfl, hy, hny, hb3⟩
  have hx3 := (hb3.block w2.heap.size (by simp)).trans (heap_alloc_new w2 (.cells #[.int .i64 xo, .int .i64 xa, .int .i64 xb, .slice xp xl.length xc] 46))
  have hB2a := hB2.alloc hB2.size (.cells #[.int .i64 xo, .int .i64 xa, .int .i64 xb, .slice xp xl.length xc] 46)
  have hB3 : Below w.heap.size w w3 := belt6 hB2a (Nat.le_refl _) hb3
  have hix2 := hix.below ((Below.refl w2.heap.size w2).alloc (Nat.le_refl _) (.cells #[.int .i64 xo, .int .i64 xa, .int .i64 xb, .slice xp xl.length xc] 46)) (Nat.le_refl _)
  have hix3 := (hix2.below hb3 (Nat.le_refl _)).below ((Below.refl w3.heap.size w3).alloc (Nat.le_refl _) (.cells #[.int .i64 yo, .int .i64 ya, .int .i64 yb, .slice yp yl.length yc] 46)) (Nat.le_refl _)
  have hiy3 := hny.insAt.below ((Below.refl w3.heap.size w3).alloc (Nat.le_refl _) (.cells #[.int .i64 yo, .int .i64 ya, .int .i64 yb, .slice yp yl.length yc] 46)) (Nat.le_refl _)
  have c4 := ref_sameIns ⟨xo, xa, xb, xp, xc, xl⟩ ⟨yo, ya, yb, yp, yc, yl⟩ _ hix3 hiy3
  rw [same_ins6 (hx.trans hy.symm)] at c4
  simp only [InsV.val] at c4 ⊢
  obtain ⟨p0, p1, p2, p3, _⟩ := box_at hx3
  obtain ⟨_, _, _, _, q0, q1, q2, q3, _⟩ := box_at (heap_alloc_new w3 (.cells #[.int .i64 yo, .int .i64 ya, .int .i64 yb, .slice yp yl.length yc] 46))
  have hlt := in_heap6 hx3
  have HB := Lib.hid (hB3.alloc hB3.size (.cells #[.int .i64 yo, .int .i64 ya, .int .i64 yb, .slice yp yl.length yc] 46))
  clear hx hy hnx hny hix hix2 hix3 hiy3 hB2 hB2a hb3 c3 hx3 hR hB3 hb1 hb2
  go_wp2_with fail
  refine c4.mono ?_
  rintro e w4 ⟨rfl, hb4⟩
  clear c4
  go_wp2
  go_ret
  exact ⟨rfl, belt6 HB.out (Nat.le_refl _) hb4⟩
end Go.Proofs.YthfipknfdnfalaaGreatDoor
