/-
  Facts and contracts that the proof calls.
-/
import Derived.Test.YtomffpibdinkaaaGreatDoorVbModLib
import Derived.Test.YtomffpibdinkaaaGreatDoorVbOpSome
namespace Go.Proofs.YtomffpibdinkaaaGreatDoor
set_option maxRecDepth 100000
set_option maxHeartbeats 16000000
open Go.RowKit
theorem box_keep {w w1 : World} {cs : Array Value} {t : TypeId} (hb : Below (w.alloc (.cells cs t)).heap.size (w.alloc (.cells cs t)) w1) : (∀ j, w1.cell? ⟨w.heap.size, j, none⟩ = cs[j]?) ∧ (∀ (b o : Nat), b < w.heap.size → w1.cell? ⟨b, o, none⟩ = w.cell? ⟨b, o, none⟩) ∧ Below w.heap.size w w1 := by
  refine ⟨fun j => ?_, fun b o h => ?_, ((Below.refl _ w).alloc (Nat.le_refl _) _).trans (hb.mono (by simp))⟩
  · rw [hb.cell (p := ⟨w.heap.size, j, none⟩) (by simp), World.cell?_alloc_new]
  · rw [hb.cell (p := ⟨b, o, none⟩) (by simp; omega), World.cell?_alloc_lt _ _ _ h]
theorem enters_within : ∀ args w, (callFunc 58 args).run Tryz.prog w = .ok (.enter 58 args) w := enters_of Tryz.func58 (by kernel_rfl) rfl
theorem enters_kinds : ∀ args w, (callFunc 59 args).run Tryz.prog w = .ok (.enter 59 args) w := enters_of Tryz.func59 (by kernel_rfl) rfl
theorem r1_says (w0 : World) (a b : Nat) (la lb : Array Value) (p q : ByteArray → Bool) (ca : w0.cell? ⟨a, 0, none⟩ = some (.func (.func 59) #[] la)) (cb : w0.cell? ⟨b, 0, none⟩ = some (.func (.func 59) #[] lb))
    (sa : Says 59 la .string anyStr p w0) (sb : Says 59 lb .string anyStr q w0) :
    Says 36 #[.pointer (some ⟨a, 0, none⟩), .pointer (some ⟨b, 0, none⟩)] TyV.val anyTy (fun t => p t.params && q t.results) w0 := by
  intro x w hB hx
  obtain ⟨xp, xr⟩ := x
  have eg := enters_kinds
  have la0 := in_heap ca
  have lb0 := in_heap cb
  have hs := hB.size
  have da := (hB.cell (p := ⟨a, 0, none⟩) la0).trans ca
  have db := (hB.cell (p := ⟨b, 0, none⟩) lb0).trans cb
  have u1 := fun W (hW : Below w.heap.size w W) => sa xp W (hB.trans (hW.mono hs)) hx.1
  have u2 := fun W (hW : Below w.heap.size w W) => sb xr W (hB.trans (hW.mono hs)) hx.2
  have ka := fun o => (World.cell?_alloc_lt w o (⟨a, 0, none⟩ : Addr) (Nat.lt_of_lt_of_le la0 hs)).trans da
  have kb := fun o => (World.cell?_alloc_lt w o (⟨b, 0, none⟩ : Addr) (Nat.lt_of_lt_of_le lb0 hs)).trans db
  have hlb : b < w.heap.size := Nat.lt_of_lt_of_le lb0 hs
  simp only [TyV.val]
  generalize p xp = Y at u1 ⊢
  generalize q xr = Z at u2 ⊢
  change Calls _ _ #[.agg #[.string xp, .string xr], .pointer (some ⟨a, 0, none⟩), .pointer (some ⟨b, 0, none⟩)] _ _
  clear sa sb ca cb hB hx da
  have hal := fun o => (Below.refl w.heap.size w).alloc (Nat.le_refl _) o
  cases Y with
  | false =>
    go_enter Tryz.func36, Tryz.ntmps36
    go_wp2_with (go_at_fn 59; (with_reducible refine (u1 _ (hal _)).mono ?_); rintro e w1 ⟨rfl, hb1⟩)
    go_ret
    exact ⟨rfl, (box_keep hb1).2.2⟩
  | true =>
    go_enter Tryz.func36, Tryz.ntmps36
    go_wp2_with (first
      | (go_at_fn 59; (with_reducible refine (u1 _ (hal _)).mono ?_); rintro e w1 ⟨rfl, hb1⟩; have ⟨m0, m1, m2⟩ := box_keep hb1; have n1 : w1.cell? ⟨w.heap.size, 1, none⟩ = some (.string xr) := m0 1; have n2 := (m1 b 0 hlb).trans db; clear m0 m1)
      | (go_at_fn 59; (with_reducible refine (u2 _ m2).mono ?_); rintro e w2 ⟨rfl, hb2⟩))
    go_ret
    exact ⟨by cases Z <;> rfl, bnext m2 m2.size hb2⟩
theorem r2_says (w0 : World) (a b : Nat) (la lb : Array Value) (p q : Int → Bool) (ca : w0.cell? ⟨a, 0, none⟩ = some (.func (.func 58) #[] la)) (cb : w0.cell? ⟨b, 0, none⟩ = some (.func (.func 58) #[] lb))
    (sa : Says 58 la (.int .i64) anyInt p w0) (sb : Says 58 lb (.int .i64) anyInt q w0) :
    Says 38 #[.pointer (some ⟨a, 0, none⟩), .pointer (some ⟨b, 0, none⟩)] MemV.val anyMem (fun t => p t.min && q t.max) w0 := by
  intro x w hB hx
  obtain ⟨xp, xr⟩ := x
  have eg := enters_within
  have la0 := in_heap ca
  have lb0 := in_heap cb
  have hs := hB.size
  have da := (hB.cell (p := ⟨a, 0, none⟩) la0).trans ca
  have db := (hB.cell (p := ⟨b, 0, none⟩) lb0).trans cb
  have u1 := fun W (hW : Below w.heap.size w W) => sa xp W (hB.trans (hW.mono hs)) hx.1
  have u2 := fun W (hW : Below w.heap.size w W) => sb xr W (hB.trans (hW.mono hs)) hx.2
  have ka := fun o => (World.cell?_alloc_lt w o (⟨a, 0, none⟩ : Addr) (Nat.lt_of_lt_of_le la0 hs)).trans da
  have hlb : b < w.heap.size := Nat.lt_of_lt_of_le lb0 hs
  simp only [MemV.val]
  generalize p xp = Y at u1 ⊢
  generalize q xr = Z at u2 ⊢
  change Calls _ _ #[.agg #[.int .i64 xp, .int .i64 xr], .pointer (some ⟨a, 0, none⟩), .pointer (some ⟨b, 0, none⟩)] _ _
  clear sa sb ca cb hB hx da
  have hal := fun o => (Below.refl w.heap.size w).alloc (Nat.le_refl _) o
  cases Y with
  | false =>
    go_enter Tryz.func38, Tryz.ntmps38
    go_wp2_with (go_at_fn 58; (with_reducible refine (u1 _ (hal _)).mono ?_); rintro e w1 ⟨rfl, hb1⟩)
    go_ret
    exact ⟨rfl, (box_keep hb1).2.2⟩
  | true =>
    go_enter Tryz.func38, Tryz.ntmps38
    go_wp2_with (first
      | (go_at_fn 58; (with_reducible refine (u1 _ (hal _)).mono ?_); rintro e w1 ⟨rfl, hb1⟩; have ⟨m0, m1, m2⟩ := box_keep hb1; have n1 : w1.cell? ⟨w.heap.size, 1, none⟩ = some (.int .i64 xr) := m0 1; have n2 := (m1 b 0 hlb).trans db; clear m0 m1)
      | (go_at_fn 58; (with_reducible refine (u2 _ m2).mono ?_); rintro e w2 ⟨rfl, hb2⟩))
    go_ret
    exact ⟨by cases Z <;> rfl, bnext m2 m2.size hb2⟩
theorem r3_says (w0 : World) (a : Nat) (la : Array Value) (p : Int → Bool) (ca : w0.cell? ⟨a, 0, none⟩ = some (.func (.func 58) #[] la))
    (sa : Says 58 la (.int .i64) anyInt p w0) :
    Says 40 #[.pointer (some ⟨a, 0, none⟩)] GlobV.val anyGlob (fun t => decide (t.type = 126) || (decide (t.type = 127) && p t.init)) w0 := by
  intro x w hB hx
  obtain ⟨xt, xb, xi⟩ := x
  have eg := enters_within
  have la0 := in_heap ca
  have hs := hB.size
  have da := (hB.cell (p := ⟨a, 0, none⟩) la0).trans ca
  have u1 := fun W (hW : Below w.heap.size w W) => sa xi W (hB.trans (hW.mono hs)) hx.2
  have ka := fun o => (World.cell?_alloc_lt w o (⟨a, 0, none⟩ : Addr) (Nat.lt_of_lt_of_le la0 hs)).trans da
  simp only [GlobV.val]
  generalize p xi = Y at u1 ⊢
  change Calls _ _ #[.agg #[.int .i64 xt, .bool xb, .int .i64 xi], .pointer (some ⟨a, 0, none⟩)] _ _
  clear sa ca hB hx da
  have hal := fun o => (Below.refl w.heap.size w).alloc (Nat.le_refl _) o
  by_cases h6 : xt = 126
  · subst h6
    clear u1 ka
    go_enter Tryz.func40, Tryz.ntmps40
    go_wp2
    go_ret
    exact ⟨rfl, hal _⟩
  · have n6 : (xt == 126) = false := beq_eq_false_iff_ne.2 h6
    rw [decide_eq_false h6, Bool.false_or]
    clear h6
    by_cases h7 : xt = 127
    · subst h7
      go_enter Tryz.func40, Tryz.ntmps40
      go_wp2_with (go_at_fn 58; (with_reducible refine (u1 _ (hal _)).mono ?_); rintro e w1 ⟨rfl, hb1⟩)
      go_ret
      exact ⟨by cases Y <;> rfl, (box_keep hb1).2.2⟩
    · have n7 : (xt == 127) = false := beq_eq_false_iff_ne.2 h7
      rw [decide_eq_false h7, Bool.false_and]
      clear h7 u1 ka
      go_enter Tryz.func40, Tryz.ntmps40
      go_wp2
      go_ret
      exact ⟨rfl, hal _⟩
theorem mod_exported (k : Int) (w : World) :
    Calls Tryz.prog 44 #[.int .i64 k] w fun e w' => e = .returned (.bool (decide (k = 0 ∨ k = 2 ∨ k = 3))) ∧ w = w' := by
  rcases (show k = 0 ∨ k = 2 ∨ k = 3 ∨ (k ≠ 0 ∧ k ≠ 2 ∧ k ≠ 3) by omega) with rfl | rfl | rfl | ⟨h0, h2, h3⟩
  case' inr.inr.inr =>
    have n0 : (k == 0) = false := beq_eq_false_iff_ne.2 h0
    have n2 : (k == 2) = false := beq_eq_false_iff_ne.2 h2
    have n3 : (k == 3) = false := beq_eq_false_iff_ne.2 h3
    rw [show decide (k = 0 ∨ k = 2 ∨ k = 3) = false by simp [h0, h2, h3]]
    clear h0 h2 h3
  all_goals
    go_enter Tryz.func44, Tryz.ntmps44
    go_wp2
    go_ret
    exact ⟨rfl, rfl⟩
theorem r4_says (w0 : World) (hL : Laid w0) (a : Nat) (la : Array Value) (p : Int → Bool) (ca : w0.cell? ⟨a, 0, none⟩ = some (.func (.func 58) #[] la))
    (sa : Says 58 la (.int .i64) anyInt p w0) :
    Says 42 #[.pointer (some ⟨a, 0, none⟩)] ExpV.val anyExp (fun t => isName t.name.data.toList && (decide (t.kind = 0 ∨ t.kind = 2 ∨ t.kind = 3) && p t.index)) w0 := by
  intro x w hB hx
  obtain ⟨xn, xk, xi⟩ := x
  have eg := enters_within
  have la0 := in_heap ca
  have hs := hB.size
  have da := (hB.cell (p := ⟨a, 0, none⟩) la0).trans ca
  have u1 := fun W (hW : Below w.heap.size w W) => sa xi W (hB.trans (hW.mono hs)) hx.2.2
  have hla : a < w.heap.size := Nat.lt_of_lt_of_le la0 hs
  have cn := fun o => mod_name xn hx.1 (w.alloc o) ((hL.below hB).alloc o)
  have ce := fun W => mod_exported xk W
  simp only [ExpV.val]
  generalize p xi = Y at u1 ⊢
  generalize isName xn.data.toList = N at cn ⊢
  generalize decide (xk = 0 ∨ xk = 2 ∨ xk = 3) = K at ce ⊢
  change Calls _ _ #[.agg #[.string xn, .int .i64 xk, .int .i64 xi], .pointer (some ⟨a, 0, none⟩)] _ _
  clear sa ca hB hx
  cases N with
  | false =>
    go_enter Tryz.func42, Tryz.ntmps42
    go_wp2_with (go_at_call 43; (with_reducible refine (cn _).mono ?_); rintro e w1 ⟨rfl, hb1⟩)
    go_ret
    exact ⟨rfl, (box_keep hb1).2.2⟩
  | true =>
    cases K with
    | false =>
      go_enter Tryz.func42, Tryz.ntmps42
      go_wp2_with (first
        | (go_at_call 43; (with_reducible refine (cn _).mono ?_); rintro e w1 ⟨rfl, hb1⟩; have ⟨m0, m1, m2⟩ := box_keep hb1; have n1 : w1.cell? ⟨w.heap.size, 1, none⟩ = some (.int .i64 xk) := m0 1; clear m0 m1)
        | (go_at_call 44; (with_reducible refine (ce _).mono ?_); rintro e w2 ⟨rfl, rfl⟩))
      go_ret
      exact ⟨rfl, m2⟩
    | true =>
      go_enter Tryz.func42, Tryz.ntmps42
      go_wp2_with (first
        | (go_at_call 43; (with_reducible refine (cn _).mono ?_); rintro e w1 ⟨rfl, hb1⟩; have ⟨m0, m1, m2⟩ := box_keep hb1; have n1 : w1.cell? ⟨w.heap.size, 1, none⟩ = some (.int .i64 xk) := m0 1; have n2 : w1.cell? ⟨w.heap.size, 2, none⟩ = some (.int .i64 xi) := m0 2; have n3 := (m1 a 0 hla).trans da; clear m0 m1)
        | (go_at_call 44; (with_reducible refine (ce _).mono ?_); rintro e w2 ⟨rfl, rfl⟩)
        | (go_at_fn 58; (with_reducible refine (u1 _ m2).mono ?_); rintro e w3 ⟨rfl, hb3⟩))
      go_ret
      exact ⟨by cases Y <;> rfl, bnext m2 m2.size hb3⟩
theorem r5_says (w0 : World) (a : Nat) (la : Array Value) (p : Int → Bool) (ca : w0.cell? ⟨a, 0, none⟩ = some (.func (.func 58) #[] la))
    (sa : Says 58 la (.int .i64) anyInt p w0) :
    Says 46 #[.pointer (some ⟨a, 0, none⟩)] DatV.val anyDat (fun t => p t.offset) w0 := by
  intro x w hB hx
  obtain ⟨xo, xb⟩ := x
  have eg := enters_within
  have la0 := in_heap ca
  have hs := hB.size
  have da := (hB.cell (p := ⟨a, 0, none⟩) la0).trans ca
  have u1 := fun W (hW : Below w.heap.size w W) => sa xo W (hB.trans (hW.mono hs)) hx.1
  have ka := fun o => (World.cell?_alloc_lt w o (⟨a, 0, none⟩ : Addr) (Nat.lt_of_lt_of_le la0 hs)).trans da
  simp only [DatV.val]
  generalize p xo = Y at u1 ⊢
  change Calls _ _ #[.agg #[.int .i64 xo, .string xb], .pointer (some ⟨a, 0, none⟩)] _ _
  clear sa ca hB hx da
  have hal := fun o => (Below.refl w.heap.size w).alloc (Nat.le_refl _) o
  go_enter Tryz.func46, Tryz.ntmps46
  go_wp2_with (go_at_fn 58; (with_reducible refine (u1 _ (hal _)).mono ?_); rintro e w1 ⟨rfl, hb1⟩)
  go_ret
  exact ⟨rfl, (box_keep hb1).2.2⟩
theorem op_says (w0 : World) (hL : Laid w0) : Says 51 #[] InsV.val InsAt rightIns w0 := by
  intro x w hB hx
  exact op_right x.op x.a x.b x.lp x.ls.length x.lc x.ls hx.2.2.1.1 hx.2.2.1.2 rfl hx.2.1 w (hL.below hB).spaces hx.1
theorem enters_opright : ∀ args w, (callFunc 51 args).run Tryz.prog w = .ok (.enter 51 args) w := enters_of Tryz.func51 (by kernel_rfl) rfl
theorem r6_says (w0 : World) (hL : Laid w0) (a b : Nat) (la lb : Array Value) (p : Int → Bool) (q : ByteArray → Bool) (ca : w0.cell? ⟨a, 0, none⟩ = some (.func (.func 58) #[] la)) (cb : w0.cell? ⟨b, 0, none⟩ = some (.func (.func 59) #[] lb))
    (sa : Says 58 la (.int .i64) anyInt p w0) (sb : Says 59 lb .string anyStr q w0) :
    Says 48 #[.pointer (some ⟨a, 0, none⟩), .pointer (some ⟨b, 0, none⟩)] FnV.val FnAt (fun f => p f.type && (q f.locals && (runs (opsOf f.code) [] && f.code.all rightIns))) w0 := by
  intro x w hB hx
  have eg := enters_within
  have eh := enters_kinds
  have la0 := in_heap ca
  have lb0 := in_heap cb
  have hs := hB.size
  have da := (hB.cell (p := ⟨a, 0, none⟩) la0).trans ca
  have db := (hB.cell (p := ⟨b, 0, none⟩) lb0).trans cb
  obtain ⟨hC, hl, ht⟩ := hx
  have u1 := fun W (hW : Below w.heap.size w W) => sa x.type W (hB.trans (hW.mono hs)) ht
  have u2 := fun W (hW : Below w.heap.size w W) => sb x.locals W (hB.trans (hW.mono hs)) hl
  have u3 := fun W (hW : Below w.heap.size w W) => mod_structured x.cp x.code.length x.cc x.code rfl W (hC.below hW (Nat.le_refl _))
  have u4 := fun W (hW : Below w.heap.size w W) => all_InsV (op_says w (hL.below hB)) enters_opright x.cp x.code.length x.cc x.code rfl (by have := hC.2.2; omega) W hW (hC.below hW (Nat.le_refl _)).1 (fun w1 h1 y hy => (hC.below (hW.trans (h1.mono hW.size)) (Nat.le_refl _)).2.1 y hy)
  have ka := fun o => (World.cell?_alloc_lt w o (⟨a, 0, none⟩ : Addr) (Nat.lt_of_lt_of_le la0 hs)).trans da
  have hla : a < w.heap.size := Nat.lt_of_lt_of_le la0 hs
  have hlb : b < w.heap.size := Nat.lt_of_lt_of_le lb0 hs
  clear hC hl ht sa sb ca cb hB da
  obtain ⟨xt, xl, xp, xc, xk⟩ := x
  simp only [FnV.val] at *
  generalize p xt = Y at u1 ⊢
  generalize q xl = Z at u2 ⊢
  generalize runs (opsOf xk) [] = U at u3 ⊢
  generalize xk.all rightIns = V at u4 ⊢
  generalize xk.length = nk at *
  change Calls _ _ #[.agg #[.int .i64 xt, .string xl, .slice xp nk xc], .pointer (some ⟨a, 0, none⟩), .pointer (some ⟨b, 0, none⟩)] _ _
  have hal := fun o => (Below.refl w.heap.size w).alloc (Nat.le_refl _) o
  cases Y with
  | false =>
    go_enter Tryz.func48, Tryz.ntmps48
    go_wp2_with (go_at_fn 58; (with_reducible refine (u1 _ (hal _)).mono ?_); rintro e w1 ⟨rfl, hb1⟩)
    go_ret
    exact ⟨rfl, (box_keep hb1).2.2⟩
  | true =>
    cases Z with
    | false =>
      go_enter Tryz.func48, Tryz.ntmps48
      go_wp2_with (first
        | (go_at_fn 58; (with_reducible refine (u1 _ (hal _)).mono ?_); rintro e w1 ⟨rfl, hb1⟩; have ⟨m0, m1, m2⟩ := box_keep hb1; have n1 : w1.cell? ⟨w.heap.size, 1, none⟩ = some (.string xl) := m0 1; have n3 := (m1 b 0 hlb).trans db; clear m0 m1)
        | (go_at_fn 59; (with_reducible refine (u2 _ m2).mono ?_); rintro e w2 ⟨rfl, hb2⟩))
      go_ret
      exact ⟨rfl, bnext m2 m2.size hb2⟩
    | true =>
      cases U with
      | false =>
        go_enter Tryz.func48, Tryz.ntmps48
        go_wp2_with (first
          | (go_at_fn 58; (with_reducible refine (u1 _ (hal _)).mono ?_); rintro e w1 ⟨rfl, hb1⟩; have ⟨m0, m1, m2⟩ := box_keep hb1; have n1 : w1.cell? ⟨w.heap.size, 1, none⟩ = some (.string xl) := m0 1; have n2 : w1.cell? ⟨w.heap.size, 2, none⟩ = some (.slice xp nk xc) := m0 2; have n3 := (m1 b 0 hlb).trans db; clear m0 m1)
          | (go_at_fn 59; (with_reducible refine (u2 _ m2).mono ?_); rintro e w2 ⟨rfl, hb2⟩; have o2 := (hb2.cell (p := ⟨w.heap.size, 2, none⟩) (in_heap n2)).trans n2; have m3 := bnext m2 m2.size hb2)
          | (go_at_call 49; (with_reducible refine (u3 _ m3).mono ?_); rintro e w3 ⟨rfl, hb3⟩))
        go_ret
        exact ⟨rfl, bnext m3 m3.size hb3⟩
      | true =>
        go_enter Tryz.func48, Tryz.ntmps48
        go_wp2_with (first
          | (go_at_fn 58; (with_reducible refine (u1 _ (hal _)).mono ?_); rintro e w1 ⟨rfl, hb1⟩; have ⟨m0, m1, m2⟩ := box_keep hb1; have n1 : w1.cell? ⟨w.heap.size, 1, none⟩ = some (.string xl) := m0 1; have n2 : w1.cell? ⟨w.heap.size, 2, none⟩ = some (.slice xp nk xc) := m0 2; have n3 := (m1 b 0 hlb).trans db; clear m0 m1)
          | (go_at_fn 59; (with_reducible refine (u2 _ m2).mono ?_); rintro e w2 ⟨rfl, hb2⟩; have o2 := (hb2.cell (p := ⟨w.heap.size, 2, none⟩) (in_heap n2)).trans n2; have m3 := bnext m2 m2.size hb2)
          | (go_at_call 49; (with_reducible refine (u3 _ m3).mono ?_); rintro e w3 ⟨rfl, hb3⟩; have o3 := (hb3.cell (p := ⟨w.heap.size, 2, none⟩) (in_heap o2)).trans o2; have m4 := bnext m3 m3.size hb3)
          | (go_at_call 50; (with_reducible refine (u4 _ m4).mono ?_); rintro e w4 ⟨rfl, hb4⟩))
        go_ret
        exact ⟨by cases V <;> rfl, bnext m4 m4.size hb4⟩
end Go.Proofs.YtomffpibdinkaaaGreatDoor
