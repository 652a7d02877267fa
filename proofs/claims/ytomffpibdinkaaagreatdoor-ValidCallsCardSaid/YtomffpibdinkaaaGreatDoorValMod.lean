/-
  Package valid: a module: walked. Contracts that the proofs call; no statement is proved here.
-/
import Derived.Test.YtomffpibdinkaaaGreatDoorValExp
namespace Go.Proofs.YtomffpibdinkaaaGreatDoor
open Go.RowKit Go.Maps
set_option linter.unusedVariables false
set_option linter.unusedSimpArgs false

def modAns7 (m : MoV) : Int := if rightMod m then (if m.funcs.any deep7 then 5 else if m.funcs.all (validFn m) && (memory7 m && (exports7 m && start7 m)) then 0 else 4) else 1
set_option maxRecDepth 100000 in
set_option maxHeartbeats 8000000 in
theorem v_module (w : World) (hL : Laid w) (m : MoV) (hm : ModAt w m) (hfew : Few7 m.funcs) : Calls Tryz.prog 11 #[m.val] w fun e w' => e = .returned (.int .i64 (modAns7 m)) ∧ Below w.heap.size w w' := by
  obtain ⟨R, hR⟩ : ∃ R, modAns7 m = R := ⟨_, rfl⟩
  rw [hR]
  unfold modAns7 at hR
  obtain ⟨W1, hW1⟩ : ∃ W, W = w.alloc (modObj m) := ⟨_, rfl⟩
  have hB1 : Below w.heap.size w W1 := by rw [hW1]; exact (Below.refl _ _).alloc (Nat.le_refl _) _
  have hb1 : W1.heap[w.heap.size]? = some (modObj m) := by rw [hW1]; exact heap_alloc_new _ _
  have cr := mod_right m W1 (hL.below hB1) (hm.below hB1 (Nat.le_refl _))
  obtain ⟨q0, q1, q2, q3, q4, q5, q6⟩ := box_seven7 hb1
  have hlt := in_heap7 hb1
  obtain ⟨ok, hok⟩ : ∃ ok, rightMod m = ok := ⟨_, rfl⟩
  rw [hok] at cr hR
  cases ok with
  | false =>
    have hR1 : (1 : Int) = R := by rw [← hR]; rfl
    subst hR1
    unfold MoV.val at cr ⊢
    unfold modObj at hW1
    clear hR hb1 hok
    go_enter Tryz.func11, Tryz.ntmps11
    go_wp2_with fail
    rw [← hW1]
    clear hW1
    refine cr.mono ?_
    rintro e w3 ⟨rfl, hb3⟩
    go_wp2
    go_ret
    exact ⟨rfl, hB1.trans (hb3.mono hB1.size)⟩
  | true =>
    obtain ⟨hty, hfn⟩ := right_parts hok
    have hfm : fewMod m := by
      have h := hok
      unfold rightMod at h
      exact of_decide_eq_true (Bool.and_eq_true_iff.1 h).1
    have hT : Tys7 m := tys_of hty
    have hfit : ∀ f ∈ m.funcs, Fit7 f := fun f hf => fit_of (List.all_eq_true.1 hfn f hf) (hfew f hf)
    obtain ⟨g1, g2, g3, g4, g5, g6, _⟩ := hfm
    have cc := fun W (hW : Below w.heap.size w W) => v_contains W m.fp m.fc m.funcs (hm.below hW (Nat.le_refl _)).funcs (hm.below hW (Nat.le_refl _)).funcsIn hfew (by omega)
    have c1 := fun W (hW : Below w.heap.size w W) => v_all W (hL.below hW).spaces m (hm.below hW (Nat.le_refl _)) hT hfit (by omega)
    have c2 := fun W (hW : Below w.heap.size w W) => v_memory W m (hm.below hW (Nat.le_refl _)) (by omega)
    have c3 := fun W (hW : Below w.heap.size w W) => v_exports W m (hm.below hW (Nat.le_refl _)) (by omega)
    have c4 := fun W (hW : Below w.heap.size w W) => v_start W m (hm.below hW (Nat.le_refl _))
    unfold MoV.val at cr c1 c2 c3 c4 ⊢
    unfold modObj at hW1
    clear hok hty hfn hT hfit g1 g2 g3 g4 g5 g6 hm hL hfew
    rw [if_pos rfl] at hR
    generalize m.funcs.any deep7 = d at *
    generalize m.funcs.all (validFn m) = t1 at *
    generalize memory7 m = t2 at *
    generalize exports7 m = t3 at *
    generalize start7 m = t4 at *
    have HB := Lib.hid hb1
    go_enter Tryz.func11, Tryz.ntmps11
    go_wp2_with fail
    rw [← hW1]
    clear hW1
    refine cr.mono ?_
    rintro e w3 ⟨rfl, hb3⟩
    have hB3 := hB1.trans (hb3.mono hB1.size)
    have k3 := (hb3.block w.heap.size hlt).trans HB.out
    obtain ⟨q0, q1, q2, q3, q4, q5, q6⟩ := box_seven7 k3
    have cc2 := cc _ hB3
    clear cr cc hb1 hb3
    go_wp2_with fail
    refine cc2.mono ?_
    rintro e w4 ⟨rfl, hb4⟩
    have hB4 := hB3.trans (hb4.mono hB3.size)
    have k4 := (hb4.block w.heap.size (in_heap7 k3)).trans k3
    obtain ⟨q0, q1, q2, q3, q4, q5, q6⟩ := box_seven7 k4
    clear cc2 hb4 k3
    cases d with
    | true =>
      have hR5 : (5 : Int) = R := by rw [← hR]; rfl
      subst hR5
      go_wp2
      go_ret
      exact ⟨rfl, hB4⟩
    | false =>
      rw [if_neg (by decide)] at hR
      cases t1 with
      | false =>
        have hR4 : (4 : Int) = R := by rw [← hR]; rfl
        subst hR4
        go_wp2_with (first
          | (go_at_call 21; refine (c1 _ hB4).mono ?_; rintro e w5 ⟨rfl, hb5⟩; have hB5 := hB4.trans (hb5.mono hB4.size); have k5 := (hb5.block w.heap.size (in_heap7 k4)).trans k4; obtain ⟨q0, q1, q2, q3, q4, q5, q6⟩ := box_seven7 k5)
          | (go_at_call 22; refine (c2 _ hB5).mono ?_; rintro e w6 ⟨rfl, hb6⟩; have hB6 := hB5.trans (hb6.mono hB5.size); have k6 := (hb6.block w.heap.size (in_heap7 k5)).trans k5; obtain ⟨q0, q1, q2, q3, q4, q5, q6⟩ := box_seven7 k6)
          | (go_at_call 23; refine (c3 _ hB6).mono ?_; rintro e w7 ⟨rfl, hb7⟩; have hB7 := hB6.trans (hb7.mono hB6.size); have k7 := (hb7.block w.heap.size (in_heap7 k6)).trans k6; obtain ⟨q0, q1, q2, q3, q4, q5, q6⟩ := box_seven7 k7)
          | (go_at_call 24; refine (c4 _ hB7).mono ?_; rintro e w8 ⟨rfl, hb8⟩; have hB8 := hB7.trans (hb8.mono hB7.size); have k8 := (hb8.block w.heap.size (in_heap7 k7)).trans k7; obtain ⟨q0, q1, q2, q3, q4, q5, q6⟩ := box_seven7 k8))
        go_ret
        exact ⟨rfl, hB5⟩
      | true =>
        cases t2 with
        | false =>
          have hR4 : (4 : Int) = R := by rw [← hR]; rfl
          subst hR4
          go_wp2_with (first
            | (go_at_call 21; refine (c1 _ hB4).mono ?_; rintro e w5 ⟨rfl, hb5⟩; have hB5 := hB4.trans (hb5.mono hB4.size); have k5 := (hb5.block w.heap.size (in_heap7 k4)).trans k4; obtain ⟨q0, q1, q2, q3, q4, q5, q6⟩ := box_seven7 k5)
            | (go_at_call 22; refine (c2 _ hB5).mono ?_; rintro e w6 ⟨rfl, hb6⟩; have hB6 := hB5.trans (hb6.mono hB5.size); have k6 := (hb6.block w.heap.size (in_heap7 k5)).trans k5; obtain ⟨q0, q1, q2, q3, q4, q5, q6⟩ := box_seven7 k6)
            | (go_at_call 23; refine (c3 _ hB6).mono ?_; rintro e w7 ⟨rfl, hb7⟩; have hB7 := hB6.trans (hb7.mono hB6.size); have k7 := (hb7.block w.heap.size (in_heap7 k6)).trans k6; obtain ⟨q0, q1, q2, q3, q4, q5, q6⟩ := box_seven7 k7)
            | (go_at_call 24; refine (c4 _ hB7).mono ?_; rintro e w8 ⟨rfl, hb8⟩; have hB8 := hB7.trans (hb8.mono hB7.size); have k8 := (hb8.block w.heap.size (in_heap7 k7)).trans k7; obtain ⟨q0, q1, q2, q3, q4, q5, q6⟩ := box_seven7 k8))
          go_ret
          exact ⟨rfl, hB6⟩
        | true =>
          cases t3 with
          | false =>
            have hR4 : (4 : Int) = R := by rw [← hR]; rfl
            subst hR4
            go_wp2_with (first
              | (go_at_call 21; refine (c1 _ hB4).mono ?_; rintro e w5 ⟨rfl, hb5⟩; have hB5 := hB4.trans (hb5.mono hB4.size); have k5 := (hb5.block w.heap.size (in_heap7 k4)).trans k4; obtain ⟨q0, q1, q2, q3, q4, q5, q6⟩ := box_seven7 k5)
              | (go_at_call 22; refine (c2 _ hB5).mono ?_; rintro e w6 ⟨rfl, hb6⟩; have hB6 := hB5.trans (hb6.mono hB5.size); have k6 := (hb6.block w.heap.size (in_heap7 k5)).trans k5; obtain ⟨q0, q1, q2, q3, q4, q5, q6⟩ := box_seven7 k6)
              | (go_at_call 23; refine (c3 _ hB6).mono ?_; rintro e w7 ⟨rfl, hb7⟩; have hB7 := hB6.trans (hb7.mono hB6.size); have k7 := (hb7.block w.heap.size (in_heap7 k6)).trans k6; obtain ⟨q0, q1, q2, q3, q4, q5, q6⟩ := box_seven7 k7)
              | (go_at_call 24; refine (c4 _ hB7).mono ?_; rintro e w8 ⟨rfl, hb8⟩; have hB8 := hB7.trans (hb8.mono hB7.size); have k8 := (hb8.block w.heap.size (in_heap7 k7)).trans k7; obtain ⟨q0, q1, q2, q3, q4, q5, q6⟩ := box_seven7 k8))
            go_ret
            exact ⟨rfl, hB7⟩
          | true =>
            cases t4 with
            | false =>
              have hR4 : (4 : Int) = R := by rw [← hR]; rfl
              subst hR4
              go_wp2_with (first
                | (go_at_call 21; refine (c1 _ hB4).mono ?_; rintro e w5 ⟨rfl, hb5⟩; have hB5 := hB4.trans (hb5.mono hB4.size); have k5 := (hb5.block w.heap.size (in_heap7 k4)).trans k4; obtain ⟨q0, q1, q2, q3, q4, q5, q6⟩ := box_seven7 k5)
                | (go_at_call 22; refine (c2 _ hB5).mono ?_; rintro e w6 ⟨rfl, hb6⟩; have hB6 := hB5.trans (hb6.mono hB5.size); have k6 := (hb6.block w.heap.size (in_heap7 k5)).trans k5; obtain ⟨q0, q1, q2, q3, q4, q5, q6⟩ := box_seven7 k6)
                | (go_at_call 23; refine (c3 _ hB6).mono ?_; rintro e w7 ⟨rfl, hb7⟩; have hB7 := hB6.trans (hb7.mono hB6.size); have k7 := (hb7.block w.heap.size (in_heap7 k6)).trans k6; obtain ⟨q0, q1, q2, q3, q4, q5, q6⟩ := box_seven7 k7)
                | (go_at_call 24; refine (c4 _ hB7).mono ?_; rintro e w8 ⟨rfl, hb8⟩; have hB8 := hB7.trans (hb8.mono hB7.size); have k8 := (hb8.block w.heap.size (in_heap7 k7)).trans k7; obtain ⟨q0, q1, q2, q3, q4, q5, q6⟩ := box_seven7 k8))
              go_ret
              exact ⟨rfl, hB8⟩
            | true =>
              have hR0 : (0 : Int) = R := by rw [← hR]; rfl
              subst hR0
              go_wp2_with (first
                | (go_at_call 21; refine (c1 _ hB4).mono ?_; rintro e w5 ⟨rfl, hb5⟩; have hB5 := hB4.trans (hb5.mono hB4.size); have k5 := (hb5.block w.heap.size (in_heap7 k4)).trans k4; obtain ⟨q0, q1, q2, q3, q4, q5, q6⟩ := box_seven7 k5)
                | (go_at_call 22; refine (c2 _ hB5).mono ?_; rintro e w6 ⟨rfl, hb6⟩; have hB6 := hB5.trans (hb6.mono hB5.size); have k6 := (hb6.block w.heap.size (in_heap7 k5)).trans k5; obtain ⟨q0, q1, q2, q3, q4, q5, q6⟩ := box_seven7 k6)
                | (go_at_call 23; refine (c3 _ hB6).mono ?_; rintro e w7 ⟨rfl, hb7⟩; have hB7 := hB6.trans (hb7.mono hB6.size); have k7 := (hb7.block w.heap.size (in_heap7 k6)).trans k6; obtain ⟨q0, q1, q2, q3, q4, q5, q6⟩ := box_seven7 k7)
                | (go_at_call 24; refine (c4 _ hB7).mono ?_; rintro e w8 ⟨rfl, hb8⟩; have hB8 := hB7.trans (hb8.mono hB7.size); have k8 := (hb8.block w.heap.size (in_heap7 k7)).trans k7; obtain ⟨q0, q1, q2, q3, q4, q5, q6⟩ := box_seven7 k8))
              go_ret
              exact ⟨rfl, hB8⟩
end Go.Proofs.YtomffpibdinkaaaGreatDoor
