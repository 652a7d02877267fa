/-
  Package valid: a function, and all functions of a module: walked. Contracts that the proofs call; no statement is proved here.
-/
import Derived.Test.YtomffpibdinkaaaGreatDoorValThru
import Derived.Test.YtomffpibdinkaaaGreatDoorValNest
namespace Go.Proofs.YtomffpibdinkaaaGreatDoor
open Go.RowKit Go.Maps
set_option linter.unusedVariables false
set_option linter.unusedSimpArgs false
variable {w0 : World} {B M : Nat} {m : MoV} {lo wh : ByteArray} {s : VS} {sv ov : Value} {w : World}

def deep7 (f : FnV) : Bool := decide ((256 : Int) < nest7 (opsOf f.code) 0 0)
set_option maxRecDepth 100000 in
set_option maxHeartbeats 2000000 in
theorem v_deep (w : World) (f : FnV) (hf : FnAt w f) (hlen : f.code.length ≤ 1000000000) : Calls Tryz.prog 20 #[f.val] w fun e w' => e = .returned (.bool (deep7 f)) ∧ Below w.heap.size w w' := by
  obtain ⟨ft, fl, cp, cc, code⟩ := f
  dsimp only at hlen
  have hb : Below w.heap.size w (w.alloc (fnObj ⟨ft, fl, cp, cc, code⟩)) := (Below.refl _ _).alloc (Nat.le_refl _) _
  have cn := v_nest (w.alloc (fnObj ⟨ft, fl, cp, cc, code⟩)) cp cc code (hf.1.below hb (Nat.le_refl _)) hlen
  unfold deep7
  dsimp only
  generalize nest7 (opsOf code) 0 0 = n at *
  unfold fnObj at cn hb
  dsimp only [FnV.val] at cn hb ⊢
  clear hf hlen
  go_enter Tryz.func20, Tryz.ntmps20
  go_wp2_with (go_at_call 13; (with_reducible refine cn.mono ?_); rintro e w2 ⟨rfl, hb2⟩)
  go_ret
  exact ⟨rfl, hb.trans (hb2.mono hb.size)⟩
/-- What a function has to be, to be gone through. -/
structure Fit7 (f : FnV) : Prop where
  code : runs (opsOf f.code) [] = true
  ops : ∀ x ∈ f.code, ∃ r, byCode x.op = some r
  len : f.code.length ≤ 400000
  locals : f.locals.size ≤ 1000000
def Tys7 (m : MoV) : Prop := ∀ t ∈ m.types, t.params.size ≤ 1000000 ∧ t.results.size ≤ 1
theorem fit_of {f : FnV} (h : rightFn f = true) (hl : f.code.length ≤ 400000) : Fit7 f := by
  unfold rightFn at h
  simp only [Bool.and_eq_true] at h
  obtain ⟨h1, ⟨_, h3⟩, h4⟩ := h
  refine ⟨h4, fun x hx => ?_, hl, ?_⟩
  · have := List.all_eq_true.1 h1 x hx
    unfold rightIns at this
    cases hb : byCode x.op with
    | none => rw [hb] at this; cases this
    | some r => exact ⟨r, rfl⟩
  · unfold vtypes at h3
    have := of_decide_eq_true (Bool.and_eq_true_iff.1 h3).2
    rw [Array.length_toList] at this
    show f.locals.data.size ≤ _
    omega
theorem tys_of {m : MoV} (h : m.types.all rightTy = true) : Tys7 m := fun t ht => by
  have := List.all_eq_true.1 h t ht
  unfold rightTy vtypes at this
  simp only [Bool.and_eq_true, decide_eq_true_eq] at this
  obtain ⟨⟨_, h1⟩, _, h2⟩ := this
  rw [Array.length_toList] at h1 h2
  refine ⟨?_, ?_⟩
  · show t.params.data.size ≤ _; omega
  · show t.results.data.size ≤ _; omega
theorem right_parts {m : MoV} (h : rightMod m = true) : m.types.all rightTy = true ∧ m.funcs.all rightFn = true := by
  unfold rightMod at h
  simp only [Bool.and_eq_true] at h
  exact ⟨h.2.1, h.2.2.1⟩
theorem box_seven7 {W : World} {b : Nat} {u0 u1 u2 u3 u4 u5 u6 : Value} {t : TypeId} (h : W.heap[b]? = some (.cells #[u0, u1, u2, u3, u4, u5, u6] t)) :
    W.cell? ⟨b, 0, none⟩ = some u0 ∧ W.cell? ⟨b, 1, none⟩ = some u1 ∧ W.cell? ⟨b, 2, none⟩ = some u2 ∧ W.cell? ⟨b, 3, none⟩ = some u3 ∧ W.cell? ⟨b, 4, none⟩ = some u4 ∧ W.cell? ⟨b, 5, none⟩ = some u5 ∧ W.cell? ⟨b, 6, none⟩ = some u6 := by
  refine ⟨?_, ?_, ?_, ?_, ?_, ?_, ?_⟩ <;> (rw [World.cell?, h]; rfl)
def alone7 (m : MoV) (f : FnV) (b : Nat) : MoV := { m with fp := some ⟨b, 0, none⟩, fc := 1, funcs := [f] }
def funcAns (m : MoV) (f : FnV) : Int := if rightMod (alone7 m f 0) then (if deep7 f then 5 else if validFn m f then 0 else 4) else 1
theorem alone_right (m : MoV) (f : FnV) (b : Nat) : rightMod (alone7 m f b) = rightMod (alone7 m f 0) := rfl
set_option maxRecDepth 100000 in
set_option maxHeartbeats 8000000 in
theorem v_func (w : World) (hL : Laid w) (m : MoV) (hm : ModAt w m) (f : FnV) (hf : FnAt w f) (hlen : f.code.length ≤ 400000) : Calls Tryz.prog 12 #[m.val, f.val] w fun e w' => e = .returned (.int .i64 (funcAns m f)) ∧ Below w.heap.size w w' := by
  obtain ⟨W2, hW2⟩ : ∃ W, W = (((w.alloc (modObj m)).alloc (fnObj f)).alloc (modObj (alone7 m f (w.heap.size + 1 + 1 + 1)))).alloc (fnObj f) := ⟨_, rfl⟩
  have hB2 : Below w.heap.size w W2 := by
    rw [hW2]
    exact ((((Below.refl _ _).alloc (Nat.le_refl _) _).alloc (by simp only [push_size7]; omega) _).alloc (by simp only [push_size7]; omega) _).alloc (by simp only [push_size7]; omega) _
  have hb0 : W2.heap[w.heap.size]? = some (modObj m) := by rw [hW2]; simp only [push7, push_size7]; rw [if_neg (by omega), if_neg (by omega), if_neg (by omega), if_pos trivial]
  have hb1 : W2.heap[w.heap.size + 1]? = some (fnObj f) := by rw [hW2]; simp only [push7, push_size7]; rw [if_neg (by omega), if_neg (by omega), if_pos trivial]
  have hb3 : W2.heap[w.heap.size + 1 + 1 + 1]? = some (fnObj f) := by rw [hW2]; simp only [push7, push_size7]; rw [if_pos trivial]
  have hm2 := hm.below hB2 (Nat.le_refl _)
  have hf2 := hf.below hB2 (Nat.le_refl _)
  have hL2 := hL.below hB2
  have hma : ModAt W2 (alone7 m f (w.heap.size + 1 + 1 + 1)) := { hm2 with
    funcs := fun j hj i v hv => by
      have e : j = 0 := by have : j < 1 := hj; omega
      subst e
      refine ⟨_, _, rfl, in_heap7 hb3, ?_⟩
      rw [World.cell?, hb3]
      show (#[.int .i64 f.type, .string f.locals, .slice f.cp f.code.length f.cc] : Array Value)[0 + 0 * 3 + i]? = some v
      rw [show 0 + 0 * 3 + i = i by omega]
      have hv' : ([.int .i64 f.type, .string f.locals, .slice f.cp f.code.length f.cc] : List Value)[i]? = some v := hv
      simpa using hv'
    funcsIn := fun g hg => by cases List.mem_singleton.1 hg; exact hf2
    funcsMost := by show 1 ≤ _; decide }
  have cr := mod_right _ W2 hL2 hma
  rw [alone_right] at cr
  obtain ⟨q0, q1, q2, q3, q4, q5, q6⟩ := box_seven7 hb0
  obtain ⟨p0, p1, p2⟩ := box_three7 hb1
  have hlt0 := in_heap7 hb0
  have hlt1 := in_heap7 hb1
  have n0 := Lib.hid hb0
  have n1 := Lib.hid hb1
  have HM := Lib.hid hm
  have HF := Lib.hid hf
  obtain ⟨ok, hok⟩ : ∃ ok, rightMod (alone7 m f 0) = ok := ⟨_, rfl⟩
  rw [hok] at cr
  have HOK := Lib.hid hok
  unfold alone7 MoV.val at cr
  dsimp only at cr
  obtain ⟨R, hR⟩ : ∃ R, funcAns m f = R := ⟨_, rfl⟩
  rw [hR]
  have HR := Lib.hid hR
  obtain ⟨ft, fl, cp, cc, code⟩ := f
  dsimp only [modObj, fnObj, FnV.val, MoV.val, alone7, List.length] at hW2 cr p0 p1 p2 ⊢
  clear hb0 hb1 hb3 hm2 hf2 hma hm hf hok hR
  cases ok with
  | false =>
    have hR1 : (1 : Int) = R := by rw [← HR.out]; unfold funcAns; rw [HOK.out]; rfl
    subst hR1
    clear HOK HR
    go_enter Tryz.func12, Tryz.ntmps12
    go_wp2_with fail
    rw [← hW2]
    clear hW2
    refine cr.mono ?_
    rintro e w3 ⟨rfl, hb3⟩
    clear cr
    go_wp2
    go_ret
    exact ⟨rfl, hB2.trans (hb3.mono hB2.size)⟩
  | true =>
    go_enter Tryz.func12, Tryz.ntmps12
    go_wp2_with fail
    rw [← hW2]
    clear hW2
    refine cr.mono ?_
    rintro e w3 ⟨rfl, hb3⟩
    have hB3 := hB2.trans (hb3.mono hB2.size)
    have n0' := (hb3.block _ hlt0).trans n0.out
    have n1' := (hb3.block _ hlt1).trans n1.out
    obtain ⟨p0, p1, p2⟩ := box_three7 n1'
    have cd := v_deep w3 ⟨ft, fl, cp, cc, code⟩ (HF.out.below hB3 (Nat.le_refl _)) (by dsimp only; omega)
    obtain ⟨dp, hdp⟩ : ∃ dp, deep7 ⟨ft, fl, cp, cc, code⟩ = dp := ⟨_, rfl⟩
    rw [hdp] at cd
    have HD := Lib.hid hdp
    dsimp only [FnV.val] at cd p0 p1 p2
    clear cr q0 q1 q2 q3 q4 q5 q6 hb3 n0 n1 hdp
    go_wp2_with fail
    refine cd.mono ?_
    rintro e w4 ⟨rfl, hb4⟩
    have hB4 := hB3.trans (hb4.mono hB3.size)
    have k0 := (hb4.block _ (in_heap7 n0')).trans n0'
    have k1 := (hb4.block _ (in_heap7 n1')).trans n1'
    clear cd p0 p1 p2 hb4 n0' n1'
    cases dp with
    | true =>
      have hR5 : (5 : Int) = R := by rw [← HR.out]; unfold funcAns; rw [HOK.out, HD.out]; rfl
      subst hR5
      clear HOK HR HD
      go_wp2
      go_ret
      exact ⟨rfl, hB4⟩
    | false =>
      obtain ⟨vf, hvf⟩ : ∃ vf, validFn m ⟨ft, fl, cp, cc, code⟩ = vf := ⟨_, rfl⟩
      have HVF := Lib.hid hvf
      have hfit := fit_of (List.all_eq_true.1 (right_parts HOK.out).2 ⟨ft, fl, cp, cc, code⟩ (List.mem_singleton.2 rfl)) hlen
      have HTY : Tys7 m := tys_of (m := m) (right_parts HOK.out).1
      have hl0 := in_heap7 k0
      have hl1 := in_heap7 k1
      obtain ⟨q0, q1, q2, q3, q4, q5, q6⟩ := box_seven7 k0
      obtain ⟨p0, p1, p2⟩ := box_three7 k1
      dsimp only at p0 p1 p2
      have K1 := Lib.hid k1
      have HW := fun X (hX : Below w.heap.size w X) => Lib.hid (And.intro (HM.out.below hX (Nat.le_refl _)) (And.intro (HF.out.below hX (Nat.le_refl _)) (hL.below hX)))
      clear k0 k1 hvf hB3
      go_wp2
      go_cut [17] from 18 (fun s17 W => s17 = .bool (!vf) ∧ Below w.heap.size w W)
      case first =>
        go_region_with (first
          | (go_at_call 25; refine (v_new m _).mono ?_; rintro e w5 ⟨rfl, hS5, hb5⟩; have k5 := (hb5.block (w.heap.size + 1) hl1).trans K1.out; obtain ⟨p0, p1, p2⟩ := box_three7 k5; have hX5 := HW _ hB4.drew; have hB5 := hB4.drew.trans (hb5.mono hB4.size); dsimp only at p0 p1 p2)
          | (go_at_call 26; refine (v_through hX5.out.2.2.spaces hS5 rfl hX5.out.1 HTY ⟨ft, fl, cp, cc, code⟩ hX5.out.2.1 hfit.locals hfit.code hfit.ops hfit.len).mono ?_; rintro e w6 ⟨rfl, lo6, wh6, s6, sv6, ov6, hS6, _⟩; rw [HVF.out]; have hB6 := hB4.drew.trans (hS6.1.below.mono hB4.size)))
        all_goals
          go_wp2
          go_meet
          exact ⟨rfl, hB6⟩
      case rest =>
        obtain ⟨rfl, hBW⟩ := hcut
        cases vf with
        | true =>
          have hR0 : (0 : Int) = R := by rw [← HR.out]; unfold funcAns; rw [HOK.out, HD.out, HVF.out]; rfl
          subst hR0
          clear HOK HR HD HVF
          go_wp2
          go_ret
          exact ⟨rfl, hBW⟩
        | false =>
          have hR4 : (4 : Int) = R := by rw [← HR.out]; unfold funcAns; rw [HOK.out, HD.out, HVF.out]; rfl
          subst hR4
          clear HOK HR HD HVF
          go_wp2
          go_ret
          exact ⟨rfl, hBW⟩
end Go.Proofs.YtomffpibdinkaaaGreatDoor
