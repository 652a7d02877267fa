/-
  num.ofHalf, num.ofWhole, walked: the map of functions, and what is found in it. Contracts that the proofs call; no statement is proved here.
-/
import Derived.Test.YtfbgejgapdpjcaaDoorFnMap
import Derived.Test.YtfbgejgapdpjcaaDoorNumZeros
import Derived.WalkArith
namespace Go.Proofs.YtfbgejgapdpjcaaDoor
open Go.RowKit Go.Maps

def halfD : DataW Unit := ((((((.map [] : DataW Unit).put (.int .i64 69) (.lit (.int .i64 33))).put (.int .i64 103) (.lit (.int .i64 34))).put (.int .i64 104) (.lit (.int .i64 36))).put (.int .i64 105) (.lit (.int .i64 38))).put (.int .i64 172) (.lit (.int .i64 40))).put (.int .i64 173) (.lit (.int .i64 41))
theorem half_zero (w : World) : (zeroValue 43).run Tryd.prog w = .ok .nilFunc w := by kernel_rfl

set_option maxRecDepth 100000 in
set_option maxHeartbeats 2000000 in
theorem half_look (op : Int) (h0 : -9223372036854775808 ≤ op) (h1 : op ≤ 9223372036854775807) (w : World) :
    Calls Tryd.prog 19 #[.int .i64 op] w fun e w' => (∃ v ps, e = .returned (.tuple #[v, .bool (Maps.has halfD (.int .i64 op))]) ∧ fnRead v = some (halfD.atKey (.int .i64 op) .nil, ps)) ∧ Below w.heap.size w w' := by
  have law : Keyed Tryd.prog 3 := int_keyed Tryd.underlying3
  have hwf : ∀ a : Int, -9223372036854775808 ≤ a → a ≤ 9223372036854775807 → (Lit.int .i64 a).wf = true := fun a ha hb => WalkArith.wf_i64 ⟨ha, hb⟩
  have hmm := @run_makeMap Tryd.prog
  have o0 := World.ownsMap_made w Tryd.prog 3 (fnRead (H := Unit))
  obtain ⟨w1, u1, o1, g1⟩ := o0.update law Tryd.underlying61 (by unfold maxLen; omega) (keyOf_int_mk Tryd.underlying3 (hwf 69 (by decide) (by decide))) (fnRead_mk 33)
  obtain ⟨w2, u2, o2, g2⟩ := o1.update law Tryd.underlying61 (by unfold maxLen; omega) (keyOf_int_mk Tryd.underlying3 (hwf 103 (by decide) (by decide))) (fnRead_mk 34)
  obtain ⟨w3, u3, o3, g3⟩ := o2.update law Tryd.underlying61 (by unfold maxLen; omega) (keyOf_int_mk Tryd.underlying3 (hwf 104 (by decide) (by decide))) (fnRead_mk 36)
  obtain ⟨w4, u4, o4, g4⟩ := o3.update law Tryd.underlying61 (by unfold maxLen; omega) (keyOf_int_mk Tryd.underlying3 (hwf 105 (by decide) (by decide))) (fnRead_mk 38)
  obtain ⟨w5, u5, o5, g5⟩ := o4.update law Tryd.underlying61 (by unfold maxLen; omega) (keyOf_int_mk Tryd.underlying3 (hwf 172 (by decide) (by decide))) (fnRead_mk 40)
  obtain ⟨w6, u6, o6, g6⟩ := o5.update law Tryd.underlying61 (by unfold maxLen; omega) (keyOf_int_mk Tryd.underlying3 (hwf 173 (by decide) (by decide))) (fnRead_mk 41)
  obtain ⟨v, ps, hl, hv⟩ := o6.look_ok law Tryd.underlying61 (half_zero _) fnRead_nil (keyOf_int_mk Tryd.underlying3 (hwf op h0 h1))
  have hb : Below w.heap.size w w6 := by
    have b0 := (Below.refl w.heap.size w).alloc (Nat.le_refl _) (.map #[] 0)
    have b1 := b0.grown g1 (Nat.le_trans (Nat.le_succ _) (by simp)) (fun k hk => by cases hk; exact Nat.le_refl _)
    have z1 : w.heap.size + 1 ≤ w1.heap.size := Nat.le_trans (by simp) g1.size
    have b2 := b1.grown g2 (Nat.le_trans (Nat.le_succ _) z1) (fun k hk => by cases hk; exact Nat.le_refl _)
    have z2 : w.heap.size + 1 ≤ w2.heap.size := Nat.le_trans z1 g2.size
    have b3 := b2.grown g3 (Nat.le_trans (Nat.le_succ _) z2) (fun k hk => by cases hk; exact Nat.le_refl _)
    have z3 : w.heap.size + 1 ≤ w3.heap.size := Nat.le_trans z2 g3.size
    have b4 := b3.grown g4 (Nat.le_trans (Nat.le_succ _) z3) (fun k hk => by cases hk; exact Nat.le_refl _)
    have z4 : w.heap.size + 1 ≤ w4.heap.size := Nat.le_trans z3 g4.size
    have b5 := b4.grown g5 (Nat.le_trans (Nat.le_succ _) z4) (fun k hk => by cases hk; exact Nat.le_refl _)
    have z5 : w.heap.size + 1 ≤ w5.heap.size := Nat.le_trans z4 g5.size
    have b6 := b5.grown g6 (Nat.le_trans (Nat.le_succ _) z5) (fun k hk => by cases hk; exact Nat.le_refl _)
    exact b6
  clear o1 g1 o2 g2 o3 g3 o4 g4 o5 g5 o6 g6 o0
  go_enter Tryd.func19, Tryd.ntmps19
  go_wp2
  go_ret2
  exact ⟨⟨v, ps, rfl, hv⟩, hb⟩
theorem half_69 (w : World) : Calls Tryd.prog 19 #[.int .i64 69] w fun e w' => e = .returned (.tuple #[.func (.func 33) #[] #[], .bool true]) ∧ Below w.heap.size w w' := by
  refine (half_look 69 (by decide) (by decide) w).mono ?_
  rintro e w' ⟨⟨v, ps, rfl, hv⟩, hb⟩
  obtain rfl := fnRead_fn (n := 33) (ps := ps) hv
  exact ⟨rfl, hb⟩
theorem half_103 (w : World) : Calls Tryd.prog 19 #[.int .i64 103] w fun e w' => e = .returned (.tuple #[.func (.func 34) #[] #[], .bool true]) ∧ Below w.heap.size w w' := by
  refine (half_look 103 (by decide) (by decide) w).mono ?_
  rintro e w' ⟨⟨v, ps, rfl, hv⟩, hb⟩
  obtain rfl := fnRead_fn (n := 34) (ps := ps) hv
  exact ⟨rfl, hb⟩
theorem half_104 (w : World) : Calls Tryd.prog 19 #[.int .i64 104] w fun e w' => e = .returned (.tuple #[.func (.func 36) #[] #[], .bool true]) ∧ Below w.heap.size w w' := by
  refine (half_look 104 (by decide) (by decide) w).mono ?_
  rintro e w' ⟨⟨v, ps, rfl, hv⟩, hb⟩
  obtain rfl := fnRead_fn (n := 36) (ps := ps) hv
  exact ⟨rfl, hb⟩
theorem half_105 (w : World) : Calls Tryd.prog 19 #[.int .i64 105] w fun e w' => e = .returned (.tuple #[.func (.func 38) #[] #[], .bool true]) ∧ Below w.heap.size w w' := by
  refine (half_look 105 (by decide) (by decide) w).mono ?_
  rintro e w' ⟨⟨v, ps, rfl, hv⟩, hb⟩
  obtain rfl := fnRead_fn (n := 38) (ps := ps) hv
  exact ⟨rfl, hb⟩
theorem half_172 (w : World) : Calls Tryd.prog 19 #[.int .i64 172] w fun e w' => e = .returned (.tuple #[.func (.func 40) #[] #[], .bool true]) ∧ Below w.heap.size w w' := by
  refine (half_look 172 (by decide) (by decide) w).mono ?_
  rintro e w' ⟨⟨v, ps, rfl, hv⟩, hb⟩
  obtain rfl := fnRead_fn (n := 40) (ps := ps) hv
  exact ⟨rfl, hb⟩
theorem half_173 (w : World) : Calls Tryd.prog 19 #[.int .i64 173] w fun e w' => e = .returned (.tuple #[.func (.func 41) #[] #[], .bool true]) ∧ Below w.heap.size w w' := by
  refine (half_look 173 (by decide) (by decide) w).mono ?_
  rintro e w' ⟨⟨v, ps, rfl, hv⟩, hb⟩
  obtain rfl := fnRead_fn (n := 41) (ps := ps) hv
  exact ⟨rfl, hb⟩
theorem half_none (op : Int) (h0 : -9223372036854775808 ≤ op) (h1 : op ≤ 9223372036854775807) (h : op ≠ 69 ∧ op ≠ 103 ∧ op ≠ 104 ∧ op ≠ 105 ∧ op ≠ 172 ∧ op ≠ 173) (w : World) : Calls Tryd.prog 19 #[.int .i64 op] w fun e w' => e = .returned (.tuple #[.nilFunc, .bool false]) ∧ Below w.heap.size w w' := by
  obtain ⟨h69, h103, h104, h105, h172, h173⟩ := h
  have ne : ∀ {k : Int}, op ≠ k → Lit.int .i64 op ≠ Lit.int .i64 k := fun h e => h (by injection e)
  refine (half_look op h0 h1 w).mono ?_
  rintro e w' ⟨⟨v, ps, rfl, hv⟩, hb⟩
  have e1 : Maps.has halfD (.int .i64 op) = false := by
    unfold halfD
    rw [has_put_other (ne h173), has_put_other (ne h172), has_put_other (ne h105), has_put_other (ne h104), has_put_other (ne h103), has_put_other (ne h69)]
    rfl
  have e2 : halfD.atKey (.int .i64 op) .nil = .nil := by
    unfold halfD
    rw [atKey_put_other (ne h173), atKey_put_other (ne h172), atKey_put_other (ne h105), atKey_put_other (ne h104), atKey_put_other (ne h103), atKey_put_other (ne h69)]
    rfl
  rw [e2] at hv
  obtain rfl := fnRead_none hv
  exact ⟨by rw [e1], hb⟩

def wholeD : DataW Unit := (((((.map [] : DataW Unit).put (.int .i64 80) (.lit (.int .i64 42))).put (.int .i64 121) (.lit (.int .i64 43))).put (.int .i64 122) (.lit (.int .i64 45))).put (.int .i64 123) (.lit (.int .i64 47))).put (.int .i64 167) (.lit (.int .i64 49))
theorem whole_zero (w : World) : (zeroValue 46).run Tryd.prog w = .ok .nilFunc w := by kernel_rfl

set_option maxRecDepth 100000 in
set_option maxHeartbeats 2000000 in
theorem whole_look (op : Int) (h0 : -9223372036854775808 ≤ op) (h1 : op ≤ 9223372036854775807) (w : World) :
    Calls Tryd.prog 20 #[.int .i64 op] w fun e w' => (∃ v ps, e = .returned (.tuple #[v, .bool (Maps.has wholeD (.int .i64 op))]) ∧ fnRead v = some (wholeD.atKey (.int .i64 op) .nil, ps)) ∧ Below w.heap.size w w' := by
  have law : Keyed Tryd.prog 3 := int_keyed Tryd.underlying3
  have hwf : ∀ a : Int, -9223372036854775808 ≤ a → a ≤ 9223372036854775807 → (Lit.int .i64 a).wf = true := fun a ha hb => WalkArith.wf_i64 ⟨ha, hb⟩
  have hmm := @run_makeMap Tryd.prog
  have o0 := World.ownsMap_made w Tryd.prog 3 (fnRead (H := Unit))
  obtain ⟨w1, u1, o1, g1⟩ := o0.update law Tryd.underlying63 (by unfold maxLen; omega) (keyOf_int_mk Tryd.underlying3 (hwf 80 (by decide) (by decide))) (fnRead_mk 42)
  obtain ⟨w2, u2, o2, g2⟩ := o1.update law Tryd.underlying63 (by unfold maxLen; omega) (keyOf_int_mk Tryd.underlying3 (hwf 121 (by decide) (by decide))) (fnRead_mk 43)
  obtain ⟨w3, u3, o3, g3⟩ := o2.update law Tryd.underlying63 (by unfold maxLen; omega) (keyOf_int_mk Tryd.underlying3 (hwf 122 (by decide) (by decide))) (fnRead_mk 45)
  obtain ⟨w4, u4, o4, g4⟩ := o3.update law Tryd.underlying63 (by unfold maxLen; omega) (keyOf_int_mk Tryd.underlying3 (hwf 123 (by decide) (by decide))) (fnRead_mk 47)
  obtain ⟨w5, u5, o5, g5⟩ := o4.update law Tryd.underlying63 (by unfold maxLen; omega) (keyOf_int_mk Tryd.underlying3 (hwf 167 (by decide) (by decide))) (fnRead_mk 49)
  obtain ⟨v, ps, hl, hv⟩ := o5.look_ok law Tryd.underlying63 (whole_zero _) fnRead_nil (keyOf_int_mk Tryd.underlying3 (hwf op h0 h1))
  have hb : Below w.heap.size w w5 := by
    have b0 := (Below.refl w.heap.size w).alloc (Nat.le_refl _) (.map #[] 0)
    have b1 := b0.grown g1 (Nat.le_trans (Nat.le_succ _) (by simp)) (fun k hk => by cases hk; exact Nat.le_refl _)
    have z1 : w.heap.size + 1 ≤ w1.heap.size := Nat.le_trans (by simp) g1.size
    have b2 := b1.grown g2 (Nat.le_trans (Nat.le_succ _) z1) (fun k hk => by cases hk; exact Nat.le_refl _)
    have z2 : w.heap.size + 1 ≤ w2.heap.size := Nat.le_trans z1 g2.size
    have b3 := b2.grown g3 (Nat.le_trans (Nat.le_succ _) z2) (fun k hk => by cases hk; exact Nat.le_refl _)
    have z3 : w.heap.size + 1 ≤ w3.heap.size := Nat.le_trans z2 g3.size
    have b4 := b3.grown g4 (Nat.le_trans (Nat.le_succ _) z3) (fun k hk => by cases hk; exact Nat.le_refl _)
    have z4 : w.heap.size + 1 ≤ w4.heap.size := Nat.le_trans z3 g4.size
    have b5 := b4.grown g5 (Nat.le_trans (Nat.le_succ _) z4) (fun k hk => by cases hk; exact Nat.le_refl _)
    exact b5
  clear o1 g1 o2 g2 o3 g3 o4 g4 o5 g5 o0
  go_enter Tryd.func20, Tryd.ntmps20
  go_wp2
  go_ret2
  exact ⟨⟨v, ps, rfl, hv⟩, hb⟩
theorem whole_80 (w : World) : Calls Tryd.prog 20 #[.int .i64 80] w fun e w' => e = .returned (.tuple #[.func (.func 42) #[] #[], .bool true]) ∧ Below w.heap.size w w' := by
  refine (whole_look 80 (by decide) (by decide) w).mono ?_
  rintro e w' ⟨⟨v, ps, rfl, hv⟩, hb⟩
  obtain rfl := fnRead_fn (n := 42) (ps := ps) hv
  exact ⟨rfl, hb⟩
theorem whole_121 (w : World) : Calls Tryd.prog 20 #[.int .i64 121] w fun e w' => e = .returned (.tuple #[.func (.func 43) #[] #[], .bool true]) ∧ Below w.heap.size w w' := by
  refine (whole_look 121 (by decide) (by decide) w).mono ?_
  rintro e w' ⟨⟨v, ps, rfl, hv⟩, hb⟩
  obtain rfl := fnRead_fn (n := 43) (ps := ps) hv
  exact ⟨rfl, hb⟩
theorem whole_122 (w : World) : Calls Tryd.prog 20 #[.int .i64 122] w fun e w' => e = .returned (.tuple #[.func (.func 45) #[] #[], .bool true]) ∧ Below w.heap.size w w' := by
  refine (whole_look 122 (by decide) (by decide) w).mono ?_
  rintro e w' ⟨⟨v, ps, rfl, hv⟩, hb⟩
  obtain rfl := fnRead_fn (n := 45) (ps := ps) hv
  exact ⟨rfl, hb⟩
theorem whole_123 (w : World) : Calls Tryd.prog 20 #[.int .i64 123] w fun e w' => e = .returned (.tuple #[.func (.func 47) #[] #[], .bool true]) ∧ Below w.heap.size w w' := by
  refine (whole_look 123 (by decide) (by decide) w).mono ?_
  rintro e w' ⟨⟨v, ps, rfl, hv⟩, hb⟩
  obtain rfl := fnRead_fn (n := 47) (ps := ps) hv
  exact ⟨rfl, hb⟩
theorem whole_167 (w : World) : Calls Tryd.prog 20 #[.int .i64 167] w fun e w' => e = .returned (.tuple #[.func (.func 49) #[] #[], .bool true]) ∧ Below w.heap.size w w' := by
  refine (whole_look 167 (by decide) (by decide) w).mono ?_
  rintro e w' ⟨⟨v, ps, rfl, hv⟩, hb⟩
  obtain rfl := fnRead_fn (n := 49) (ps := ps) hv
  exact ⟨rfl, hb⟩
theorem whole_none (op : Int) (h0 : -9223372036854775808 ≤ op) (h1 : op ≤ 9223372036854775807) (h : op ≠ 80 ∧ op ≠ 121 ∧ op ≠ 122 ∧ op ≠ 123 ∧ op ≠ 167) (w : World) : Calls Tryd.prog 20 #[.int .i64 op] w fun e w' => e = .returned (.tuple #[.nilFunc, .bool false]) ∧ Below w.heap.size w w' := by
  obtain ⟨h80, h121, h122, h123, h167⟩ := h
  have ne : ∀ {k : Int}, op ≠ k → Lit.int .i64 op ≠ Lit.int .i64 k := fun h e => h (by injection e)
  refine (whole_look op h0 h1 w).mono ?_
  rintro e w' ⟨⟨v, ps, rfl, hv⟩, hb⟩
  have e1 : Maps.has wholeD (.int .i64 op) = false := by
    unfold wholeD
    rw [has_put_other (ne h167), has_put_other (ne h123), has_put_other (ne h122), has_put_other (ne h121), has_put_other (ne h80)]
    rfl
  have e2 : wholeD.atKey (.int .i64 op) .nil = .nil := by
    unfold wholeD
    rw [atKey_put_other (ne h167), atKey_put_other (ne h123), atKey_put_other (ne h122), atKey_put_other (ne h121), atKey_put_other (ne h80)]
    rfl
  rw [e2] at hv
  obtain rfl := fnRead_none hv
  exact ⟨by rw [e1], hb⟩
end Go.Proofs.YtfbgejgapdpjcaaDoor
