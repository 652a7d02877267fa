/-
  Package enc: a type, a memory, a const, a global, an export, data, put behind bytes; walked. Contracts that the proofs call; no statement is proved here.
-/
import Derived.Test.YthfipknfdnfalaaGreatDoorKbDecInf
namespace Go.Proofs.YthfipknfdnfalaaGreatDoor
set_option maxRecDepth 100000
set_option maxHeartbeats 16000000
open Go.RowKit
set_option linter.unusedVariables false
structure Go1 (base : Nat) (w : World) (b : Nat) (cs : Array Value) (t : TypeId) (W : World) (v : Value) (d : List UInt8) : Prop where
  own : Own W base 5 v d
  near : Near base w W
  box : W.heap[b]? = some (.cells cs t)
  le : base ≤ W.heap.size
  ne : t ≠ 5
theorem Go1.start {base : Nat} {w : World} {v : Value} {d : List UInt8} (hown : Own w base 5 v d) (hb : base ≤ w.heap.size) (cs : Array Value) (t : TypeId) (ht : t ≠ 5) : Go1 base w w.heap.size cs t (w.alloc (.cells cs t)) v d :=
  ⟨hown.alloc _, (Near.refl _ _).alloc _, heap_alloc_new _ _, by simp; omega, ht⟩
theorem Go1.alloc {base b : Nat} {w W : World} {cs : Array Value} {t : TypeId} {v : Value} {d : List UInt8} (h : Go1 base w b cs t W v d) (o : Obj) : Go1 base w b cs t (W.alloc o) v d :=
  ⟨h.own.alloc o, h.near.alloc o, (Below.heap_alloc W o b (heap_lt9 h.box)).trans h.box, by have := h.le; simp; omega, h.ne⟩
theorem Go1.drew {base b : Nat} {w W : World} {cs : Array Value} {t : TypeId} {v : Value} {d : List UInt8} (h : Go1 base w b cs t W v d) : Go1 base w b cs t W.drew v d :=
  ⟨h.own.drew, h.near.drew, h.box, h.le, h.ne⟩
theorem Go1.step {base b : Nat} {w W W' : World} {cs : Array Value} {t : TypeId} {v v' : Value} {d d' : List UInt8} (h : Go1 base w b cs t W v d) (ho : Own W' base 5 v' d') (hg : W.grownBy W' v.ownBlock) : Go1 base w b cs t W' v' d' :=
  ⟨ho, h.near.grew h.own hg, (Near.of_grown h.own hg).box h.box h.ne, Nat.le_trans h.le hg.size, h.ne⟩
theorem Go1.call {base b : Nat} {w W W' : World} {cs : Array Value} {t : TypeId} {v v' : Value} {d d' : List UInt8} (h : Go1 base w b cs t W v d) (ho : Own W' base 5 v' d') (hn : Near base W W') : Go1 base w b cs t W' v' d' :=
  ⟨ho, h.near.trans hn, hn.box h.box h.ne, Nat.le_trans h.le hn.size, h.ne⟩
theorem lit_one {W : World} (k : Nat) (n : Int) (c : UInt8) (hk : k = W.heap.size) (hc : (c.toNat : Int) = n) {t : TypeId} : ∀ j b, [c][j]? = some b → (W.alloc (.cells #[.int .u8 n] t)).cell? ((⟨k, 0, none⟩ : Addr).add j) = some (.int .u8 (b.toNat : Int)) := by
  intro j b hj
  subst hk; subst hc
  exact lit_at (l := [c]) j b hj
theorem lit_oneD {W : World} (k : Nat) (n : Int) (c : UInt8) (hk : k = W.heap.size) (hc : (c.toNat : Int) = n) {t : TypeId} : ∀ j b, [c][j]? = some b → (W.alloc (.cells #[.int .u8 n] t)).drew.cell? ((⟨k, 0, none⟩ : Addr).add j) = some (.int .u8 (b.toNat : Int)) := lit_one k n c hk hc
theorem lit_twoD {W : World} (k : Nat) (n m : Int) (c e : UInt8) (hk : k = W.heap.size) (hc : (c.toNat : Int) = n) (he : (e.toNat : Int) = m) {t : TypeId} : ∀ j b, [c, e][j]? = some b → (W.alloc (.cells #[.int .u8 n, .int .u8 m] t)).drew.cell? ((⟨k, 0, none⟩ : Addr).add j) = some (.int .u8 (b.toNat : Int)) := by
  intro j b hj
  subst hk; subst hc; subst he
  exact lit_at (l := [c, e]) j b hj
theorem lit_after {W w1 : World} {base : Nat} {v : Value} {d : List UInt8} (hown : Own W base 5 v d) (k : Nat) (n : Int) (c : UInt8) {t : TypeId} (hg : (W.alloc (.cells #[.int .u8 n] t)).drew.grownBy w1 v.ownBlock) (hk : k = W.heap.size) (hc : (c.toNat : Int) = n) : ∀ j b, [c][j]? = some b → w1.cell? ((⟨k, 0, none⟩ : Addr).add j) = some (.int .u8 (b.toNat : Int)) := by
  intro j b hj
  subst hk
  have h0 := lit_oneD (W := W) W.heap.size n c rfl hc (t := t) j b hj
  have hx : (W.alloc (.cells #[.int .u8 n] t)).drew.heap[W.heap.size]? = some (.cells #[.int .u8 n] t) := heap_alloc_new _ _
  have h1 := (hg.block W.heap.size (heap_lt9 hx) (fun e => by have := (World.ownsRow.lt hown _ e.symm).2; omega)).trans hx
  have hadd : (⟨W.heap.size, 0, none⟩ : Addr).add j = ⟨W.heap.size, j, none⟩ := by unfold Addr.add; split <;> simp_all
  rw [hadd] at h0 ⊢
  simp only [World.cell?, h1]
  simp only [World.cell?, hx] at h0
  exact h0
theorem type_of (base : Nat) (v : Value) (d : List UInt8) (t : TyV) (w : World) (hown : Own w base 5 v d) (hb : base ≤ w.heap.size) (hd : d.length ≤ 1048576) (h1 : t.params.size ≤ maxLen) (h2 : t.results.size ≤ maxLen) :
    Calls Tryz.prog 157 #[v, t.val] w (Adds5 w base (typeC d t)) := by
  obtain ⟨i0, hi, hz0, hz1, hz2⟩ := info_parts Tryz.info5
  obtain ⟨tp, tr⟩ := t
  unfold maxLen at h1 h2
  simp only at h1 h2
  simp only [TyV.val]
  have G := (Go1.start hown hb #[.string tp, .string tr] 81 (by decide))
  have l1 : (d ++ [96]).length ≤ 1048577 := by simp; omega
  have l2 := text_len (b := d ++ [96]) (s := tp.data.toList) (by rw [show tp.data.toList.length = tp.size from Array.length_toList]; omega)
  have hx0 := box_2 G.drew.box
  go_enter Tryz.func157, Tryz.ntmps157
  go_wp2
  go_region_held3 (fun W => W.heap[w.heap.size]? = some (.cells #[.string tp, .string tr] 81) ∧ W.cell? ⟨w.heap.size, 0, none⟩ = some (.string tp) ∧ W.cell? ⟨w.heap.size, 1, none⟩ = some (.string tr))
    (first | (with_reducible exact box_2 G3.box) | (with_reducible exact box_2 G2.box) | (with_reducible exact box_2 G1.box) | (with_reducible exact hx0) | (exact box_2 (G.alloc _).drew.box))
    (first
      | (refine step_bytes rfl (.tmp 5) (.tmp 6) 24 rfl base 5 i0 Tryz.underlying24 hi hz0 hz1 hz2 _ _ rfl (G.alloc _).drew.own _ _ _ [96] rfl rfl (lit_oneD _ _ _ (by simp) rfl) (by omega) (G.alloc _).drew.le ?_; intro v1 w1 h1 g1 _; have G1 := (G.alloc _).drew.step h1 g1)
      | (go_at_call 232; (with_reducible refine (text_of base v2 _ tr _ G2.own G2.le (by omega) (by omega)).mono ?_); rintro e w3 ⟨v3, rfl, h3, n3⟩; have G3 := G2.call h3 n3)
      | (go_at_call 232; (with_reducible refine (text_of base v1 _ tp _ G1.own G1.le (by omega) (by omega)).mono ?_); rintro e w2 ⟨v2, rfl, h2, n2⟩; have G2 := G1.call h2 n2))
  all_goals
    go_wp2
    go_ret
    exact ⟨_, rfl, G3.own, G3.near⟩
theorem func_of (base : Nat) (v : Value) (d : List UInt8) (f : FnV) (w : World) (hown : Own w base 5 v d) (hb : base ≤ w.heap.size) (hd : d.length ≤ 1048576) (h0 : 0 ≤ f.type) (h1 : f.type < 4294967296) :
    Calls Tryz.prog 159 #[v, f.val] w (Adds5 w base (funcC d f)) := by
  obtain ⟨ty, lo, cp, cc, code⟩ := f
  simp only at h0 h1
  simp only [FnV.val, funcC]
  generalize code.length = n
  have G := Go1.start hown hb #[.int .i64 ty, .string lo, .slice cp n cc] 70 (by decide)
  have c := number_of base v d ty _ G.own G.le (by omega) (by omega) (by omega)
  go_enter Tryz.func159, Tryz.ntmps159
  go_wp2_with (go_at_call 160; (with_reducible refine c.mono ?_); rintro e w1 ⟨v1, rfl, h1, n1⟩)
  go_ret
  exact ⟨_, rfl, h1, G.near.trans n1⟩
theorem memory_of (base : Nat) (v : Value) (d : List UInt8) (t : MemV) (w : World) (hown : Own w base 5 v d) (hb : base ≤ w.heap.size) (hd : d.length ≤ 1048576) (hr : rightMem t = true) :
    Calls Tryz.prog 162 #[v, t.val] w (Adds5 w base (memC d t)) := by
  obtain ⟨i0, hi, hz0, hz1, hz2⟩ := info_parts Tryz.info5
  obtain ⟨mn, mx⟩ := t
  unfold rightMem word4 at hr
  simp only [Bool.and_eq_true, Bool.or_eq_true, decide_eq_true_eq] at hr
  simp only [MemV.val]
  have G := Go1.start hown hb #[.int .i64 mn, .int .i64 mx] 78 (by decide)
  have l1 : (d ++ [0]).length ≤ 1048577 := by simp; omega
  have l2 : (d ++ [1]).length ≤ 1048577 := by simp; omega
  have l3 := num_len (b := d ++ [1]) (n := mn) (by omega) (by omega)
  have hx0 := box_2 G.drew.box
  have q0 : 0 ≤ mn ∧ mn ≤ 4294967295 := by omega
  by_cases hm : mx < 0
  · have hq : memC d ⟨mn, mx⟩ = numC (d ++ [0]) mn := by unfold memC; simp only; rw [if_pos hm]
    rw [hq]
    clear hq hr
    go_enter Tryz.func162, Tryz.ntmps162
    go_wp2
    go_region_held3 (fun W => W.heap[w.heap.size]? = some (.cells #[.int .i64 mn, .int .i64 mx] 78) ∧ W.cell? ⟨w.heap.size, 0, none⟩ = some (.int .i64 mn) ∧ W.cell? ⟨w.heap.size, 1, none⟩ = some (.int .i64 mx))
      (first | (with_reducible exact box_2 G2.box) | (with_reducible exact box_2 G1.box) | (with_reducible exact hx0) | (exact box_2 (G.alloc _).drew.box))
      (first
        | (refine step_bytes rfl (.tmp 8) (.tmp 9) 24 rfl base 5 i0 Tryz.underlying24 hi hz0 hz1 hz2 _ _ rfl (G.alloc _).drew.own _ _ _ [0] rfl rfl (lit_oneD _ _ _ (by simp) rfl) (by omega) (G.alloc _).drew.le ?_; intro v1 w1 h1 g1 _; have G1 := (G.alloc _).drew.step h1 g1)
        | (go_at_call 160; (with_reducible refine (number_of base v1 _ mn _ G1.own G1.le (by omega) (by omega) (by omega)).mono ?_); rintro e w2 ⟨v2, rfl, h2, n2⟩; have G2 := G1.call h2 n2))
    all_goals
      go_wp2
      go_ret
      exact ⟨_, rfl, G2.own, G2.near⟩
  · have q1 : 0 ≤ mx ∧ mx ≤ 4294967295 := by omega
    have hq : memC d ⟨mn, mx⟩ = numC (numC (d ++ [1]) mn) mx := by unfold memC; simp only; rw [if_neg hm]
    rw [hq]
    clear hq hr
    go_enter Tryz.func162, Tryz.ntmps162
    go_wp2
    go_region_held3 (fun W => W.heap[w.heap.size]? = some (.cells #[.int .i64 mn, .int .i64 mx] 78) ∧ W.cell? ⟨w.heap.size, 0, none⟩ = some (.int .i64 mn) ∧ W.cell? ⟨w.heap.size, 1, none⟩ = some (.int .i64 mx))
      (first | (with_reducible exact box_2 G3.box) | (with_reducible exact box_2 G2.box) | (with_reducible exact box_2 G1.box) | (with_reducible exact hx0) | (exact box_2 (G.alloc _).drew.box))
      (first
        | (refine step_bytes rfl (.tmp 14) (.tmp 15) 24 rfl base 5 i0 Tryz.underlying24 hi hz0 hz1 hz2 _ _ rfl (G.alloc _).drew.own _ _ _ [1] rfl rfl (lit_oneD _ _ _ (by simp) rfl) (by omega) (G.alloc _).drew.le ?_; intro v1 w1 h1 g1 _; have G1 := (G.alloc _).drew.step h1 g1)
        | (go_at_call 160; (with_reducible refine (number_of base v2 _ mx _ G2.own G2.le (by omega) (by omega) (by omega)).mono ?_); rintro e w3 ⟨v3, rfl, h3, n3⟩; have G3 := G2.call h3 n3)
        | (go_at_call 160; (with_reducible refine (number_of base v1 _ mn _ G1.own G1.le (by omega) (by omega) (by omega)).mono ?_); rintro e w2 ⟨v2, rfl, h2, n2⟩; have G2 := G1.call h2 n2))
    all_goals
      go_wp2
      go_ret
      exact ⟨_, rfl, G3.own, G3.near⟩
theorem put_const_of (base : Nat) (v : Value) (d : List UInt8) (kind n : Int) (w : World) (hown : Own w base 5 v d) (hb : base ≤ w.heap.size) (hd : d.length ≤ 1048600) (hk : kind = 126 ∨ kind = 127) (h0 : -9223372036854775808 ≤ n) (h1 : n ≤ 9223372036854775807) :
    Calls Tryz.prog 239 #[v, .int .i64 kind, .int .i64 n] w (Adds5 w base (constC d kind n)) := by
  obtain ⟨i0, hi, hz0, hz1, hz2⟩ := info_parts Tryz.info5
  have c := fun W => put_s n h0 h1 W
  have hl := putS_len10 h0 h1
  have n0 := (Near.refl base w)
  rcases hk with rfl | rfl
  case' inl => have hq : constC d 126 n = d ++ [66] ++ putS n ++ [11] := rfl
  case' inr => have hq : constC d 127 n = d ++ [65] ++ putS n ++ [11] := rfl
  all_goals
    rw [hq]
    clear hq
    go_enter Tryz.func239, Tryz.ntmps239
    go_wp2_with (first
      | (at_builtin; refine wpl_bytes rfl (.tmp 10) (.tmp 12) 24 rfl base 5 i0 Tryz.underlying24 hi hz0 hz1 hz2 _ _ rfl (hown.alloc _) _ _ _ [_] rfl rfl (lit_one _ _ _ (by simp) (by first | exact (rfl : ((65 : UInt8).toNat : Int) = 65) | exact (rfl : ((66 : UInt8).toNat : Int) = 66))) (by omega) (by simp; omega) ?_; intro v1 w1 h1 g1; have N1 := (n0.alloc _).grew (hown.alloc _) g1; have b1 := Nat.le_trans hb N1.size))
    go_wp2_with (first
      | (go_at_call 189; (with_reducible refine (c _).mono ?_); rintro e w2 ⟨rfl, hb2⟩; have h2 := h1.below hb2; have N2 := N1.then hb2; have b2 := Nat.le_trans hb N2.size)
      | (at_builtin; refine wpl_string rfl (.tmp 13) (.tmp 15) 24 9 rfl base 5 i0 Tryz.underlying24 Tryz.underlying9 hi hz0 hz1 hz2 _ _ rfl h2 (putS n) rfl (by simp; omega) (by omega) ?_; intro v3 w3 h3 g3 _; have N3 := N2.grew h2 g3; have b3 := Nat.le_trans hb N3.size)
      | (at_builtin; refine wpl_bytes rfl (.tmp 17) (.tmp 18) 24 rfl base 5 i0 Tryz.underlying24 hi hz0 hz1 hz2 _ _ rfl (h3.alloc _) _ _ _ [11] rfl rfl (lit_one _ _ _ (by simp) rfl) (by simp; omega) (by simp; omega) ?_; intro v4 w4 h4 g4; have N4 := (N3.alloc _).grew (h3.alloc _) g4))
    go_ret
    exact ⟨_, rfl, h4, N4⟩
theorem run_of (base : Nat) (v : Value) (d : List UInt8) (x : RunV) (w : World) (hown : Own w base 5 v d) (hb : base ≤ w.heap.size) (hd : d.length ≤ 1048576) (hm : x.many ≤ 1000000) :
    Calls Tryz.prog 244 #[v, x.val] w (Adds5 w base (runC d (x.kind, x.many))) := by
  obtain ⟨i0, hi, hz0, hz1, hz2⟩ := info_parts Tryz.info5
  obtain ⟨mn, kd⟩ := x
  simp only at hm
  simp only [RunV.val]
  have hkd := kd.toNat_lt
  have l1 := num_len (b := d) (n := (mn : Int)) (by omega) (by omega)
  have G := Go1.start hown hb #[.int .i64 mn, .int .u8 kd.toNat] 292 (by decide)
  have hx0 := box_2 G.drew.box
  have c := fun W hW hB => number_grown base v d (mn : Int) W hW hB (by omega) (by omega) (by omega)
  go_enter Tryz.func244, Tryz.ntmps244
  go_wp2
  go_region_held3 (fun W => W.heap[w.heap.size]? = some (.cells #[.int .i64 mn, .int .u8 kd.toNat] 292) ∧ W.cell? ⟨w.heap.size, 0, none⟩ = some (.int .i64 mn) ∧ W.cell? ⟨w.heap.size, 1, none⟩ = some (.int .u8 kd.toNat))
    (first | (with_reducible exact box_2 G2.box) | (with_reducible exact box_2 G1.box) | (with_reducible exact hx0) | (exact box_2 (G.alloc _).drew.box) | (exact box_2 (G1.alloc _).box))
    (first
      | (go_at_call 160; (with_reducible refine (c _ G.drew.own G.drew.le).mono ?_); rintro e w1 ⟨v1, rfl, A1⟩; have G1 := G.drew.call A1.own (A1.near G.drew.own))
      | (go_at_call 160; (with_reducible refine (c _ (G.alloc _).drew.own (G.alloc _).drew.le).mono ?_); rintro e w1 ⟨v1, rfl, A1⟩; have G1 := (G.alloc _).drew.call A1.own (A1.near (G.alloc _).drew.own); have g1 := A1.grown)
      | (refine step_bytes rfl (.tmp 8) (.tmp 11) 24 rfl base 5 i0 Tryz.underlying24 hi hz0 hz1 hz2 _ _ rfl (G1.alloc _).own _ _ _ [kd] rfl rfl (lit_one _ _ _ (by simp) rfl) (by omega) (G1.alloc _).le ?_; intro v2 w2 h2 g2 _; have G2 := (G1.alloc _).step h2 g2)
      | (refine step_bytes rfl (.tmp 8) (.tmp 11) 24 rfl base 5 i0 Tryz.underlying24 hi hz0 hz1 hz2 _ _ rfl G1.own _ _ _ [kd] rfl rfl (lit_after G.own _ _ _ g1 (by simp) rfl) (by omega) G1.le ?_; intro v2 w2 h2 g2 _; have G2 := G1.step h2 g2))
  all_goals
    go_wp2
    go_ret
    exact ⟨_, rfl, G2.own, G2.near⟩
theorem global_of (base : Nat) (v : Value) (d : List UInt8) (t : GlobV) (w : World) (hown : Own w base 5 v d) (hb : base ≤ w.heap.size) (hd : d.length ≤ 1048576) (hr : rightGlob t = true) (ha : inI64 t.init) :
    Calls Tryz.prog 164 #[v, t.val] w (Adds5 w base (globC d t)) := by
  obtain ⟨i0, hi, hz0, hz1, hz2⟩ := info_parts Tryz.info5
  obtain ⟨gt, gm, gi⟩ := t
  unfold rightGlob at hr
  simp only [Bool.and_eq_true, Bool.or_eq_true, decide_eq_true_eq] at hr
  have hk : gt = 126 ∨ gt = 127 := by omega
  obtain ⟨hi0, hi1⟩ : -9223372036854775808 ≤ gi ∧ gi ≤ 9223372036854775807 := ha
  simp only [GlobV.val]
  clear hr
  rcases hk with rfl | rfl <;> rcases gm with _ | _
  · have hq : globC d ⟨126, false, gi⟩ = constC (d ++ [126, 0]) 126 gi := rfl
    rw [hq]
    clear hq
    have G := Go1.start hown hb #[.int .i64 126, .bool false, .int .i64 gi] 91 (by decide)
    have hx0 := box_3 G.drew.box
    have l1 : (d ++ [126, 0]).length ≤ 1048578 := by simp; omega
    go_enter Tryz.func164, Tryz.ntmps164
    go_wp2
    go_region_held3 (fun W => W.heap[w.heap.size]? = some (.cells #[.int .i64 126, .bool false, .int .i64 gi] 91) ∧ W.cell? ⟨w.heap.size, 0, none⟩ = some (.int .i64 126) ∧ W.cell? ⟨w.heap.size, 1, none⟩ = some (.bool false) ∧ W.cell? ⟨w.heap.size, 2, none⟩ = some (.int .i64 gi))
      (first | (with_reducible exact box_3 G2.box) | (with_reducible exact box_3 G1.box) | (with_reducible exact hx0) | (exact box_3 (G.alloc _).drew.box))
      (first
        | (refine step_bytes rfl (.tmp 8) (.tmp 13) 24 rfl base 5 i0 Tryz.underlying24 hi hz0 hz1 hz2 _ _ rfl (G.alloc _).drew.own _ _ _ [126, 0] rfl rfl (lit_twoD _ _ _ _ _ (by simp) rfl rfl) (by omega) (G.alloc _).drew.le ?_; intro v1 w1 h1 g1 _; have G1 := (G.alloc _).drew.step h1 g1)
        | (go_at_call 239; (with_reducible refine (put_const_of base v1 _ 126 gi _ G1.own G1.le (by omega) (by decide) hi0 hi1).mono ?_); rintro e w2 ⟨v2, rfl, h2, n2⟩; have G2 := G1.call h2 n2))
    all_goals
      go_wp2
      go_ret
      exact ⟨_, rfl, G2.own, G2.near⟩
  · have hq : globC d ⟨126, true, gi⟩ = constC (d ++ [126, 1]) 126 gi := rfl
    rw [hq]
    clear hq
    have G := Go1.start hown hb #[.int .i64 126, .bool true, .int .i64 gi] 91 (by decide)
    have hx0 := box_3 G.drew.box
    have l1 : (d ++ [126, 1]).length ≤ 1048578 := by simp; omega
    go_enter Tryz.func164, Tryz.ntmps164
    go_wp2
    go_region_held3 (fun W => W.heap[w.heap.size]? = some (.cells #[.int .i64 126, .bool true, .int .i64 gi] 91) ∧ W.cell? ⟨w.heap.size, 0, none⟩ = some (.int .i64 126) ∧ W.cell? ⟨w.heap.size, 1, none⟩ = some (.bool true) ∧ W.cell? ⟨w.heap.size, 2, none⟩ = some (.int .i64 gi))
      (first | (with_reducible exact box_3 G2.box) | (with_reducible exact box_3 G1.box) | (with_reducible exact hx0) | (exact box_3 (G.alloc _).drew.box))
      (first
        | (refine step_bytes rfl (.tmp 8) (.tmp 13) 24 rfl base 5 i0 Tryz.underlying24 hi hz0 hz1 hz2 _ _ rfl (G.alloc _).drew.own _ _ _ [126, 1] rfl rfl (lit_twoD _ _ _ _ _ (by simp) rfl rfl) (by omega) (G.alloc _).drew.le ?_; intro v1 w1 h1 g1 _; have G1 := (G.alloc _).drew.step h1 g1)
        | (go_at_call 239; (with_reducible refine (put_const_of base v1 _ 126 gi _ G1.own G1.le (by omega) (by decide) hi0 hi1).mono ?_); rintro e w2 ⟨v2, rfl, h2, n2⟩; have G2 := G1.call h2 n2))
    all_goals
      go_wp2
      go_ret
      exact ⟨_, rfl, G2.own, G2.near⟩
  · have hq : globC d ⟨127, false, gi⟩ = constC (d ++ [127, 0]) 127 gi := rfl
    rw [hq]
    clear hq
    have G := Go1.start hown hb #[.int .i64 127, .bool false, .int .i64 gi] 91 (by decide)
    have hx0 := box_3 G.drew.box
    have l1 : (d ++ [127, 0]).length ≤ 1048578 := by simp; omega
    go_enter Tryz.func164, Tryz.ntmps164
    go_wp2
    go_region_held3 (fun W => W.heap[w.heap.size]? = some (.cells #[.int .i64 127, .bool false, .int .i64 gi] 91) ∧ W.cell? ⟨w.heap.size, 0, none⟩ = some (.int .i64 127) ∧ W.cell? ⟨w.heap.size, 1, none⟩ = some (.bool false) ∧ W.cell? ⟨w.heap.size, 2, none⟩ = some (.int .i64 gi))
      (first | (with_reducible exact box_3 G2.box) | (with_reducible exact box_3 G1.box) | (with_reducible exact hx0) | (exact box_3 (G.alloc _).drew.box))
      (first
        | (refine step_bytes rfl (.tmp 8) (.tmp 13) 24 rfl base 5 i0 Tryz.underlying24 hi hz0 hz1 hz2 _ _ rfl (G.alloc _).drew.own _ _ _ [127, 0] rfl rfl (lit_twoD _ _ _ _ _ (by simp) rfl rfl) (by omega) (G.alloc _).drew.le ?_; intro v1 w1 h1 g1 _; have G1 := (G.alloc _).drew.step h1 g1)
        | (go_at_call 239; (with_reducible refine (put_const_of base v1 _ 127 gi _ G1.own G1.le (by omega) (by decide) hi0 hi1).mono ?_); rintro e w2 ⟨v2, rfl, h2, n2⟩; have G2 := G1.call h2 n2))
    all_goals
      go_wp2
      go_ret
      exact ⟨_, rfl, G2.own, G2.near⟩
  · have hq : globC d ⟨127, true, gi⟩ = constC (d ++ [127, 1]) 127 gi := rfl
    rw [hq]
    clear hq
    have G := Go1.start hown hb #[.int .i64 127, .bool true, .int .i64 gi] 91 (by decide)
    have hx0 := box_3 G.drew.box
    have l1 : (d ++ [127, 1]).length ≤ 1048578 := by simp; omega
    go_enter Tryz.func164, Tryz.ntmps164
    go_wp2
    go_region_held3 (fun W => W.heap[w.heap.size]? = some (.cells #[.int .i64 127, .bool true, .int .i64 gi] 91) ∧ W.cell? ⟨w.heap.size, 0, none⟩ = some (.int .i64 127) ∧ W.cell? ⟨w.heap.size, 1, none⟩ = some (.bool true) ∧ W.cell? ⟨w.heap.size, 2, none⟩ = some (.int .i64 gi))
      (first | (with_reducible exact box_3 G2.box) | (with_reducible exact box_3 G1.box) | (with_reducible exact hx0) | (exact box_3 (G.alloc _).drew.box))
      (first
        | (refine step_bytes rfl (.tmp 8) (.tmp 13) 24 rfl base 5 i0 Tryz.underlying24 hi hz0 hz1 hz2 _ _ rfl (G.alloc _).drew.own _ _ _ [127, 1] rfl rfl (lit_twoD _ _ _ _ _ (by simp) rfl rfl) (by omega) (G.alloc _).drew.le ?_; intro v1 w1 h1 g1 _; have G1 := (G.alloc _).drew.step h1 g1)
        | (go_at_call 239; (with_reducible refine (put_const_of base v1 _ 127 gi _ G1.own G1.le (by omega) (by decide) hi0 hi1).mono ?_); rintro e w2 ⟨v2, rfl, h2, n2⟩; have G2 := G1.call h2 n2))
    all_goals
      go_wp2
      go_ret
      exact ⟨_, rfl, G2.own, G2.near⟩
theorem data_of (base : Nat) (v : Value) (d : List UInt8) (t : DatV) (w : World) (hown : Own w base 5 v d) (hb : base ≤ w.heap.size) (hd : d.length ≤ 1048576) (ha : inI64 t.offset) (hs : t.bytes.size ≤ maxLen) :
    Calls Tryz.prog 170 #[v, t.val] w (Adds5 w base (datC d t)) := by
  obtain ⟨i0, hi, hz0, hz1, hz2⟩ := info_parts Tryz.info5
  obtain ⟨off, bt⟩ := t
  obtain ⟨hi0, hi1⟩ : -9223372036854775808 ≤ off ∧ off ≤ 9223372036854775807 := ha
  unfold maxLen at hs
  simp only at hs
  simp only [DatV.val]
  have G := Go1.start hown hb #[.int .i64 off, .string bt] 94 (by decide)
  have l1 : (d ++ [0]).length ≤ 1048577 := by simp; omega
  have l2 := const_len (b := d ++ [0]) (k := 127) hi0 hi1
  have hx0 := box_2 G.drew.box
  go_enter Tryz.func170, Tryz.ntmps170
  go_wp2
  go_region_held3 (fun W => W.heap[w.heap.size]? = some (.cells #[.int .i64 off, .string bt] 94) ∧ W.cell? ⟨w.heap.size, 0, none⟩ = some (.int .i64 off) ∧ W.cell? ⟨w.heap.size, 1, none⟩ = some (.string bt))
    (first | (with_reducible exact box_2 G3.box) | (with_reducible exact box_2 G2.box) | (with_reducible exact box_2 G1.box) | (with_reducible exact hx0) | (exact box_2 (G.alloc _).drew.box))
    (first
      | (refine step_bytes rfl (.tmp 5) (.tmp 6) 24 rfl base 5 i0 Tryz.underlying24 hi hz0 hz1 hz2 _ _ rfl (G.alloc _).drew.own _ _ _ [0] rfl rfl (lit_oneD _ _ _ (by simp) rfl) (by omega) (G.alloc _).drew.le ?_; intro v1 w1 h1 g1 _; have G1 := (G.alloc _).drew.step h1 g1)
      | (go_at_call 239; (with_reducible refine (put_const_of base v1 _ 127 off _ G1.own G1.le (by omega) (by decide) hi0 hi1).mono ?_); rintro e w2 ⟨v2, rfl, h2, n2⟩; have G2 := G1.call h2 n2)
      | (go_at_call 232; (with_reducible refine (text_of base v2 _ bt _ G2.own G2.le (by omega) (by omega)).mono ?_); rintro e w3 ⟨v3, rfl, h3, n3⟩; have G3 := G2.call h3 n3))
  all_goals
    go_wp2
    go_ret
    exact ⟨_, rfl, G3.own, G3.near⟩
theorem export_of (base : Nat) (v : Value) (d : List UInt8) (t : ExpV) (w : World) (hown : Own w base 5 v d) (hb : base ≤ w.heap.size) (hd : d.length ≤ 1048576) (hr : rightExp t = true) (hs : t.name.size ≤ maxLen) :
    Calls Tryz.prog 166 #[v, t.val] w (Adds5 w base (expC d t)) := by
  obtain ⟨i0, hi, hz0, hz1, hz2⟩ := info_parts Tryz.info5
  obtain ⟨nm, kd, ix⟩ := t
  unfold rightExp word4 at hr
  simp only [Bool.and_eq_true, decide_eq_true_eq] at hr
  obtain ⟨_, hk, hx⟩ := hr
  unfold maxLen at hs
  simp only at hs
  simp only [ExpV.val]
  have c := fun W hW hB => text_grown base v d nm W hW hB (by omega) (by omega)
  have l1 := text_len (b := d) (s := nm.data.toList) (by rw [show nm.data.toList.length = nm.size from Array.length_toList]; omega)
  rcases hk with rfl | rfl | rfl
  · have hq : expC d ⟨nm, 0, ix⟩ = numC (textC d nm.data.toList ++ [0]) ix := rfl
    rw [hq]
    clear hq
    have G := Go1.start hown hb #[.string nm, .int .i64 0, .int .i64 ix] 76 (by decide)
    have hx0 := box_3 G.drew.box
    have l2 : (textC d nm.data.toList ++ [0]).length ≤ 2097170 := by rw [List.length_append]; simp only [List.length_singleton]; omega
    go_enter Tryz.func166, Tryz.ntmps166
    go_wp2
    go_region_held3 (fun W => W.heap[w.heap.size]? = some (.cells #[.string nm, .int .i64 0, .int .i64 ix] 76) ∧ W.cell? ⟨w.heap.size, 0, none⟩ = some (.string nm) ∧ W.cell? ⟨w.heap.size, 1, none⟩ = some (.int .i64 0) ∧ W.cell? ⟨w.heap.size, 2, none⟩ = some (.int .i64 ix))
      (first | (with_reducible exact box_3 G3.box) | (with_reducible exact box_3 G2.box) | (with_reducible exact box_3 G1.box) | (with_reducible exact hx0) | (exact box_3 (G.alloc _).drew.box) | (exact box_3 (G1.alloc _).box))
      (first
        | (go_at_call 232; (with_reducible refine (c _ G.drew.own G.drew.le).mono ?_); rintro e w1 ⟨v1, rfl, A1⟩; have G1 := G.drew.call A1.own (A1.near G.drew.own))
        | (go_at_call 232; (with_reducible refine (c _ (G.alloc _).drew.own (G.alloc _).drew.le).mono ?_); rintro e w1 ⟨v1, rfl, A1⟩; have G1 := (G.alloc _).drew.call A1.own (A1.near (G.alloc _).drew.own); have g1 := A1.grown)
        | (refine step_bytes rfl (.tmp 8) (.tmp 12) 24 rfl base 5 i0 Tryz.underlying24 hi hz0 hz1 hz2 _ _ rfl (G1.alloc _).own _ _ _ [0] rfl rfl (lit_one _ _ _ (by simp) rfl) (by omega) (G1.alloc _).le ?_; intro v2 w2 h2 g2 _; have G2 := (G1.alloc _).step h2 g2)
        | (refine step_bytes rfl (.tmp 8) (.tmp 12) 24 rfl base 5 i0 Tryz.underlying24 hi hz0 hz1 hz2 _ _ rfl G1.own _ _ _ [0] rfl rfl (lit_after G.own _ _ _ g1 (by simp) rfl) (by omega) G1.le ?_; intro v2 w2 h2 g2 _; have G2 := G1.step h2 g2)
        | (go_at_call 160; (with_reducible refine (number_of base v2 _ ix _ G2.own G2.le (by omega) (by omega) (by omega)).mono ?_); rintro e w3 ⟨v3, rfl, h3, n3⟩; have G3 := G2.call h3 n3))
    all_goals
      go_wp2
      go_ret
      exact ⟨_, rfl, G3.own, G3.near⟩
  · have hq : expC d ⟨nm, 2, ix⟩ = numC (textC d nm.data.toList ++ [2]) ix := rfl
    rw [hq]
    clear hq
    have G := Go1.start hown hb #[.string nm, .int .i64 2, .int .i64 ix] 76 (by decide)
    have hx0 := box_3 G.drew.box
    have l2 : (textC d nm.data.toList ++ [2]).length ≤ 2097170 := by rw [List.length_append]; simp only [List.length_singleton]; omega
    go_enter Tryz.func166, Tryz.ntmps166
    go_wp2
    go_region_held3 (fun W => W.heap[w.heap.size]? = some (.cells #[.string nm, .int .i64 2, .int .i64 ix] 76) ∧ W.cell? ⟨w.heap.size, 0, none⟩ = some (.string nm) ∧ W.cell? ⟨w.heap.size, 1, none⟩ = some (.int .i64 2) ∧ W.cell? ⟨w.heap.size, 2, none⟩ = some (.int .i64 ix))
      (first | (with_reducible exact box_3 G3.box) | (with_reducible exact box_3 G2.box) | (with_reducible exact box_3 G1.box) | (with_reducible exact hx0) | (exact box_3 (G.alloc _).drew.box) | (exact box_3 (G1.alloc _).box))
      (first
        | (go_at_call 232; (with_reducible refine (c _ G.drew.own G.drew.le).mono ?_); rintro e w1 ⟨v1, rfl, A1⟩; have G1 := G.drew.call A1.own (A1.near G.drew.own))
        | (go_at_call 232; (with_reducible refine (c _ (G.alloc _).drew.own (G.alloc _).drew.le).mono ?_); rintro e w1 ⟨v1, rfl, A1⟩; have G1 := (G.alloc _).drew.call A1.own (A1.near (G.alloc _).drew.own); have g1 := A1.grown)
        | (refine step_bytes rfl (.tmp 8) (.tmp 12) 24 rfl base 5 i0 Tryz.underlying24 hi hz0 hz1 hz2 _ _ rfl (G1.alloc _).own _ _ _ [2] rfl rfl (lit_one _ _ _ (by simp) rfl) (by omega) (G1.alloc _).le ?_; intro v2 w2 h2 g2 _; have G2 := (G1.alloc _).step h2 g2)
        | (refine step_bytes rfl (.tmp 8) (.tmp 12) 24 rfl base 5 i0 Tryz.underlying24 hi hz0 hz1 hz2 _ _ rfl G1.own _ _ _ [2] rfl rfl (lit_after G.own _ _ _ g1 (by simp) rfl) (by omega) G1.le ?_; intro v2 w2 h2 g2 _; have G2 := G1.step h2 g2)
        | (go_at_call 160; (with_reducible refine (number_of base v2 _ ix _ G2.own G2.le (by omega) (by omega) (by omega)).mono ?_); rintro e w3 ⟨v3, rfl, h3, n3⟩; have G3 := G2.call h3 n3))
    all_goals
      go_wp2
      go_ret
      exact ⟨_, rfl, G3.own, G3.near⟩
  · have hq : expC d ⟨nm, 3, ix⟩ = numC (textC d nm.data.toList ++ [3]) ix := rfl
    rw [hq]
    clear hq
    have G := Go1.start hown hb #[.string nm, .int .i64 3, .int .i64 ix] 76 (by decide)
    have hx0 := box_3 G.drew.box
    have l2 : (textC d nm.data.toList ++ [3]).length ≤ 2097170 := by rw [List.length_append]; simp only [List.length_singleton]; omega
    go_enter Tryz.func166, Tryz.ntmps166
    go_wp2
    go_region_held3 (fun W => W.heap[w.heap.size]? = some (.cells #[.string nm, .int .i64 3, .int .i64 ix] 76) ∧ W.cell? ⟨w.heap.size, 0, none⟩ = some (.string nm) ∧ W.cell? ⟨w.heap.size, 1, none⟩ = some (.int .i64 3) ∧ W.cell? ⟨w.heap.size, 2, none⟩ = some (.int .i64 ix))
      (first | (with_reducible exact box_3 G3.box) | (with_reducible exact box_3 G2.box) | (with_reducible exact box_3 G1.box) | (with_reducible exact hx0) | (exact box_3 (G.alloc _).drew.box) | (exact box_3 (G1.alloc _).box))
      (first
        | (go_at_call 232; (with_reducible refine (c _ G.drew.own G.drew.le).mono ?_); rintro e w1 ⟨v1, rfl, A1⟩; have G1 := G.drew.call A1.own (A1.near G.drew.own))
        | (go_at_call 232; (with_reducible refine (c _ (G.alloc _).drew.own (G.alloc _).drew.le).mono ?_); rintro e w1 ⟨v1, rfl, A1⟩; have G1 := (G.alloc _).drew.call A1.own (A1.near (G.alloc _).drew.own); have g1 := A1.grown)
        | (refine step_bytes rfl (.tmp 8) (.tmp 12) 24 rfl base 5 i0 Tryz.underlying24 hi hz0 hz1 hz2 _ _ rfl (G1.alloc _).own _ _ _ [3] rfl rfl (lit_one _ _ _ (by simp) rfl) (by omega) (G1.alloc _).le ?_; intro v2 w2 h2 g2 _; have G2 := (G1.alloc _).step h2 g2)
        | (refine step_bytes rfl (.tmp 8) (.tmp 12) 24 rfl base 5 i0 Tryz.underlying24 hi hz0 hz1 hz2 _ _ rfl G1.own _ _ _ [3] rfl rfl (lit_after G.own _ _ _ g1 (by simp) rfl) (by omega) G1.le ?_; intro v2 w2 h2 g2 _; have G2 := G1.step h2 g2)
        | (go_at_call 160; (with_reducible refine (number_of base v2 _ ix _ G2.own G2.le (by omega) (by omega) (by omega)).mono ?_); rintro e w3 ⟨v3, rfl, h3, n3⟩; have G3 := G2.call h3 n3))
    all_goals
      go_wp2
      go_ret
      exact ⟨_, rfl, G3.own, G3.near⟩
theorem ints_rows5 {w : World} {p : Option Addr} {ls : List Int} (h : IntsAt w p ls) : RowsAt w p 1 intRow ls := fun j hj i v hv => by
  obtain ⟨b, o, hp, hb, hc⟩ := h j hj
  match i, hv with
  | 0, hv => simp [intRow] at hv; subst hv; exact ⟨b, o, hp, hb, by simpa using hc⟩
  | i + 1, hv => simp [intRow] at hv
theorem enters_number : ∀ args w, (callFunc 160 args).run Tryz.prog w = .ok (.enter 160 args) w := enters_of Tryz.func160 (by kernel_rfl) rfl
theorem number_puts (w0 : World) : Puts 160 intVal (fun _ n => word n = true) numC w0 := fun n W base v d _ _ hb hown hd hn => by
  unfold word at hn
  simp only [decide_eq_true_eq] at hn
  exact number_of base v d n W hown hb (by omega) (by omega) (by omega)
theorem number_adds {n : Int} (hn : word n = true) : Adds numC 10 n := fun out hout => by
  unfold word at hn
  simp only [decide_eq_true_eq] at hn
  have := num_len (b := out) (n := n) (by omega) (by omega)
  omega
structure Go2 (base : Nat) (w : World) (b : Nat) (cs : Array Value) (t : TypeId) (b2 : Nat) (cs2 : Array Value) (W : World) (v : Value) (d : List UInt8) : Prop where
  one : Go1 base w b cs t W v d
  info : W.heap[b2]? = some (.cells cs2 200)
theorem info_ne : 200 ≠ 5 := by decide
theorem Go2.alloc {base b b2 : Nat} {w W : World} {cs cs2 : Array Value} {t : TypeId} {v : Value} {d : List UInt8} (h : Go2 base w b cs t b2 cs2 W v d) (o : Obj) : Go2 base w b cs t b2 cs2 (W.alloc o) v d :=
  ⟨h.one.alloc o, (Below.heap_alloc W o b2 (heap_lt9 h.info)).trans h.info⟩
theorem Go2.step {base b b2 : Nat} {w W W' : World} {cs cs2 : Array Value} {t : TypeId} {v v' : Value} {d d' : List UInt8} (h : Go2 base w b cs t b2 cs2 W v d) (ho : Own W' base 5 v' d') (hg : W.grownBy W' v.ownBlock) : Go2 base w b cs t b2 cs2 W' v' d' :=
  ⟨h.one.step ho hg, (Near.of_grown h.one.own hg).box h.info info_ne⟩
theorem Go1.info {base b : Nat} {w W W' : World} {cs : Array Value} {t : TypeId} {v : Value} {d : List UInt8} (h : Go1 base w b cs t W v d) (hb : Below W.heap.size W W') (cs2 : Array Value) : Go2 base w b cs t W'.heap.size cs2 (W'.alloc (.cells cs2 200)) v d :=
  ⟨(h.call (h.own.below hb) (Near.of_below hb)).alloc _, heap_alloc_new _ _⟩
theorem ins_shape_0 (w0 : World) (base : Nat) (v : Value) (d : List UInt8) (op a b : Int) (lp : Option Addr) (n lc : Nat) (ls : List Int) (hn : ls.length = n) (w : World) (hL : Spaces w) (hB0 : Below w0.heap.size w0 w) (hb0 : w0.heap.size ≤ base) (hb : base ≤ w.heap.size) (hown : Own w base 5 v d) (hd : d.length ≤ 1048576) (r : Rw) (hby : byCode op = some r) (hsh : r.shape = 0) :
    Calls Tryz.prog 99 #[v, .agg #[.int .i64 op, .int .i64 a, .int .i64 b, .slice lp n lc]] w (Adds5 w base (d ++ one5 op)) := by
  obtain ⟨i0, hi, hz0, hz1, hz2⟩ := info_parts Tryz.info5
  have hbd := byCode_bd hby
  have hop : 0 ≤ op ∧ op ≤ 255 := by
    have hc : r.code = op := by simpa using List.find?_some hby
    omega
  have G := Go1.start hown hb #[.int .i64 op, .int .i64 a, .int .i64 b, .slice lp n lc] 46 (by decide)
  have c := op_of op (by omega) (by omega) (w.alloc (.cells #[.int .i64 op, .int .i64 a, .int .i64 b, .slice lp n lc] 46)) (hL.alloc _)
  rw [hby] at c
  obtain ⟨rc, rn, rs, rp, rr⟩ := r
  simp only at hsh
  subst hsh
  simp only [infoVal, Option.isSome] at c
  have hu : IntKind.u8.wrap op = op := by rw [IntKind.wrap_u8]; omega
  have ho : one5 op = [UInt8.ofNat op.toNat] := by unfold one5; rw [show op % 256 = op by omega]
  rw [ho]
  have l1 : (d ++ [UInt8.ofNat op.toNat]).length ≤ 1048577 := by simp; omega
  clear hby hbd ho
  clear hn hB0 hL
  go_enter Tryz.func99, Tryz.ntmps99
  go_wp2_with (first
    | (go_at_call 183; (with_reducible refine c.mono ?_); rintro e w1 ⟨rfl, hb1⟩; have G1 := G.info hb1 #[.string rn, .int .i64 0, .string rp, .string rr]; obtain ⟨hq, y0, y1, y2, y3⟩ := box_4 ((hb1.block _ (heap_lt9 G.box)).trans G.box); have hq2 := heap_lt9 hq; replace y0 := fun o => (World.cell?_alloc_lt w1 o (⟨w.heap.size, 0, none⟩ : Addr) hq2).trans y0; clear hq c y1 y2 y3)
    | (at_builtin; refine wpl_bytes rfl (.tmp 13) (.tmp 17) 24 rfl base 5 i0 Tryz.underlying24 hi hz0 hz1 hz2 _ _ rfl (G1.alloc _).one.own _ _ _ [UInt8.ofNat op.toNat] rfl rfl (lit_one _ _ _ (by simp) (byte_of (by omega) (by omega))) (by omega) (G1.alloc _).one.le ?_; intro v2 w2 h2 g2; have G2 := (G1.alloc _).step h2 g2; obtain ⟨_, q0, q1, q2, q3⟩ := box_4 G2.one.box; obtain ⟨_, s0, s1, s2, s3⟩ := box_4 G2.info))
  go_ret
  exact ⟨_, rfl, G2.one.own, G2.one.near⟩
theorem ins_shape_1 (w0 : World) (base : Nat) (v : Value) (d : List UInt8) (op a b : Int) (lp : Option Addr) (n lc : Nat) (ls : List Int) (hn : ls.length = n) (w : World) (hL : Spaces w) (hB0 : Below w0.heap.size w0 w) (hb0 : w0.heap.size ≤ base) (hb : base ≤ w.heap.size) (hown : Own w base 5 v d) (hd : d.length ≤ 1048576) (r : Rw) (hby : byCode op = some r) (hsh : r.shape = 1) (ha : a = 64 ∨ a = 126 ∨ a = 127) :
    Calls Tryz.prog 99 #[v, .agg #[.int .i64 op, .int .i64 a, .int .i64 b, .slice lp n lc]] w (Adds5 w base (d ++ one5 op ++ one5 a)) := by
  obtain ⟨i0, hi, hz0, hz1, hz2⟩ := info_parts Tryz.info5
  have hbd := byCode_bd hby
  have hop : 0 ≤ op ∧ op ≤ 255 := by
    have hc : r.code = op := by simpa using List.find?_some hby
    omega
  have G := Go1.start hown hb #[.int .i64 op, .int .i64 a, .int .i64 b, .slice lp n lc] 46 (by decide)
  have c := op_of op (by omega) (by omega) (w.alloc (.cells #[.int .i64 op, .int .i64 a, .int .i64 b, .slice lp n lc] 46)) (hL.alloc _)
  rw [hby] at c
  obtain ⟨rc, rn, rs, rp, rr⟩ := r
  simp only at hsh
  subst hsh
  simp only [infoVal, Option.isSome] at c
  have hu : IntKind.u8.wrap op = op := by rw [IntKind.wrap_u8]; omega
  have ho : one5 op = [UInt8.ofNat op.toNat] := by unfold one5; rw [show op % 256 = op by omega]
  rw [ho]
  have l1 : (d ++ [UInt8.ofNat op.toNat]).length ≤ 1048577 := by simp; omega
  clear hby hbd ho
  have ha2 : 0 ≤ a ∧ a ≤ 255 := by omega
  have hv : IntKind.u8.wrap a = a := by rw [IntKind.wrap_u8]; omega
  have ho : one5 a = [UInt8.ofNat a.toNat] := by unfold one5; rw [show a % 256 = a by omega]
  rw [ho]
  clear ha ho
  clear hn hB0 hL
  go_enter Tryz.func99, Tryz.ntmps99
  go_wp2_with (first
    | (go_at_call 183; (with_reducible refine c.mono ?_); rintro e w1 ⟨rfl, hb1⟩; have G1 := G.info hb1 #[.string rn, .int .i64 1, .string rp, .string rr]; obtain ⟨hq, y0, y1, y2, y3⟩ := box_4 ((hb1.block _ (heap_lt9 G.box)).trans G.box); have hq2 := heap_lt9 hq; replace y0 := fun o => (World.cell?_alloc_lt w1 o (⟨w.heap.size, 0, none⟩ : Addr) hq2).trans y0; clear hq c y1 y2 y3)
    | (at_builtin; refine wpl_bytes rfl (.tmp 13) (.tmp 17) 24 rfl base 5 i0 Tryz.underlying24 hi hz0 hz1 hz2 _ _ rfl (G1.alloc _).one.own _ _ _ [UInt8.ofNat op.toNat] rfl rfl (lit_one _ _ _ (by simp) (byte_of (by omega) (by omega))) (by omega) (G1.alloc _).one.le ?_; intro v2 w2 h2 g2; have G2 := (G1.alloc _).step h2 g2; obtain ⟨_, q0, q1, q2, q3⟩ := box_4 G2.one.box; obtain ⟨_, s0, s1, s2, s3⟩ := box_4 G2.info)
    | (at_builtin; refine wpl_bytes rfl (.tmp 23) (.tmp 27) 24 rfl base 5 i0 Tryz.underlying24 hi hz0 hz1 hz2 _ _ rfl (G2.alloc _).one.own _ _ _ [UInt8.ofNat a.toNat] rfl rfl (lit_one _ _ _ (by simp) (byte_of (by omega) (by omega))) (by omega) (G2.alloc _).one.le ?_; intro v3 w3 h3 g3; have G3 := (G2.alloc _).one.step h3 g3))
  go_ret
  exact ⟨_, rfl, G3.own, G3.near⟩
theorem ins_shape_2 (w0 : World) (base : Nat) (v : Value) (d : List UInt8) (op a b : Int) (lp : Option Addr) (n lc : Nat) (ls : List Int) (hn : ls.length = n) (w : World) (hL : Spaces w) (hB0 : Below w0.heap.size w0 w) (hb0 : w0.heap.size ≤ base) (hb : base ≤ w.heap.size) (hown : Own w base 5 v d) (hd : d.length ≤ 1048576) (r : Rw) (hby : byCode op = some r) (hsh : r.shape = 2) (ha : 0 ≤ a ∧ a < 4294967296) :
    Calls Tryz.prog 99 #[v, .agg #[.int .i64 op, .int .i64 a, .int .i64 b, .slice lp n lc]] w (Adds5 w base (numC (d ++ one5 op) a)) := by
  obtain ⟨i0, hi, hz0, hz1, hz2⟩ := info_parts Tryz.info5
  have hbd := byCode_bd hby
  have hop : 0 ≤ op ∧ op ≤ 255 := by
    have hc : r.code = op := by simpa using List.find?_some hby
    omega
  have G := Go1.start hown hb #[.int .i64 op, .int .i64 a, .int .i64 b, .slice lp n lc] 46 (by decide)
  have c := op_of op (by omega) (by omega) (w.alloc (.cells #[.int .i64 op, .int .i64 a, .int .i64 b, .slice lp n lc] 46)) (hL.alloc _)
  rw [hby] at c
  obtain ⟨rc, rn, rs, rp, rr⟩ := r
  simp only at hsh
  subst hsh
  simp only [infoVal, Option.isSome] at c
  have hu : IntKind.u8.wrap op = op := by rw [IntKind.wrap_u8]; omega
  have ho : one5 op = [UInt8.ofNat op.toNat] := by unfold one5; rw [show op % 256 = op by omega]
  rw [ho]
  have l1 : (d ++ [UInt8.ofNat op.toNat]).length ≤ 1048577 := by simp; omega
  clear hby hbd ho
  clear hn hB0 hL
  go_enter Tryz.func99, Tryz.ntmps99
  go_wp2_with (first
    | (go_at_call 183; (with_reducible refine c.mono ?_); rintro e w1 ⟨rfl, hb1⟩; have G1 := G.info hb1 #[.string rn, .int .i64 2, .string rp, .string rr]; obtain ⟨hq, y0, y1, y2, y3⟩ := box_4 ((hb1.block _ (heap_lt9 G.box)).trans G.box); have hq2 := heap_lt9 hq; replace y0 := fun o => (World.cell?_alloc_lt w1 o (⟨w.heap.size, 0, none⟩ : Addr) hq2).trans y0; clear hq c y1 y2 y3)
    | (at_builtin; refine wpl_bytes rfl (.tmp 13) (.tmp 17) 24 rfl base 5 i0 Tryz.underlying24 hi hz0 hz1 hz2 _ _ rfl (G1.alloc _).one.own _ _ _ [UInt8.ofNat op.toNat] rfl rfl (lit_one _ _ _ (by simp) (byte_of (by omega) (by omega))) (by omega) (G1.alloc _).one.le ?_; intro v2 w2 h2 g2; have G2 := (G1.alloc _).step h2 g2; obtain ⟨_, q0, q1, q2, q3⟩ := box_4 G2.one.box; obtain ⟨_, s0, s1, s2, s3⟩ := box_4 G2.info)
    | (go_at_call 187; (with_reducible refine (number64_of base v2 _ a _ G2.one.own G2.one.le (by omega) (by omega) (by omega)).mono ?_); rintro e w3 ⟨v3, rfl, h3, n3⟩; have G3 := G2.one.call h3 n3))
  go_ret
  exact ⟨_, rfl, G3.own, G3.near⟩
theorem ins_shape_3 (w0 : World) (base : Nat) (v : Value) (d : List UInt8) (op a b : Int) (lp : Option Addr) (n lc : Nat) (ls : List Int) (hn : ls.length = n) (w : World) (hL : Spaces w) (hB0 : Below w0.heap.size w0 w) (hb0 : w0.heap.size ≤ base) (hb : base ≤ w.heap.size) (hown : Own w base 5 v d) (hd : d.length ≤ 1048576) (r : Rw) (hby : byCode op = some r) (hsh : r.shape = 3) (ha : 0 ≤ a ∧ a < 4294967296) (hls : ∀ n ∈ ls, word n = true) (hll : ls.length ≤ 4096) (hat : IntsAt w0 lp ls) :
    Calls Tryz.prog 99 #[v, .agg #[.int .i64 op, .int .i64 a, .int .i64 b, .slice lp n lc]] w (Adds5 w base (numC (listC numC (d ++ one5 op) ls) a)) := by
  obtain ⟨i0, hi, hz0, hz1, hz2⟩ := info_parts Tryz.info5
  have hbd := byCode_bd hby
  have hop : 0 ≤ op ∧ op ≤ 255 := by
    have hc : r.code = op := by simpa using List.find?_some hby
    omega
  have G := Go1.start hown hb #[.int .i64 op, .int .i64 a, .int .i64 b, .slice lp n lc] 46 (by decide)
  have c := op_of op (by omega) (by omega) (w.alloc (.cells #[.int .i64 op, .int .i64 a, .int .i64 b, .slice lp n lc] 46)) (hL.alloc _)
  rw [hby] at c
  obtain ⟨rc, rn, rs, rp, rr⟩ := r
  simp only at hsh
  subst hsh
  simp only [infoVal, Option.isSome] at c
  have hu : IntKind.u8.wrap op = op := by rw [IntKind.wrap_u8]; omega
  have ho : one5 op = [UInt8.ofNat op.toNat] := by unfold one5; rw [show op % 256 = op by omega]
  rw [ho]
  have l1 : (d ++ [UInt8.ofNat op.toNat]).length ≤ 1048577 := by simp; omega
  clear hby hbd ho
  have H : Puttable 1 intRow (fun _ n => word n = true) numC 10 w0 lp n ls := ⟨hn, by omega, ints_rows5 hat, fun x hx _ _ => hls x hx, fun x hx => number_adds (hls x hx), by omega⟩
  have cl := fun (W : World) (hW : Near base w W) (v2 : Value) (h2 : Own W base 5 v2 (d ++ [UInt8.ofNat op.toNat])) => list_Int (number_puts w0) enters_number lp n lc ls H base hb0 W (hB0.trans ((hW.below hb).mono hb0)) (Nat.le_trans hb hW.size) v2 _ h2 (by omega)
  have hll2 : (listC numC (d ++ [UInt8.ofNat op.toNat]) ls).length ≤ 3000000 := by
    have h5 := num_len (b := d ++ [UInt8.ofNat op.toNat]) (n := (ls.length : Int)) (by omega) (by omega)
    have h6 := each_len (F := numC) (K := 10) (l := ls) (b := numC (d ++ [UInt8.ofNat op.toNat]) ls.length) (fun x hx => number_adds (hls x hx))
    unfold listC
    omega
  clear H hls hat
  clear hn hB0 hL
  go_enter Tryz.func99, Tryz.ntmps99
  go_wp2_with (first
    | (go_at_call 183; (with_reducible refine c.mono ?_); rintro e w1 ⟨rfl, hb1⟩; have G1 := G.info hb1 #[.string rn, .int .i64 3, .string rp, .string rr]; obtain ⟨hq, y0, y1, y2, y3⟩ := box_4 ((hb1.block _ (heap_lt9 G.box)).trans G.box); have hq2 := heap_lt9 hq; replace y0 := fun o => (World.cell?_alloc_lt w1 o (⟨w.heap.size, 0, none⟩ : Addr) hq2).trans y0; clear hq c y1 y2 y3)
    | (at_builtin; refine wpl_bytes rfl (.tmp 13) (.tmp 17) 24 rfl base 5 i0 Tryz.underlying24 hi hz0 hz1 hz2 _ _ rfl (G1.alloc _).one.own _ _ _ [UInt8.ofNat op.toNat] rfl rfl (lit_one _ _ _ (by simp) (byte_of (by omega) (by omega))) (by omega) (G1.alloc _).one.le ?_; intro v2 w2 h2 g2; have G2 := (G1.alloc _).step h2 g2; obtain ⟨_, q0, q1, q2, q3⟩ := box_4 G2.one.box; obtain ⟨_, s0, s1, s2, s3⟩ := box_4 G2.info))
  have hx0 := box_4 G2.one.drew.box
  go_region_held3 (fun W => W.heap[w.heap.size]? = some (.cells #[.int .i64 op, .int .i64 a, .int .i64 b, .slice lp n lc] 46) ∧ W.cell? ⟨w.heap.size, 0, none⟩ = some (.int .i64 op) ∧ W.cell? ⟨w.heap.size, 1, none⟩ = some (.int .i64 a) ∧ W.cell? ⟨w.heap.size, 2, none⟩ = some (.int .i64 b) ∧ W.cell? ⟨w.heap.size, 3, none⟩ = some (.slice lp n lc))
    (first | (with_reducible exact box_4 G4.box) | (with_reducible exact box_4 G3.box) | (with_reducible exact hx0))
    (first
      | (go_at_call 188; (with_reducible refine (cl _ G2.one.drew.near _ G2.one.drew.own).mono ?_); rintro e w3 ⟨v3, rfl, h3, n3⟩; have G3 := G2.one.drew.call h3 n3)
      | (go_at_call 187; (with_reducible refine (number64_of base v3 _ a _ G3.own G3.le (by omega) (by omega) (by omega)).mono ?_); rintro e w4 ⟨v4, rfl, h4, n4⟩; have G4 := G3.call h4 n4))
  all_goals
    go_wp2
    go_ret
    exact ⟨_, rfl, G4.own, G4.near⟩
theorem ins_shape_4 (w0 : World) (base : Nat) (v : Value) (d : List UInt8) (op a b : Int) (lp : Option Addr) (n lc : Nat) (ls : List Int) (hn : ls.length = n) (w : World) (hL : Spaces w) (hB0 : Below w0.heap.size w0 w) (hb0 : w0.heap.size ≤ base) (hb : base ≤ w.heap.size) (hown : Own w base 5 v d) (hd : d.length ≤ 1048576) (r : Rw) (hby : byCode op = some r) (hsh : r.shape = 4) (ha : 0 ≤ a ∧ a < 4294967296) :
    Calls Tryz.prog 99 #[v, .agg #[.int .i64 op, .int .i64 a, .int .i64 b, .slice lp n lc]] w (Adds5 w base (numC (d ++ one5 op) a)) := by
  obtain ⟨i0, hi, hz0, hz1, hz2⟩ := info_parts Tryz.info5
  have hbd := byCode_bd hby
  have hop : 0 ≤ op ∧ op ≤ 255 := by
    have hc : r.code = op := by simpa using List.find?_some hby
    omega
  have G := Go1.start hown hb #[.int .i64 op, .int .i64 a, .int .i64 b, .slice lp n lc] 46 (by decide)
  have c := op_of op (by omega) (by omega) (w.alloc (.cells #[.int .i64 op, .int .i64 a, .int .i64 b, .slice lp n lc] 46)) (hL.alloc _)
  rw [hby] at c
  obtain ⟨rc, rn, rs, rp, rr⟩ := r
  simp only at hsh
  subst hsh
  simp only [infoVal, Option.isSome] at c
  have hu : IntKind.u8.wrap op = op := by rw [IntKind.wrap_u8]; omega
  have ho : one5 op = [UInt8.ofNat op.toNat] := by unfold one5; rw [show op % 256 = op by omega]
  rw [ho]
  have l1 : (d ++ [UInt8.ofNat op.toNat]).length ≤ 1048577 := by simp; omega
  clear hby hbd ho
  clear hn hB0 hL
  go_enter Tryz.func99, Tryz.ntmps99
  go_wp2_with (first
    | (go_at_call 183; (with_reducible refine c.mono ?_); rintro e w1 ⟨rfl, hb1⟩; have G1 := G.info hb1 #[.string rn, .int .i64 4, .string rp, .string rr]; obtain ⟨hq, y0, y1, y2, y3⟩ := box_4 ((hb1.block _ (heap_lt9 G.box)).trans G.box); have hq2 := heap_lt9 hq; replace y0 := fun o => (World.cell?_alloc_lt w1 o (⟨w.heap.size, 0, none⟩ : Addr) hq2).trans y0; clear hq c y1 y2 y3)
    | (at_builtin; refine wpl_bytes rfl (.tmp 13) (.tmp 17) 24 rfl base 5 i0 Tryz.underlying24 hi hz0 hz1 hz2 _ _ rfl (G1.alloc _).one.own _ _ _ [UInt8.ofNat op.toNat] rfl rfl (lit_one _ _ _ (by simp) (byte_of (by omega) (by omega))) (by omega) (G1.alloc _).one.le ?_; intro v2 w2 h2 g2; have G2 := (G1.alloc _).step h2 g2; obtain ⟨_, q0, q1, q2, q3⟩ := box_4 G2.one.box; obtain ⟨_, s0, s1, s2, s3⟩ := box_4 G2.info)
    | (go_at_call 187; (with_reducible refine (number64_of base v2 _ a _ G2.one.own G2.one.le (by omega) (by omega) (by omega)).mono ?_); rintro e w3 ⟨v3, rfl, h3, n3⟩; have G3 := G2.one.call h3 n3))
  go_ret
  exact ⟨_, rfl, G3.own, G3.near⟩
theorem ins_shape_5 (w0 : World) (base : Nat) (v : Value) (d : List UInt8) (op a b : Int) (lp : Option Addr) (n lc : Nat) (ls : List Int) (hn : ls.length = n) (w : World) (hL : Spaces w) (hB0 : Below w0.heap.size w0 w) (hb0 : w0.heap.size ≤ base) (hb : base ≤ w.heap.size) (hown : Own w base 5 v d) (hd : d.length ≤ 1048576) (r : Rw) (hby : byCode op = some r) (hsh : r.shape = 5) (ha : 0 ≤ a ∧ a < 4294967296) (hb2 : 0 ≤ b ∧ b < 4294967296) :
    Calls Tryz.prog 99 #[v, .agg #[.int .i64 op, .int .i64 a, .int .i64 b, .slice lp n lc]] w (Adds5 w base (numC (numC (d ++ one5 op) a) b)) := by
  obtain ⟨i0, hi, hz0, hz1, hz2⟩ := info_parts Tryz.info5
  have hbd := byCode_bd hby
  have hop : 0 ≤ op ∧ op ≤ 255 := by
    have hc : r.code = op := by simpa using List.find?_some hby
    omega
  have G := Go1.start hown hb #[.int .i64 op, .int .i64 a, .int .i64 b, .slice lp n lc] 46 (by decide)
  have c := op_of op (by omega) (by omega) (w.alloc (.cells #[.int .i64 op, .int .i64 a, .int .i64 b, .slice lp n lc] 46)) (hL.alloc _)
  rw [hby] at c
  obtain ⟨rc, rn, rs, rp, rr⟩ := r
  simp only at hsh
  subst hsh
  simp only [infoVal, Option.isSome] at c
  have hu : IntKind.u8.wrap op = op := by rw [IntKind.wrap_u8]; omega
  have ho : one5 op = [UInt8.ofNat op.toNat] := by unfold one5; rw [show op % 256 = op by omega]
  rw [ho]
  have l1 : (d ++ [UInt8.ofNat op.toNat]).length ≤ 1048577 := by simp; omega
  clear hby hbd ho
  clear hn hB0 hL
  go_enter Tryz.func99, Tryz.ntmps99
  go_wp2_with (first
    | (go_at_call 183; (with_reducible refine c.mono ?_); rintro e w1 ⟨rfl, hb1⟩; have G1 := G.info hb1 #[.string rn, .int .i64 5, .string rp, .string rr]; obtain ⟨hq, y0, y1, y2, y3⟩ := box_4 ((hb1.block _ (heap_lt9 G.box)).trans G.box); have hq2 := heap_lt9 hq; replace y0 := fun o => (World.cell?_alloc_lt w1 o (⟨w.heap.size, 0, none⟩ : Addr) hq2).trans y0; clear hq c y1 y2 y3)
    | (at_builtin; refine wpl_bytes rfl (.tmp 13) (.tmp 17) 24 rfl base 5 i0 Tryz.underlying24 hi hz0 hz1 hz2 _ _ rfl (G1.alloc _).one.own _ _ _ [UInt8.ofNat op.toNat] rfl rfl (lit_one _ _ _ (by simp) (byte_of (by omega) (by omega))) (by omega) (G1.alloc _).one.le ?_; intro v2 w2 h2 g2; have G2 := (G1.alloc _).step h2 g2; obtain ⟨_, q0, q1, q2, q3⟩ := box_4 G2.one.box; obtain ⟨_, s0, s1, s2, s3⟩ := box_4 G2.info))
  have hx0 := box_4 G2.one.drew.box
  have l2 := num_len (b := d ++ [UInt8.ofNat op.toNat]) (n := a) (by omega) (by omega)
  go_region_held3 (fun W => W.heap[w.heap.size]? = some (.cells #[.int .i64 op, .int .i64 a, .int .i64 b, .slice lp n lc] 46) ∧ W.cell? ⟨w.heap.size, 0, none⟩ = some (.int .i64 op) ∧ W.cell? ⟨w.heap.size, 1, none⟩ = some (.int .i64 a) ∧ W.cell? ⟨w.heap.size, 2, none⟩ = some (.int .i64 b) ∧ W.cell? ⟨w.heap.size, 3, none⟩ = some (.slice lp n lc))
    (first | (with_reducible exact box_4 G4.box) | (with_reducible exact box_4 G3.box) | (with_reducible exact hx0))
    (first
      | (go_at_call 187; (with_reducible refine (number64_of base v3 _ b _ G3.own G3.le (by omega) (by omega) (by omega)).mono ?_); rintro e w4 ⟨v4, rfl, h4, n4⟩; have G4 := G3.call h4 n4)
      | (go_at_call 187; (with_reducible refine (number64_of base v2 _ a _ G2.one.drew.own G2.one.drew.le (by omega) (by omega) (by omega)).mono ?_); rintro e w3 ⟨v3, rfl, h3, n3⟩; have G3 := G2.one.drew.call h3 n3))
  all_goals
    go_wp2
    go_ret
    exact ⟨_, rfl, G4.own, G4.near⟩
theorem ins_shape_6 (w0 : World) (base : Nat) (v : Value) (d : List UInt8) (op a b : Int) (lp : Option Addr) (n lc : Nat) (ls : List Int) (hn : ls.length = n) (w : World) (hL : Spaces w) (hB0 : Below w0.heap.size w0 w) (hb0 : w0.heap.size ≤ base) (hb : base ≤ w.heap.size) (hown : Own w base 5 v d) (hd : d.length ≤ 1048576) (r : Rw) (hby : byCode op = some r) (hsh : r.shape = 6) :
    Calls Tryz.prog 99 #[v, .agg #[.int .i64 op, .int .i64 a, .int .i64 b, .slice lp n lc]] w (Adds5 w base (d ++ one5 op ++ [0])) := by
  obtain ⟨i0, hi, hz0, hz1, hz2⟩ := info_parts Tryz.info5
  have hbd := byCode_bd hby
  have hop : 0 ≤ op ∧ op ≤ 255 := by
    have hc : r.code = op := by simpa using List.find?_some hby
    omega
  have G := Go1.start hown hb #[.int .i64 op, .int .i64 a, .int .i64 b, .slice lp n lc] 46 (by decide)
  have c := op_of op (by omega) (by omega) (w.alloc (.cells #[.int .i64 op, .int .i64 a, .int .i64 b, .slice lp n lc] 46)) (hL.alloc _)
  rw [hby] at c
  obtain ⟨rc, rn, rs, rp, rr⟩ := r
  simp only at hsh
  subst hsh
  simp only [infoVal, Option.isSome] at c
  have hu : IntKind.u8.wrap op = op := by rw [IntKind.wrap_u8]; omega
  have ho : one5 op = [UInt8.ofNat op.toNat] := by unfold one5; rw [show op % 256 = op by omega]
  rw [ho]
  have l1 : (d ++ [UInt8.ofNat op.toNat]).length ≤ 1048577 := by simp; omega
  clear hby hbd ho
  clear hn hB0 hL
  go_enter Tryz.func99, Tryz.ntmps99
  go_wp2_with (first
    | (go_at_call 183; (with_reducible refine c.mono ?_); rintro e w1 ⟨rfl, hb1⟩; have G1 := G.info hb1 #[.string rn, .int .i64 6, .string rp, .string rr]; obtain ⟨hq, y0, y1, y2, y3⟩ := box_4 ((hb1.block _ (heap_lt9 G.box)).trans G.box); have hq2 := heap_lt9 hq; replace y0 := fun o => (World.cell?_alloc_lt w1 o (⟨w.heap.size, 0, none⟩ : Addr) hq2).trans y0; clear hq c y1 y2 y3)
    | (at_builtin; refine wpl_bytes rfl (.tmp 13) (.tmp 17) 24 rfl base 5 i0 Tryz.underlying24 hi hz0 hz1 hz2 _ _ rfl (G1.alloc _).one.own _ _ _ [UInt8.ofNat op.toNat] rfl rfl (lit_one _ _ _ (by simp) (byte_of (by omega) (by omega))) (by omega) (G1.alloc _).one.le ?_; intro v2 w2 h2 g2; have G2 := (G1.alloc _).step h2 g2; obtain ⟨_, q0, q1, q2, q3⟩ := box_4 G2.one.box; obtain ⟨_, s0, s1, s2, s3⟩ := box_4 G2.info)
    | (at_builtin; refine wpl_bytes rfl (.tmp 56) (.tmp 57) 24 rfl base 5 i0 Tryz.underlying24 hi hz0 hz1 hz2 _ _ rfl (G2.alloc _).one.own _ _ _ [0] rfl rfl (lit_one _ _ _ (by simp) rfl) (by omega) (G2.alloc _).one.le ?_; intro v3 w3 h3 g3; have G3 := (G2.alloc _).one.step h3 g3))
  go_ret
  exact ⟨_, rfl, G3.own, G3.near⟩
theorem ins_shape_7 (w0 : World) (base : Nat) (v : Value) (d : List UInt8) (op a b : Int) (lp : Option Addr) (n lc : Nat) (ls : List Int) (hn : ls.length = n) (w : World) (hL : Spaces w) (hB0 : Below w0.heap.size w0 w) (hb0 : w0.heap.size ≤ base) (hb : base ≤ w.heap.size) (hown : Own w base 5 v d) (hd : d.length ≤ 1048576) (r : Rw) (hby : byCode op = some r) (hsh : r.shape = 7) (ha : -9223372036854775808 ≤ a ∧ a ≤ 9223372036854775807) :
    Calls Tryz.prog 99 #[v, .agg #[.int .i64 op, .int .i64 a, .int .i64 b, .slice lp n lc]] w (Adds5 w base (d ++ one5 op ++ putS a)) := by
  obtain ⟨i0, hi, hz0, hz1, hz2⟩ := info_parts Tryz.info5
  have hbd := byCode_bd hby
  have hop : 0 ≤ op ∧ op ≤ 255 := by
    have hc : r.code = op := by simpa using List.find?_some hby
    omega
  have G := Go1.start hown hb #[.int .i64 op, .int .i64 a, .int .i64 b, .slice lp n lc] 46 (by decide)
  have c := op_of op (by omega) (by omega) (w.alloc (.cells #[.int .i64 op, .int .i64 a, .int .i64 b, .slice lp n lc] 46)) (hL.alloc _)
  rw [hby] at c
  obtain ⟨rc, rn, rs, rp, rr⟩ := r
  simp only at hsh
  subst hsh
  simp only [infoVal, Option.isSome] at c
  have hu : IntKind.u8.wrap op = op := by rw [IntKind.wrap_u8]; omega
  have ho : one5 op = [UInt8.ofNat op.toNat] := by unfold one5; rw [show op % 256 = op by omega]
  rw [ho]
  have l1 : (d ++ [UInt8.ofNat op.toNat]).length ≤ 1048577 := by simp; omega
  clear hby hbd ho
  have cs := fun W => put_s a ha.1 ha.2 W
  have hl7 := putS_len10 ha.1 ha.2
  clear hn hB0 hL
  go_enter Tryz.func99, Tryz.ntmps99
  go_wp2_with (first
    | (go_at_call 183; (with_reducible refine c.mono ?_); rintro e w1 ⟨rfl, hb1⟩; have G1 := G.info hb1 #[.string rn, .int .i64 7, .string rp, .string rr]; obtain ⟨hq, y0, y1, y2, y3⟩ := box_4 ((hb1.block _ (heap_lt9 G.box)).trans G.box); have hq2 := heap_lt9 hq; replace y0 := fun o => (World.cell?_alloc_lt w1 o (⟨w.heap.size, 0, none⟩ : Addr) hq2).trans y0; clear hq c y1 y2 y3)
    | (at_builtin; refine wpl_bytes rfl (.tmp 13) (.tmp 17) 24 rfl base 5 i0 Tryz.underlying24 hi hz0 hz1 hz2 _ _ rfl (G1.alloc _).one.own _ _ _ [UInt8.ofNat op.toNat] rfl rfl (lit_one _ _ _ (by simp) (byte_of (by omega) (by omega))) (by omega) (G1.alloc _).one.le ?_; intro v2 w2 h2 g2; have G2 := (G1.alloc _).step h2 g2; obtain ⟨_, q0, q1, q2, q3⟩ := box_4 G2.one.box; obtain ⟨_, s0, s1, s2, s3⟩ := box_4 G2.info)
    | (go_at_call 189; (with_reducible refine (cs _).mono ?_); rintro e w3 ⟨rfl, hb3⟩; have G3 := G2.one.call (G2.one.own.below hb3) (Near.of_below hb3))
    | (at_builtin; refine wpl_string rfl (.tmp 61) (.tmp 64) 24 9 rfl base 5 i0 Tryz.underlying24 Tryz.underlying9 hi hz0 hz1 hz2 _ _ rfl G3.own (putS a) rfl (by omega) G3.le ?_; intro v4 w4 h4 g4 _; have G4 := G3.step h4 g4))
  go_ret
  exact ⟨_, rfl, G4.own, G4.near⟩
def okIns (w0 : World) (W : World) (x : InsV) : Prop := rightIns x = true ∧ InsAt w0 x ∧ Spaces W
theorem instr_puts (w0 : World) : Puts 99 InsV.val (okIns w0) insC w0 := by
  rintro ⟨op, a, b, lp, lc, ls⟩ W base v d hB0 hb0 hb hown hd ⟨hr, ⟨hat, hll, hop, ha, hb', hls⟩, hL⟩
  have h0 : rightOf (byCode op) op a b ls = true := hr
  cases hby : byCode op with
  | none => rw [hby] at h0; cases h0
  | some r =>
    have hq : insC d ⟨op, a, b, lp, lc, ls⟩ = tailC r.shape (d ++ one5 op) ⟨op, a, b, lp, lc, ls⟩ := by unfold insC; simp only [hby]
    rw [hq]
    have hbd := byCode_bd hby
    rw [hby] at h0
    unfold rightOf at h0
    simp only at h0 ha hat hll
    split at h0
    · cases h0
    · split at h0
      · cases h0
      · have h8 : r.shape = 0 ∨ r.shape = 1 ∨ r.shape = 2 ∨ r.shape = 3 ∨ r.shape = 4 ∨ r.shape = 5 ∨ r.shape = 6 ∨ r.shape = 7 := by omega
        rcases h8 with h | h | h | h | h | h | h | h
        all_goals rw [h] at h0 ⊢
        all_goals simp [word] at h0
        · exact ins_shape_0 w0 base v d op a b lp ls.length lc ls rfl W hL hB0 hb0 hb hown hd r hby h
        · exact ins_shape_1 w0 base v d op a b lp ls.length lc ls rfl W hL hB0 hb0 hb hown hd r hby h h0
        · exact ins_shape_2 w0 base v d op a b lp ls.length lc ls rfl W hL hB0 hb0 hb hown hd r hby h h0
        · exact ins_shape_3 w0 base v d op a b lp ls.length lc ls rfl W hL hB0 hb0 hb hown hd r hby h h0.2 (fun n hn => by unfold word; exact decide_eq_true (h0.1.1 n hn)) h0.1.2 hat
        · exact ins_shape_4 w0 base v d op a b lp ls.length lc ls rfl W hL hB0 hb0 hb hown hd r hby h h0
        · exact ins_shape_5 w0 base v d op a b lp ls.length lc ls rfl W hL hB0 hb0 hb hown hd r hby h h0.1 h0.2
        · exact ins_shape_6 w0 base v d op a b lp ls.length lc ls rfl W hL hB0 hb0 hb hown hd r hby h
        · exact ins_shape_7 w0 base v d op a b lp ls.length lc ls rfl W hL hB0 hb0 hb hown hd r hby h ha
theorem instr_adds {x : InsV} (hr : rightIns x = true) (ha : inI64 x.a) : Adds insC 100 x := by
  intro out hout
  obtain ⟨op, a, b, lp, lc, ls⟩ := x
  have h0 : rightOf (byCode op) op a b ls = true := hr
  have ha2 : -9223372036854775808 ≤ a ∧ a ≤ 9223372036854775807 := ha
  cases hby : byCode op with
  | none => rw [hby] at h0; cases h0
  | some r =>
    have hq : insC out ⟨op, a, b, lp, lc, ls⟩ = tailC r.shape (out ++ one5 op) ⟨op, a, b, lp, lc, ls⟩ := by unfold insC; simp only [hby]
    rw [hq]
    have hbd := byCode_bd hby
    rw [hby] at h0
    unfold rightOf at h0
    simp only at h0
    have l1 : (out ++ one5 op).length = out.length + 1 := by rw [List.length_append]; rfl
    split at h0
    · cases h0
    · split at h0
      · cases h0
      · have h8 : r.shape = 0 ∨ r.shape = 1 ∨ r.shape = 2 ∨ r.shape = 3 ∨ r.shape = 4 ∨ r.shape = 5 ∨ r.shape = 6 ∨ r.shape = 7 := by omega
        rcases h8 with h | h | h | h | h | h | h | h
        all_goals rw [h] at h0 ⊢
        all_goals simp [word] at h0
        · show (out ++ one5 op).length ≤ _; omega
        · show (out ++ one5 op ++ one5 a).length ≤ _; rw [List.length_append, l1]; show _ + 1 ≤ _; omega
        · show (numC (out ++ one5 op) a).length ≤ _
          have := num_len (b := out ++ one5 op) (n := a) (by omega) (by omega); omega
        · show (numC (listC numC (out ++ one5 op) ls) a).length ≤ _
          have h5 := num_len (b := out ++ one5 op) (n := (ls.length : Int)) (by omega) (by omega)
          have h6 := each_len (F := numC) (K := 10) (l := ls) (b := numC (out ++ one5 op) ls.length) (fun x hx => number_adds (by unfold word; exact decide_eq_true (h0.1.1 x hx)))
          have h7 := num_len (b := listC numC (out ++ one5 op) ls) (n := a) (by omega) (by omega)
          unfold listC at h7 ⊢
          omega
        · show (numC (out ++ one5 op) a).length ≤ _
          have := num_len (b := out ++ one5 op) (n := a) (by omega) (by omega); omega
        · show (numC (numC (out ++ one5 op) a) b).length ≤ _
          have h5 := num_len (b := out ++ one5 op) (n := a) (by omega) (by omega)
          have h6 := num_len (b := numC (out ++ one5 op) a) (n := b) (by omega) (by omega); omega
        · show (out ++ one5 op ++ [0]).length ≤ _; rw [List.length_append, l1]; show _ + 1 ≤ _; omega
        · show (out ++ one5 op ++ putS a).length ≤ _; rw [List.length_append, l1]
          have := putS_len10 ha2.1 ha2.2; omega
end Go.Proofs.YthfipknfdnfalaaGreatDoor
