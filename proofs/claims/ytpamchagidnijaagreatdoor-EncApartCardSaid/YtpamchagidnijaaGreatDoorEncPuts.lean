/-
  Package enc: a type, a memory, a const, a global, an export, data, put behind bytes; walked. Contracts that the proofs call; no statement is proved here.
-/
import Derived.Test.YtpamchagidnijaaGreatDoorEncEach
namespace Go.Proofs.YtpamchagidnijaaGreatDoor
open Go.RowKit
set_option linter.unusedVariables false

/-- Where a walk stands that puts bytes: what it has, and the variable that it reads. -/
structure Go1 (base : Nat) (w : World) (b : Nat) (cs : Array Value) (t : TypeId) (W : World) (v : Value) (d : List UInt8) : Prop where
  own : Own W base 5 v d
  near : Near base w W
  box : W.heap[b]? = some (.cells cs t)
  le : base ≤ W.heap.size
  ne : t ≠ 5
theorem Go1.start {base : Nat} {w : World} {v : Value} {d : List UInt8} (hown : Own w base 5 v d) (hb : base ≤ w.heap.size) (cs : Array Value) (t : TypeId) (ht : t ≠ 5) : Go1 base w w.heap.size cs t (w.alloc (.cells cs t)) v d :=
  ⟨hown.alloc _, (Near.refl _ _).alloc _, heap_alloc_new _ _, by simp; omega, ht⟩
theorem Go1.alloc {base b : Nat} {w W : World} {cs : Array Value} {t : TypeId} {v : Value} {d : List UInt8} (h : Go1 base w b cs t W v d) (o : Obj) : Go1 base w b cs t (W.alloc o) v d :=
  ⟨h.own.alloc o, h.near.alloc o, (Below.heap_alloc W o b (heap_lt9 h.box)).trans h.box, by have := h.le; simp; omega, h.ne⟩
theorem Go1.drew {base b : Nat} {w W : World} {cs : Array Value} {t : TypeId} {v : Value} {d : List UInt8} (h : Go1 base w b cs t W v d) : Go1 base w b cs t W.drew v d :=
  ⟨h.own.drew, h.near.drew, h.box, h.le, h.ne⟩
theorem Go1.step {base b : Nat} {w W W' : World} {cs : Array Value} {t : TypeId} {v v' : Value} {d d' : List UInt8} (h : Go1 base w b cs t W v d) (ho : Own W' base 5 v' d') (hg : W.grownBy W' v.ownBlock) : Go1 base w b cs t W' v' d' :=
  ⟨ho, h.near.grew h.own hg, (Near.of_grown h.own hg).box h.box h.ne, Nat.le_trans h.le hg.size, h.ne⟩
theorem Go1.call {base b : Nat} {w W W' : World} {cs : Array Value} {t : TypeId} {v v' : Value} {d d' : List UInt8} (h : Go1 base w b cs t W v d) (ho : Own W' base 5 v' d') (hn : Near base W W') : Go1 base w b cs t W' v' d' :=
  ⟨ho, h.near.trans hn, hn.box h.box h.ne, Nat.le_trans h.le hn.size, h.ne⟩
theorem lit_one {W : World} (k : Nat) (n : Int) (c : UInt8) (hk : k = W.heap.size) (hc : (c.toNat : Int) = n) {t : TypeId} : ∀ j b, [c][j]? = some b → (W.alloc (.cells #[.int .u8 n] t)).cell? ((⟨k, 0, none⟩ : Addr).add j) = some (.int .u8 (b.toNat : Int)) := by
  intro j b hj
  subst hk; subst hc
  exact lit_at (l := [c]) j b hj
theorem lit_oneD {W : World} (k : Nat) (n : Int) (c : UInt8) (hk : k = W.heap.size) (hc : (c.toNat : Int) = n) {t : TypeId} : ∀ j b, [c][j]? = some b → (W.alloc (.cells #[.int .u8 n] t)).drew.cell? ((⟨k, 0, none⟩ : Addr).add j) = some (.int .u8 (b.toNat : Int)) := lit_one k n c hk hc
theorem lit_twoD {W : World} (k : Nat) (n m : Int) (c e : UInt8) (hk : k = W.heap.size) (hc : (c.toNat : Int) = n) (he : (e.toNat : Int) = m) {t : TypeId} : ∀ j b, [c, e][j]? = some b → (W.alloc (.cells #[.int .u8 n, .int .u8 m] t)).drew.cell? ((⟨k, 0, none⟩ : Addr).add j) = some (.int .u8 (b.toNat : Int)) := by
  intro j b hj
  subst hk; subst hc; subst he
  exact lit_at (l := [c, e]) j b hj
theorem lit_after {W w1 : World} {base : Nat} {v : Value} {d : List UInt8} (hown : Own W base 5 v d) (k : Nat) (n : Int) (c : UInt8) {t : TypeId} (hg : (W.alloc (.cells #[.int .u8 n] t)).drew.grownBy w1 v.ownBlock) (hk : k = W.heap.size) (hc : (c.toNat : Int) = n) : ∀ j b, [c][j]? = some b → w1.cell? ((⟨k, 0, none⟩ : Addr).add j) = some (.int .u8 (b.toNat : Int)) := by
  intro j b hj
  subst hk
  have h0 := lit_oneD (W := W) W.heap.size n c rfl hc (t := t) j b hj
  have hx : (W.alloc (.cells #[.int .u8 n] t)).drew.heap[W.heap.size]? = some (.cells #[.int .u8 n] t) := heap_alloc_new _ _
  have h1 := (hg.block W.heap.size (heap_lt9 hx) (fun e => by have := (World.ownsRow.lt hown _ e.symm).2; omega)).trans hx
  have hadd : (⟨W.heap.size, 0, none⟩ : Addr).add j = ⟨W.heap.size, j, none⟩ := by unfold Addr.add; split <;> simp_all
  rw [hadd] at h0 ⊢
  simp only [World.cell?, h1]
  simp only [World.cell?, hx] at h0
  exact h0
set_option maxRecDepth 100000 in
set_option maxHeartbeats 4000000 in
theorem type_of (base : Nat) (v : Value) (d : List UInt8) (t : TyV) (w : World) (hown : Own w base 5 v d) (hb : base ≤ w.heap.size) (hd : d.length ≤ 1048576) (h1 : t.params.size ≤ maxLen) (h2 : t.results.size ≤ maxLen) :
    Calls Tryz.prog 103 #[v, t.val] w (Adds5 w base (typeC d t)) := by
  obtain ⟨i0, hi, hz0, hz1, hz2⟩ := info_parts Tryz.info5
  obtain ⟨tp, tr⟩ := t
  unfold maxLen at h1 h2
  simp only at h1 h2
  simp only [TyV.val]
  have G := (Go1.start hown hb #[.string tp, .string tr] 86 (by decide))
  have l1 : (d ++ [96]).length ≤ 1048577 := by simp; omega
  have l2 := text_len (b := d ++ [96]) (s := tp.data.toList) (by rw [show tp.data.toList.length = tp.size from Array.length_toList]; omega)
  have hx0 := box_2 G.drew.box
  go_enter Tryz.func103, Tryz.ntmps103
  go_wp2
  go_region_held3 (fun W => W.heap[w.heap.size]? = some (.cells #[.string tp, .string tr] 86) ∧ W.cell? ⟨w.heap.size, 0, none⟩ = some (.string tp) ∧ W.cell? ⟨w.heap.size, 1, none⟩ = some (.string tr))
    (first | (with_reducible exact box_2 G3.box) | (with_reducible exact box_2 G2.box) | (with_reducible exact box_2 G1.box) | (with_reducible exact hx0) | (exact box_2 (G.alloc _).drew.box))
    (first
      | (refine step_bytes rfl (.tmp 5) (.tmp 6) 46 rfl base 5 i0 Tryz.underlying46 hi hz0 hz1 hz2 _ _ rfl (G.alloc _).drew.own _ _ _ [96] rfl rfl (lit_oneD _ _ _ (by simp) rfl) (by omega) (G.alloc _).drew.le ?_; intro v1 w1 h1 g1 _; have G1 := (G.alloc _).drew.step h1 g1)
      | (go_at_call 182; (with_reducible refine (text_of base v2 _ tr _ G2.own G2.le (by omega) (by omega)).mono ?_); rintro e w3 ⟨v3, rfl, h3, n3⟩; have G3 := G2.call h3 n3)
      | (go_at_call 182; (with_reducible refine (text_of base v1 _ tp _ G1.own G1.le (by omega) (by omega)).mono ?_); rintro e w2 ⟨v2, rfl, h2, n2⟩; have G2 := G1.call h2 n2))
  all_goals
    go_wp2
    go_ret
    exact ⟨_, rfl, G3.own, G3.near⟩

set_option maxRecDepth 100000 in
set_option maxHeartbeats 4000000 in
theorem func_of (base : Nat) (v : Value) (d : List UInt8) (f : FnV) (w : World) (hown : Own w base 5 v d) (hb : base ≤ w.heap.size) (hd : d.length ≤ 1048576) (h0 : 0 ≤ f.type) (h1 : f.type < 4294967296) :
    Calls Tryz.prog 105 #[v, f.val] w (Adds5 w base (funcC d f)) := by
  obtain ⟨ty, lo, cp, cc, code⟩ := f
  simp only at h0 h1
  simp only [FnV.val, funcC]
  generalize code.length = n
  have G := Go1.start hown hb #[.int .i64 ty, .string lo, .slice cp n cc] 38 (by decide)
  have c := number_of base v d ty _ G.own G.le (by omega) (by omega) (by omega)
  go_enter Tryz.func105, Tryz.ntmps105
  go_wp2_with (go_at_call 106; (with_reducible refine c.mono ?_); rintro e w1 ⟨v1, rfl, h1, n1⟩)
  go_ret
  exact ⟨_, rfl, h1, G.near.trans n1⟩

set_option maxRecDepth 100000 in
set_option maxHeartbeats 4000000 in
theorem memory_of (base : Nat) (v : Value) (d : List UInt8) (t : MemV) (w : World) (hown : Own w base 5 v d) (hb : base ≤ w.heap.size) (hd : d.length ≤ 1048576) (hr : rightMem t = true) :
    Calls Tryz.prog 108 #[v, t.val] w (Adds5 w base (memC d t)) := by
  obtain ⟨i0, hi, hz0, hz1, hz2⟩ := info_parts Tryz.info5
  obtain ⟨mn, mx⟩ := t
  unfold rightMem word4 at hr
  simp only [Bool.and_eq_true, Bool.or_eq_true, decide_eq_true_eq] at hr
  simp only [MemV.val]
  have G := Go1.start hown hb #[.int .i64 mn, .int .i64 mx] 88 (by decide)
  have l1 : (d ++ [0]).length ≤ 1048577 := by simp; omega
  have l2 : (d ++ [1]).length ≤ 1048577 := by simp; omega
  have l3 := num_len (b := d ++ [1]) (n := mn) (by omega) (by omega)
  have hx0 := box_2 G.drew.box
  have q0 : 0 ≤ mn ∧ mn ≤ 4294967295 := by omega
  by_cases hm : mx < 0
  · have hq : memC d ⟨mn, mx⟩ = numC (d ++ [0]) mn := by unfold memC; simp only; rw [if_pos hm]
    rw [hq]
    clear hq hr
    go_enter Tryz.func108, Tryz.ntmps108
    go_wp2
    go_region_held3 (fun W => W.heap[w.heap.size]? = some (.cells #[.int .i64 mn, .int .i64 mx] 88) ∧ W.cell? ⟨w.heap.size, 0, none⟩ = some (.int .i64 mn) ∧ W.cell? ⟨w.heap.size, 1, none⟩ = some (.int .i64 mx))
      (first | (with_reducible exact box_2 G2.box) | (with_reducible exact box_2 G1.box) | (with_reducible exact hx0) | (exact box_2 (G.alloc _).drew.box))
      (first
        | (refine step_bytes rfl (.tmp 8) (.tmp 9) 46 rfl base 5 i0 Tryz.underlying46 hi hz0 hz1 hz2 _ _ rfl (G.alloc _).drew.own _ _ _ [0] rfl rfl (lit_oneD _ _ _ (by simp) rfl) (by omega) (G.alloc _).drew.le ?_; intro v1 w1 h1 g1 _; have G1 := (G.alloc _).drew.step h1 g1)
        | (go_at_call 106; (with_reducible refine (number_of base v1 _ mn _ G1.own G1.le (by omega) (by omega) (by omega)).mono ?_); rintro e w2 ⟨v2, rfl, h2, n2⟩; have G2 := G1.call h2 n2))
    all_goals
      go_wp2
      go_ret
      exact ⟨_, rfl, G2.own, G2.near⟩
  · have q1 : 0 ≤ mx ∧ mx ≤ 4294967295 := by omega
    have hq : memC d ⟨mn, mx⟩ = numC (numC (d ++ [1]) mn) mx := by unfold memC; simp only; rw [if_neg hm]
    rw [hq]
    clear hq hr
    go_enter Tryz.func108, Tryz.ntmps108
    go_wp2
    go_region_held3 (fun W => W.heap[w.heap.size]? = some (.cells #[.int .i64 mn, .int .i64 mx] 88) ∧ W.cell? ⟨w.heap.size, 0, none⟩ = some (.int .i64 mn) ∧ W.cell? ⟨w.heap.size, 1, none⟩ = some (.int .i64 mx))
      (first | (with_reducible exact box_2 G3.box) | (with_reducible exact box_2 G2.box) | (with_reducible exact box_2 G1.box) | (with_reducible exact hx0) | (exact box_2 (G.alloc _).drew.box))
      (first
        | (refine step_bytes rfl (.tmp 14) (.tmp 15) 46 rfl base 5 i0 Tryz.underlying46 hi hz0 hz1 hz2 _ _ rfl (G.alloc _).drew.own _ _ _ [1] rfl rfl (lit_oneD _ _ _ (by simp) rfl) (by omega) (G.alloc _).drew.le ?_; intro v1 w1 h1 g1 _; have G1 := (G.alloc _).drew.step h1 g1)
        | (go_at_call 106; (with_reducible refine (number_of base v2 _ mx _ G2.own G2.le (by omega) (by omega) (by omega)).mono ?_); rintro e w3 ⟨v3, rfl, h3, n3⟩; have G3 := G2.call h3 n3)
        | (go_at_call 106; (with_reducible refine (number_of base v1 _ mn _ G1.own G1.le (by omega) (by omega) (by omega)).mono ?_); rintro e w2 ⟨v2, rfl, h2, n2⟩; have G2 := G1.call h2 n2))
    all_goals
      go_wp2
      go_ret
      exact ⟨_, rfl, G3.own, G3.near⟩

set_option maxRecDepth 100000 in
set_option maxHeartbeats 4000000 in
theorem put_const_of (base : Nat) (v : Value) (d : List UInt8) (kind n : Int) (w : World) (hown : Own w base 5 v d) (hb : base ≤ w.heap.size) (hd : d.length ≤ 1048600) (hk : kind = 126 ∨ kind = 127) (h0 : -9223372036854775808 ≤ n) (h1 : n ≤ 9223372036854775807) :
    Calls Tryz.prog 189 #[v, .int .i64 kind, .int .i64 n] w (Adds5 w base (constC d kind n)) := by
  obtain ⟨i0, hi, hz0, hz1, hz2⟩ := info_parts Tryz.info5
  have c := fun W => put_s n h0 h1 W
  have hl := putS_len10 h0 h1
  have n0 := (Near.refl base w)
  rcases hk with rfl | rfl
  case' inl => have hq : constC d 126 n = d ++ [66] ++ putS n ++ [11] := rfl
  case' inr => have hq : constC d 127 n = d ++ [65] ++ putS n ++ [11] := rfl
  all_goals
    rw [hq]
    clear hq
    go_enter Tryz.func189, Tryz.ntmps189
    go_wp2_with (first
      | (at_builtin; refine wpl_bytes rfl (.tmp 10) (.tmp 12) 46 rfl base 5 i0 Tryz.underlying46 hi hz0 hz1 hz2 _ _ rfl (hown.alloc _) _ _ _ [_] rfl rfl (lit_one _ _ _ (by simp) (by first | exact (rfl : ((65 : UInt8).toNat : Int) = 65) | exact (rfl : ((66 : UInt8).toNat : Int) = 66))) (by omega) (by simp; omega) ?_; intro v1 w1 h1 g1; have N1 := (n0.alloc _).grew (hown.alloc _) g1; have b1 := Nat.le_trans hb N1.size))
    go_wp2_with (first
      | (go_at_call 179; (with_reducible refine (c _).mono ?_); rintro e w2 ⟨rfl, hb2⟩; have h2 := h1.below hb2; have N2 := N1.then hb2; have b2 := Nat.le_trans hb N2.size)
      | (at_builtin; refine wpl_string rfl (.tmp 13) (.tmp 15) 46 9 rfl base 5 i0 Tryz.underlying46 Tryz.underlying9 hi hz0 hz1 hz2 _ _ rfl h2 (putS n) rfl (by simp; omega) (by omega) ?_; intro v3 w3 h3 g3 _; have N3 := N2.grew h2 g3; have b3 := Nat.le_trans hb N3.size)
      | (at_builtin; refine wpl_bytes rfl (.tmp 17) (.tmp 18) 46 rfl base 5 i0 Tryz.underlying46 hi hz0 hz1 hz2 _ _ rfl (h3.alloc _) _ _ _ [11] rfl rfl (lit_one _ _ _ (by simp) rfl) (by simp; omega) (by simp; omega) ?_; intro v4 w4 h4 g4; have N4 := (N3.alloc _).grew (h3.alloc _) g4))
    go_ret
    exact ⟨_, rfl, h4, N4⟩

set_option maxRecDepth 100000 in
set_option maxHeartbeats 4000000 in
theorem run_of (base : Nat) (v : Value) (d : List UInt8) (x : RunV) (w : World) (hown : Own w base 5 v d) (hb : base ≤ w.heap.size) (hd : d.length ≤ 1048576) (hm : x.many ≤ 1000000) :
    Calls Tryz.prog 194 #[v, x.val] w (Adds5 w base (runC d (x.kind, x.many))) := by
  obtain ⟨i0, hi, hz0, hz1, hz2⟩ := info_parts Tryz.info5
  obtain ⟨mn, kd⟩ := x
  simp only at hm
  simp only [RunV.val]
  have hkd := kd.toNat_lt
  have l1 := num_len (b := d) (n := (mn : Int)) (by omega) (by omega)
  have G := Go1.start hown hb #[.int .i64 mn, .int .u8 kd.toNat] 229 (by decide)
  have hx0 := box_2 G.drew.box
  have c := fun W hW hB => number_grown base v d (mn : Int) W hW hB (by omega) (by omega) (by omega)
  go_enter Tryz.func194, Tryz.ntmps194
  go_wp2
  go_region_held3 (fun W => W.heap[w.heap.size]? = some (.cells #[.int .i64 mn, .int .u8 kd.toNat] 229) ∧ W.cell? ⟨w.heap.size, 0, none⟩ = some (.int .i64 mn) ∧ W.cell? ⟨w.heap.size, 1, none⟩ = some (.int .u8 kd.toNat))
    (first | (with_reducible exact box_2 G2.box) | (with_reducible exact box_2 G1.box) | (with_reducible exact hx0) | (exact box_2 (G.alloc _).drew.box) | (exact box_2 (G1.alloc _).box))
    (first
      | (go_at_call 106; (with_reducible refine (c _ G.drew.own G.drew.le).mono ?_); rintro e w1 ⟨v1, rfl, A1⟩; have G1 := G.drew.call A1.own (A1.near G.drew.own))
      | (go_at_call 106; (with_reducible refine (c _ (G.alloc _).drew.own (G.alloc _).drew.le).mono ?_); rintro e w1 ⟨v1, rfl, A1⟩; have G1 := (G.alloc _).drew.call A1.own (A1.near (G.alloc _).drew.own); have g1 := A1.grown)
      | (refine step_bytes rfl (.tmp 8) (.tmp 11) 46 rfl base 5 i0 Tryz.underlying46 hi hz0 hz1 hz2 _ _ rfl (G1.alloc _).own _ _ _ [kd] rfl rfl (lit_one _ _ _ (by simp) rfl) (by omega) (G1.alloc _).le ?_; intro v2 w2 h2 g2 _; have G2 := (G1.alloc _).step h2 g2)
      | (refine step_bytes rfl (.tmp 8) (.tmp 11) 46 rfl base 5 i0 Tryz.underlying46 hi hz0 hz1 hz2 _ _ rfl G1.own _ _ _ [kd] rfl rfl (lit_after G.own _ _ _ g1 (by simp) rfl) (by omega) G1.le ?_; intro v2 w2 h2 g2 _; have G2 := G1.step h2 g2))
  all_goals
    go_wp2
    go_ret
    exact ⟨_, rfl, G2.own, G2.near⟩

set_option maxRecDepth 100000 in
set_option maxHeartbeats 4000000 in
theorem global_of (base : Nat) (v : Value) (d : List UInt8) (t : GlobV) (w : World) (hown : Own w base 5 v d) (hb : base ≤ w.heap.size) (hd : d.length ≤ 1048576) (hr : rightGlob t = true) (ha : inI64 t.init) :
    Calls Tryz.prog 110 #[v, t.val] w (Adds5 w base (globC d t)) := by
  obtain ⟨i0, hi, hz0, hz1, hz2⟩ := info_parts Tryz.info5
  obtain ⟨gt, gm, gi⟩ := t
  unfold rightGlob at hr
  simp only [Bool.and_eq_true, Bool.or_eq_true, decide_eq_true_eq] at hr
  have hk : gt = 126 ∨ gt = 127 := by omega
  obtain ⟨hi0, hi1⟩ : -9223372036854775808 ≤ gi ∧ gi ≤ 9223372036854775807 := ha
  simp only [GlobV.val]
  clear hr
  rcases hk with rfl | rfl <;> rcases gm with _ | _
  · have hq : globC d ⟨126, false, gi⟩ = constC (d ++ [126, 0]) 126 gi := rfl
    rw [hq]
    clear hq
    have G := Go1.start hown hb #[.int .i64 126, .bool false, .int .i64 gi] 90 (by decide)
    have hx0 := box_3 G.drew.box
    have l1 : (d ++ [126, 0]).length ≤ 1048578 := by simp; omega
    go_enter Tryz.func110, Tryz.ntmps110
    go_wp2
    go_region_held3 (fun W => W.heap[w.heap.size]? = some (.cells #[.int .i64 126, .bool false, .int .i64 gi] 90) ∧ W.cell? ⟨w.heap.size, 0, none⟩ = some (.int .i64 126) ∧ W.cell? ⟨w.heap.size, 1, none⟩ = some (.bool false) ∧ W.cell? ⟨w.heap.size, 2, none⟩ = some (.int .i64 gi))
      (first | (with_reducible exact box_3 G2.box) | (with_reducible exact box_3 G1.box) | (with_reducible exact hx0) | (exact box_3 (G.alloc _).drew.box))
      (first
        | (refine step_bytes rfl (.tmp 8) (.tmp 13) 46 rfl base 5 i0 Tryz.underlying46 hi hz0 hz1 hz2 _ _ rfl (G.alloc _).drew.own _ _ _ [126, 0] rfl rfl (lit_twoD _ _ _ _ _ (by simp) rfl rfl) (by omega) (G.alloc _).drew.le ?_; intro v1 w1 h1 g1 _; have G1 := (G.alloc _).drew.step h1 g1)
        | (go_at_call 189; (with_reducible refine (put_const_of base v1 _ 126 gi _ G1.own G1.le (by omega) (by decide) hi0 hi1).mono ?_); rintro e w2 ⟨v2, rfl, h2, n2⟩; have G2 := G1.call h2 n2))
    all_goals
      go_wp2
      go_ret
      exact ⟨_, rfl, G2.own, G2.near⟩
  · have hq : globC d ⟨126, true, gi⟩ = constC (d ++ [126, 1]) 126 gi := rfl
    rw [hq]
    clear hq
    have G := Go1.start hown hb #[.int .i64 126, .bool true, .int .i64 gi] 90 (by decide)
    have hx0 := box_3 G.drew.box
    have l1 : (d ++ [126, 1]).length ≤ 1048578 := by simp; omega
    go_enter Tryz.func110, Tryz.ntmps110
    go_wp2
    go_region_held3 (fun W => W.heap[w.heap.size]? = some (.cells #[.int .i64 126, .bool true, .int .i64 gi] 90) ∧ W.cell? ⟨w.heap.size, 0, none⟩ = some (.int .i64 126) ∧ W.cell? ⟨w.heap.size, 1, none⟩ = some (.bool true) ∧ W.cell? ⟨w.heap.size, 2, none⟩ = some (.int .i64 gi))
      (first | (with_reducible exact box_3 G2.box) | (with_reducible exact box_3 G1.box) | (with_reducible exact hx0) | (exact box_3 (G.alloc _).drew.box))
      (first
        | (refine step_bytes rfl (.tmp 8) (.tmp 13) 46 rfl base 5 i0 Tryz.underlying46 hi hz0 hz1 hz2 _ _ rfl (G.alloc _).drew.own _ _ _ [126, 1] rfl rfl (lit_twoD _ _ _ _ _ (by simp) rfl rfl) (by omega) (G.alloc _).drew.le ?_; intro v1 w1 h1 g1 _; have G1 := (G.alloc _).drew.step h1 g1)
        | (go_at_call 189; (with_reducible refine (put_const_of base v1 _ 126 gi _ G1.own G1.le (by omega) (by decide) hi0 hi1).mono ?_); rintro e w2 ⟨v2, rfl, h2, n2⟩; have G2 := G1.call h2 n2))
    all_goals
      go_wp2
      go_ret
      exact ⟨_, rfl, G2.own, G2.near⟩
  · have hq : globC d ⟨127, false, gi⟩ = constC (d ++ [127, 0]) 127 gi := rfl
    rw [hq]
    clear hq
    have G := Go1.start hown hb #[.int .i64 127, .bool false, .int .i64 gi] 90 (by decide)
    have hx0 := box_3 G.drew.box
    have l1 : (d ++ [127, 0]).length ≤ 1048578 := by simp; omega
    go_enter Tryz.func110, Tryz.ntmps110
    go_wp2
    go_region_held3 (fun W => W.heap[w.heap.size]? = some (.cells #[.int .i64 127, .bool false, .int .i64 gi] 90) ∧ W.cell? ⟨w.heap.size, 0, none⟩ = some (.int .i64 127) ∧ W.cell? ⟨w.heap.size, 1, none⟩ = some (.bool false) ∧ W.cell? ⟨w.heap.size, 2, none⟩ = some (.int .i64 gi))
      (first | (with_reducible exact box_3 G2.box) | (with_reducible exact box_3 G1.box) | (with_reducible exact hx0) | (exact box_3 (G.alloc _).drew.box))
      (first
        | (refine step_bytes rfl (.tmp 8) (.tmp 13) 46 rfl base 5 i0 Tryz.underlying46 hi hz0 hz1 hz2 _ _ rfl (G.alloc _).drew.own _ _ _ [127, 0] rfl rfl (lit_twoD _ _ _ _ _ (by simp) rfl rfl) (by omega) (G.alloc _).drew.le ?_; intro v1 w1 h1 g1 _; have G1 := (G.alloc _).drew.step h1 g1)
        | (go_at_call 189; (with_reducible refine (put_const_of base v1 _ 127 gi _ G1.own G1.le (by omega) (by decide) hi0 hi1).mono ?_); rintro e w2 ⟨v2, rfl, h2, n2⟩; have G2 := G1.call h2 n2))
    all_goals
      go_wp2
      go_ret
      exact ⟨_, rfl, G2.own, G2.near⟩
  · have hq : globC d ⟨127, true, gi⟩ = constC (d ++ [127, 1]) 127 gi := rfl
    rw [hq]
    clear hq
    have G := Go1.start hown hb #[.int .i64 127, .bool true, .int .i64 gi] 90 (by decide)
    have hx0 := box_3 G.drew.box
    have l1 : (d ++ [127, 1]).length ≤ 1048578 := by simp; omega
    go_enter Tryz.func110, Tryz.ntmps110
    go_wp2
    go_region_held3 (fun W => W.heap[w.heap.size]? = some (.cells #[.int .i64 127, .bool true, .int .i64 gi] 90) ∧ W.cell? ⟨w.heap.size, 0, none⟩ = some (.int .i64 127) ∧ W.cell? ⟨w.heap.size, 1, none⟩ = some (.bool true) ∧ W.cell? ⟨w.heap.size, 2, none⟩ = some (.int .i64 gi))
      (first | (with_reducible exact box_3 G2.box) | (with_reducible exact box_3 G1.box) | (with_reducible exact hx0) | (exact box_3 (G.alloc _).drew.box))
      (first
        | (refine step_bytes rfl (.tmp 8) (.tmp 13) 46 rfl base 5 i0 Tryz.underlying46 hi hz0 hz1 hz2 _ _ rfl (G.alloc _).drew.own _ _ _ [127, 1] rfl rfl (lit_twoD _ _ _ _ _ (by simp) rfl rfl) (by omega) (G.alloc _).drew.le ?_; intro v1 w1 h1 g1 _; have G1 := (G.alloc _).drew.step h1 g1)
        | (go_at_call 189; (with_reducible refine (put_const_of base v1 _ 127 gi _ G1.own G1.le (by omega) (by decide) hi0 hi1).mono ?_); rintro e w2 ⟨v2, rfl, h2, n2⟩; have G2 := G1.call h2 n2))
    all_goals
      go_wp2
      go_ret
      exact ⟨_, rfl, G2.own, G2.near⟩

set_option maxRecDepth 100000 in
set_option maxHeartbeats 4000000 in
theorem data_of (base : Nat) (v : Value) (d : List UInt8) (t : DatV) (w : World) (hown : Own w base 5 v d) (hb : base ≤ w.heap.size) (hd : d.length ≤ 1048576) (ha : inI64 t.offset) (hs : t.bytes.size ≤ maxLen) :
    Calls Tryz.prog 116 #[v, t.val] w (Adds5 w base (datC d t)) := by
  obtain ⟨i0, hi, hz0, hz1, hz2⟩ := info_parts Tryz.info5
  obtain ⟨off, bt⟩ := t
  obtain ⟨hi0, hi1⟩ : -9223372036854775808 ≤ off ∧ off ≤ 9223372036854775807 := ha
  unfold maxLen at hs
  simp only at hs
  simp only [DatV.val]
  have G := Go1.start hown hb #[.int .i64 off, .string bt] 92 (by decide)
  have l1 : (d ++ [0]).length ≤ 1048577 := by simp; omega
  have l2 := const_len (b := d ++ [0]) (k := 127) hi0 hi1
  have hx0 := box_2 G.drew.box
  go_enter Tryz.func116, Tryz.ntmps116
  go_wp2
  go_region_held3 (fun W => W.heap[w.heap.size]? = some (.cells #[.int .i64 off, .string bt] 92) ∧ W.cell? ⟨w.heap.size, 0, none⟩ = some (.int .i64 off) ∧ W.cell? ⟨w.heap.size, 1, none⟩ = some (.string bt))
    (first | (with_reducible exact box_2 G3.box) | (with_reducible exact box_2 G2.box) | (with_reducible exact box_2 G1.box) | (with_reducible exact hx0) | (exact box_2 (G.alloc _).drew.box))
    (first
      | (refine step_bytes rfl (.tmp 5) (.tmp 6) 46 rfl base 5 i0 Tryz.underlying46 hi hz0 hz1 hz2 _ _ rfl (G.alloc _).drew.own _ _ _ [0] rfl rfl (lit_oneD _ _ _ (by simp) rfl) (by omega) (G.alloc _).drew.le ?_; intro v1 w1 h1 g1 _; have G1 := (G.alloc _).drew.step h1 g1)
      | (go_at_call 189; (with_reducible refine (put_const_of base v1 _ 127 off _ G1.own G1.le (by omega) (by decide) hi0 hi1).mono ?_); rintro e w2 ⟨v2, rfl, h2, n2⟩; have G2 := G1.call h2 n2)
      | (go_at_call 182; (with_reducible refine (text_of base v2 _ bt _ G2.own G2.le (by omega) (by omega)).mono ?_); rintro e w3 ⟨v3, rfl, h3, n3⟩; have G3 := G2.call h3 n3))
  all_goals
    go_wp2
    go_ret
    exact ⟨_, rfl, G3.own, G3.near⟩

set_option maxRecDepth 100000 in
set_option maxHeartbeats 4000000 in
theorem export_of (base : Nat) (v : Value) (d : List UInt8) (t : ExpV) (w : World) (hown : Own w base 5 v d) (hb : base ≤ w.heap.size) (hd : d.length ≤ 1048576) (hr : rightExp t = true) (hs : t.name.size ≤ maxLen) :
    Calls Tryz.prog 112 #[v, t.val] w (Adds5 w base (expC d t)) := by
  obtain ⟨i0, hi, hz0, hz1, hz2⟩ := info_parts Tryz.info5
  obtain ⟨nm, kd, ix⟩ := t
  unfold rightExp word4 at hr
  simp only [Bool.and_eq_true, decide_eq_true_eq] at hr
  obtain ⟨_, hk, hx⟩ := hr
  unfold maxLen at hs
  simp only at hs
  simp only [ExpV.val]
  have c := fun W hW hB => text_grown base v d nm W hW hB (by omega) (by omega)
  have l1 := text_len (b := d) (s := nm.data.toList) (by rw [show nm.data.toList.length = nm.size from Array.length_toList]; omega)
  rcases hk with rfl | rfl | rfl
  · have hq : expC d ⟨nm, 0, ix⟩ = numC (textC d nm.data.toList ++ [0]) ix := rfl
    rw [hq]
    clear hq
    have G := Go1.start hown hb #[.string nm, .int .i64 0, .int .i64 ix] 43 (by decide)
    have hx0 := box_3 G.drew.box
    have l2 : (textC d nm.data.toList ++ [0]).length ≤ 2097170 := by rw [List.length_append]; simp only [List.length_singleton]; omega
    go_enter Tryz.func112, Tryz.ntmps112
    go_wp2
    go_region_held3 (fun W => W.heap[w.heap.size]? = some (.cells #[.string nm, .int .i64 0, .int .i64 ix] 43) ∧ W.cell? ⟨w.heap.size, 0, none⟩ = some (.string nm) ∧ W.cell? ⟨w.heap.size, 1, none⟩ = some (.int .i64 0) ∧ W.cell? ⟨w.heap.size, 2, none⟩ = some (.int .i64 ix))
      (first | (with_reducible exact box_3 G3.box) | (with_reducible exact box_3 G2.box) | (with_reducible exact box_3 G1.box) | (with_reducible exact hx0) | (exact box_3 (G.alloc _).drew.box) | (exact box_3 (G1.alloc _).box))
      (first
        | (go_at_call 182; (with_reducible refine (c _ G.drew.own G.drew.le).mono ?_); rintro e w1 ⟨v1, rfl, A1⟩; have G1 := G.drew.call A1.own (A1.near G.drew.own))
        | (go_at_call 182; (with_reducible refine (c _ (G.alloc _).drew.own (G.alloc _).drew.le).mono ?_); rintro e w1 ⟨v1, rfl, A1⟩; have G1 := (G.alloc _).drew.call A1.own (A1.near (G.alloc _).drew.own); have g1 := A1.grown)
        | (refine step_bytes rfl (.tmp 8) (.tmp 12) 46 rfl base 5 i0 Tryz.underlying46 hi hz0 hz1 hz2 _ _ rfl (G1.alloc _).own _ _ _ [0] rfl rfl (lit_one _ _ _ (by simp) rfl) (by omega) (G1.alloc _).le ?_; intro v2 w2 h2 g2 _; have G2 := (G1.alloc _).step h2 g2)
        | (refine step_bytes rfl (.tmp 8) (.tmp 12) 46 rfl base 5 i0 Tryz.underlying46 hi hz0 hz1 hz2 _ _ rfl G1.own _ _ _ [0] rfl rfl (lit_after G.own _ _ _ g1 (by simp) rfl) (by omega) G1.le ?_; intro v2 w2 h2 g2 _; have G2 := G1.step h2 g2)
        | (go_at_call 106; (with_reducible refine (number_of base v2 _ ix _ G2.own G2.le (by omega) (by omega) (by omega)).mono ?_); rintro e w3 ⟨v3, rfl, h3, n3⟩; have G3 := G2.call h3 n3))
    all_goals
      go_wp2
      go_ret
      exact ⟨_, rfl, G3.own, G3.near⟩
  · have hq : expC d ⟨nm, 2, ix⟩ = numC (textC d nm.data.toList ++ [2]) ix := rfl
    rw [hq]
    clear hq
    have G := Go1.start hown hb #[.string nm, .int .i64 2, .int .i64 ix] 43 (by decide)
    have hx0 := box_3 G.drew.box
    have l2 : (textC d nm.data.toList ++ [2]).length ≤ 2097170 := by rw [List.length_append]; simp only [List.length_singleton]; omega
    go_enter Tryz.func112, Tryz.ntmps112
    go_wp2
    go_region_held3 (fun W => W.heap[w.heap.size]? = some (.cells #[.string nm, .int .i64 2, .int .i64 ix] 43) ∧ W.cell? ⟨w.heap.size, 0, none⟩ = some (.string nm) ∧ W.cell? ⟨w.heap.size, 1, none⟩ = some (.int .i64 2) ∧ W.cell? ⟨w.heap.size, 2, none⟩ = some (.int .i64 ix))
      (first | (with_reducible exact box_3 G3.box) | (with_reducible exact box_3 G2.box) | (with_reducible exact box_3 G1.box) | (with_reducible exact hx0) | (exact box_3 (G.alloc _).drew.box) | (exact box_3 (G1.alloc _).box))
      (first
        | (go_at_call 182; (with_reducible refine (c _ G.drew.own G.drew.le).mono ?_); rintro e w1 ⟨v1, rfl, A1⟩; have G1 := G.drew.call A1.own (A1.near G.drew.own))
        | (go_at_call 182; (with_reducible refine (c _ (G.alloc _).drew.own (G.alloc _).drew.le).mono ?_); rintro e w1 ⟨v1, rfl, A1⟩; have G1 := (G.alloc _).drew.call A1.own (A1.near (G.alloc _).drew.own); have g1 := A1.grown)
        | (refine step_bytes rfl (.tmp 8) (.tmp 12) 46 rfl base 5 i0 Tryz.underlying46 hi hz0 hz1 hz2 _ _ rfl (G1.alloc _).own _ _ _ [2] rfl rfl (lit_one _ _ _ (by simp) rfl) (by omega) (G1.alloc _).le ?_; intro v2 w2 h2 g2 _; have G2 := (G1.alloc _).step h2 g2)
        | (refine step_bytes rfl (.tmp 8) (.tmp 12) 46 rfl base 5 i0 Tryz.underlying46 hi hz0 hz1 hz2 _ _ rfl G1.own _ _ _ [2] rfl rfl (lit_after G.own _ _ _ g1 (by simp) rfl) (by omega) G1.le ?_; intro v2 w2 h2 g2 _; have G2 := G1.step h2 g2)
        | (go_at_call 106; (with_reducible refine (number_of base v2 _ ix _ G2.own G2.le (by omega) (by omega) (by omega)).mono ?_); rintro e w3 ⟨v3, rfl, h3, n3⟩; have G3 := G2.call h3 n3))
    all_goals
      go_wp2
      go_ret
      exact ⟨_, rfl, G3.own, G3.near⟩
  · have hq : expC d ⟨nm, 3, ix⟩ = numC (textC d nm.data.toList ++ [3]) ix := rfl
    rw [hq]
    clear hq
    have G := Go1.start hown hb #[.string nm, .int .i64 3, .int .i64 ix] 43 (by decide)
    have hx0 := box_3 G.drew.box
    have l2 : (textC d nm.data.toList ++ [3]).length ≤ 2097170 := by rw [List.length_append]; simp only [List.length_singleton]; omega
    go_enter Tryz.func112, Tryz.ntmps112
    go_wp2
    go_region_held3 (fun W => W.heap[w.heap.size]? = some (.cells #[.string nm, .int .i64 3, .int .i64 ix] 43) ∧ W.cell? ⟨w.heap.size, 0, none⟩ = some (.string nm) ∧ W.cell? ⟨w.heap.size, 1, none⟩ = some (.int .i64 3) ∧ W.cell? ⟨w.heap.size, 2, none⟩ = some (.int .i64 ix))
      (first | (with_reducible exact box_3 G3.box) | (with_reducible exact box_3 G2.box) | (with_reducible exact box_3 G1.box) | (with_reducible exact hx0) | (exact box_3 (G.alloc _).drew.box) | (exact box_3 (G1.alloc _).box))
      (first
        | (go_at_call 182; (with_reducible refine (c _ G.drew.own G.drew.le).mono ?_); rintro e w1 ⟨v1, rfl, A1⟩; have G1 := G.drew.call A1.own (A1.near G.drew.own))
        | (go_at_call 182; (with_reducible refine (c _ (G.alloc _).drew.own (G.alloc _).drew.le).mono ?_); rintro e w1 ⟨v1, rfl, A1⟩; have G1 := (G.alloc _).drew.call A1.own (A1.near (G.alloc _).drew.own); have g1 := A1.grown)
        | (refine step_bytes rfl (.tmp 8) (.tmp 12) 46 rfl base 5 i0 Tryz.underlying46 hi hz0 hz1 hz2 _ _ rfl (G1.alloc _).own _ _ _ [3] rfl rfl (lit_one _ _ _ (by simp) rfl) (by omega) (G1.alloc _).le ?_; intro v2 w2 h2 g2 _; have G2 := (G1.alloc _).step h2 g2)
        | (refine step_bytes rfl (.tmp 8) (.tmp 12) 46 rfl base 5 i0 Tryz.underlying46 hi hz0 hz1 hz2 _ _ rfl G1.own _ _ _ [3] rfl rfl (lit_after G.own _ _ _ g1 (by simp) rfl) (by omega) G1.le ?_; intro v2 w2 h2 g2 _; have G2 := G1.step h2 g2)
        | (go_at_call 106; (with_reducible refine (number_of base v2 _ ix _ G2.own G2.le (by omega) (by omega) (by omega)).mono ?_); rintro e w3 ⟨v3, rfl, h3, n3⟩; have G3 := G2.call h3 n3))
    all_goals
      go_wp2
      go_ret
      exact ⟨_, rfl, G3.own, G3.near⟩
end Go.Proofs.YtpamchagidnijaaGreatDoor
