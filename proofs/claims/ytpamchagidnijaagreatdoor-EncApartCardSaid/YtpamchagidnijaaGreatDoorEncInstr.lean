/-
  Package enc: an instruction put behind bytes, walked at each shape. Contracts that the proofs call; no statement is proved here.
-/
import Derived.Test.YtpamchagidnijaaGreatDoorEncPuts
import Derived.Test.YtpamchagidnijaaGreatDoorOpOf
namespace Go.Proofs.YtpamchagidnijaaGreatDoor
open Go.RowKit
set_option linter.unusedVariables false

theorem ints_rows {w : World} {p : Option Addr} {ls : List Int} (h : IntsAt w p ls) : RowsAt w p 1 intRow ls := fun j hj i v hv => by
  obtain ⟨b, o, hp, hb, hc⟩ := h j hj
  match i, hv with
  | 0, hv => simp [intRow] at hv; subst hv; exact ⟨b, o, hp, hb, by simpa using hc⟩
  | i + 1, hv => simp [intRow] at hv
theorem enters_number : ∀ args w, (callFunc 106 args).run Tryz.prog w = .ok (.enter 106 args) w := enters_of Tryz.func106 (by kernel_rfl) rfl
theorem number_puts (w0 : World) : Puts 106 intVal (fun _ n => word n = true) numC w0 := fun n W base v d _ _ hb hown hd hn => by
  unfold word at hn
  simp only [decide_eq_true_eq] at hn
  exact number_of base v d n W hown hb (by omega) (by omega) (by omega)
theorem number_adds {n : Int} (hn : word n = true) : Adds numC 10 n := fun out hout => by
  unfold word at hn
  simp only [decide_eq_true_eq] at hn
  have := num_len (b := out) (n := n) (by omega) (by omega)
  omega
/-- An instruction, its variable and what package op tells of it. -/
structure Go2 (base : Nat) (w : World) (b : Nat) (cs : Array Value) (t : TypeId) (b2 : Nat) (cs2 : Array Value) (W : World) (v : Value) (d : List UInt8) : Prop where
  one : Go1 base w b cs t W v d
  info : W.heap[b2]? = some (.cells cs2 203)
theorem info_ne : 203 ≠ 5 := by decide
theorem Go2.alloc {base b b2 : Nat} {w W : World} {cs cs2 : Array Value} {t : TypeId} {v : Value} {d : List UInt8} (h : Go2 base w b cs t b2 cs2 W v d) (o : Obj) : Go2 base w b cs t b2 cs2 (W.alloc o) v d :=
  ⟨h.one.alloc o, (Below.heap_alloc W o b2 (heap_lt9 h.info)).trans h.info⟩
theorem Go2.step {base b b2 : Nat} {w W W' : World} {cs cs2 : Array Value} {t : TypeId} {v v' : Value} {d d' : List UInt8} (h : Go2 base w b cs t b2 cs2 W v d) (ho : Own W' base 5 v' d') (hg : W.grownBy W' v.ownBlock) : Go2 base w b cs t b2 cs2 W' v' d' :=
  ⟨h.one.step ho hg, (Near.of_grown h.one.own hg).box h.info info_ne⟩
theorem Go1.info {base b : Nat} {w W W' : World} {cs : Array Value} {t : TypeId} {v : Value} {d : List UInt8} (h : Go1 base w b cs t W v d) (hb : Below W.heap.size W W') (cs2 : Array Value) : Go2 base w b cs t W'.heap.size cs2 (W'.alloc (.cells cs2 203)) v d :=
  ⟨(h.call (h.own.below hb) (Near.of_below hb)).alloc _, heap_alloc_new _ _⟩


set_option maxRecDepth 100000 in
set_option maxHeartbeats 8000000 in
theorem ins_shape_0 (w0 : World) (base : Nat) (v : Value) (d : List UInt8) (op a b : Int) (lp : Option Addr) (n lc : Nat) (ls : List Int) (hn : ls.length = n) (w : World) (hL : Spaces w) (hB0 : Below w0.heap.size w0 w) (hb0 : w0.heap.size ≤ base) (hb : base ≤ w.heap.size) (hown : Own w base 5 v d) (hd : d.length ≤ 1048576) (r : Rw) (hby : byCode op = some r) (hsh : r.shape = 0) :
    Calls Tryz.prog 95 #[v, .agg #[.int .i64 op, .int .i64 a, .int .i64 b, .slice lp n lc]] w (Adds5 w base (d ++ one5 op)) := by
  obtain ⟨i0, hi, hz0, hz1, hz2⟩ := info_parts Tryz.info5
  have hbd := byCode_bd hby
  have hop : 0 ≤ op ∧ op ≤ 255 := by
    have hc : r.code = op := by simpa using List.find?_some hby
    omega
  have G := Go1.start hown hb #[.int .i64 op, .int .i64 a, .int .i64 b, .slice lp n lc] 41 (by decide)
  have c := op_of op (by omega) (by omega) (w.alloc (.cells #[.int .i64 op, .int .i64 a, .int .i64 b, .slice lp n lc] 41)) (hL.alloc _)
  rw [hby] at c
  obtain ⟨rc, rn, rs, rp, rr⟩ := r
  simp only at hsh
  subst hsh
  simp only [infoVal, Option.isSome] at c
  have hu : IntKind.u8.wrap op = op := by rw [IntKind.wrap_u8]; omega
  have ho : one5 op = [UInt8.ofNat op.toNat] := by unfold one5; rw [show op % 256 = op by omega]
  rw [ho]
  have l1 : (d ++ [UInt8.ofNat op.toNat]).length ≤ 1048577 := by simp; omega
  clear hby hbd ho

  clear hn hB0 hL
  go_enter Tryz.func95, Tryz.ntmps95
  go_wp2_with (first
    | (go_at_call 173; (with_reducible refine c.mono ?_); rintro e w1 ⟨rfl, hb1⟩; have G1 := G.info hb1 #[.string rn, .int .i64 0, .string rp, .string rr]; obtain ⟨hq, y0, y1, y2, y3⟩ := box_4 ((hb1.block _ (heap_lt9 G.box)).trans G.box); have hq2 := heap_lt9 hq; replace y0 := fun o => (World.cell?_alloc_lt w1 o (⟨w.heap.size, 0, none⟩ : Addr) hq2).trans y0; clear hq c y1 y2 y3)
    | (at_builtin; refine wpl_bytes rfl (.tmp 13) (.tmp 17) 46 rfl base 5 i0 Tryz.underlying46 hi hz0 hz1 hz2 _ _ rfl (G1.alloc _).one.own _ _ _ [UInt8.ofNat op.toNat] rfl rfl (lit_one _ _ _ (by simp) (byte_of (by omega) (by omega))) (by omega) (G1.alloc _).one.le ?_; intro v2 w2 h2 g2; have G2 := (G1.alloc _).step h2 g2; obtain ⟨_, q0, q1, q2, q3⟩ := box_4 G2.one.box; obtain ⟨_, s0, s1, s2, s3⟩ := box_4 G2.info))
  go_ret
  exact ⟨_, rfl, G2.one.own, G2.one.near⟩

set_option maxRecDepth 100000 in
set_option maxHeartbeats 8000000 in
theorem ins_shape_1 (w0 : World) (base : Nat) (v : Value) (d : List UInt8) (op a b : Int) (lp : Option Addr) (n lc : Nat) (ls : List Int) (hn : ls.length = n) (w : World) (hL : Spaces w) (hB0 : Below w0.heap.size w0 w) (hb0 : w0.heap.size ≤ base) (hb : base ≤ w.heap.size) (hown : Own w base 5 v d) (hd : d.length ≤ 1048576) (r : Rw) (hby : byCode op = some r) (hsh : r.shape = 1) (ha : a = 64 ∨ a = 126 ∨ a = 127) :
    Calls Tryz.prog 95 #[v, .agg #[.int .i64 op, .int .i64 a, .int .i64 b, .slice lp n lc]] w (Adds5 w base (d ++ one5 op ++ one5 a)) := by
  obtain ⟨i0, hi, hz0, hz1, hz2⟩ := info_parts Tryz.info5
  have hbd := byCode_bd hby
  have hop : 0 ≤ op ∧ op ≤ 255 := by
    have hc : r.code = op := by simpa using List.find?_some hby
    omega
  have G := Go1.start hown hb #[.int .i64 op, .int .i64 a, .int .i64 b, .slice lp n lc] 41 (by decide)
  have c := op_of op (by omega) (by omega) (w.alloc (.cells #[.int .i64 op, .int .i64 a, .int .i64 b, .slice lp n lc] 41)) (hL.alloc _)
  rw [hby] at c
  obtain ⟨rc, rn, rs, rp, rr⟩ := r
  simp only at hsh
  subst hsh
  simp only [infoVal, Option.isSome] at c
  have hu : IntKind.u8.wrap op = op := by rw [IntKind.wrap_u8]; omega
  have ho : one5 op = [UInt8.ofNat op.toNat] := by unfold one5; rw [show op % 256 = op by omega]
  rw [ho]
  have l1 : (d ++ [UInt8.ofNat op.toNat]).length ≤ 1048577 := by simp; omega
  clear hby hbd ho

  have ha2 : 0 ≤ a ∧ a ≤ 255 := by omega
  have hv : IntKind.u8.wrap a = a := by rw [IntKind.wrap_u8]; omega
  have ho : one5 a = [UInt8.ofNat a.toNat] := by unfold one5; rw [show a % 256 = a by omega]
  rw [ho]
  clear ha ho
  clear hn hB0 hL
  go_enter Tryz.func95, Tryz.ntmps95
  go_wp2_with (first
    | (go_at_call 173; (with_reducible refine c.mono ?_); rintro e w1 ⟨rfl, hb1⟩; have G1 := G.info hb1 #[.string rn, .int .i64 1, .string rp, .string rr]; obtain ⟨hq, y0, y1, y2, y3⟩ := box_4 ((hb1.block _ (heap_lt9 G.box)).trans G.box); have hq2 := heap_lt9 hq; replace y0 := fun o => (World.cell?_alloc_lt w1 o (⟨w.heap.size, 0, none⟩ : Addr) hq2).trans y0; clear hq c y1 y2 y3)
    | (at_builtin; refine wpl_bytes rfl (.tmp 13) (.tmp 17) 46 rfl base 5 i0 Tryz.underlying46 hi hz0 hz1 hz2 _ _ rfl (G1.alloc _).one.own _ _ _ [UInt8.ofNat op.toNat] rfl rfl (lit_one _ _ _ (by simp) (byte_of (by omega) (by omega))) (by omega) (G1.alloc _).one.le ?_; intro v2 w2 h2 g2; have G2 := (G1.alloc _).step h2 g2; obtain ⟨_, q0, q1, q2, q3⟩ := box_4 G2.one.box; obtain ⟨_, s0, s1, s2, s3⟩ := box_4 G2.info)
    | (at_builtin; refine wpl_bytes rfl (.tmp 23) (.tmp 27) 46 rfl base 5 i0 Tryz.underlying46 hi hz0 hz1 hz2 _ _ rfl (G2.alloc _).one.own _ _ _ [UInt8.ofNat a.toNat] rfl rfl (lit_one _ _ _ (by simp) (byte_of (by omega) (by omega))) (by omega) (G2.alloc _).one.le ?_; intro v3 w3 h3 g3; have G3 := (G2.alloc _).one.step h3 g3))
  go_ret
  exact ⟨_, rfl, G3.own, G3.near⟩

set_option maxRecDepth 100000 in
set_option maxHeartbeats 8000000 in
theorem ins_shape_2 (w0 : World) (base : Nat) (v : Value) (d : List UInt8) (op a b : Int) (lp : Option Addr) (n lc : Nat) (ls : List Int) (hn : ls.length = n) (w : World) (hL : Spaces w) (hB0 : Below w0.heap.size w0 w) (hb0 : w0.heap.size ≤ base) (hb : base ≤ w.heap.size) (hown : Own w base 5 v d) (hd : d.length ≤ 1048576) (r : Rw) (hby : byCode op = some r) (hsh : r.shape = 2) (ha : 0 ≤ a ∧ a < 4294967296) :
    Calls Tryz.prog 95 #[v, .agg #[.int .i64 op, .int .i64 a, .int .i64 b, .slice lp n lc]] w (Adds5 w base (numC (d ++ one5 op) a)) := by
  obtain ⟨i0, hi, hz0, hz1, hz2⟩ := info_parts Tryz.info5
  have hbd := byCode_bd hby
  have hop : 0 ≤ op ∧ op ≤ 255 := by
    have hc : r.code = op := by simpa using List.find?_some hby
    omega
  have G := Go1.start hown hb #[.int .i64 op, .int .i64 a, .int .i64 b, .slice lp n lc] 41 (by decide)
  have c := op_of op (by omega) (by omega) (w.alloc (.cells #[.int .i64 op, .int .i64 a, .int .i64 b, .slice lp n lc] 41)) (hL.alloc _)
  rw [hby] at c
  obtain ⟨rc, rn, rs, rp, rr⟩ := r
  simp only at hsh
  subst hsh
  simp only [infoVal, Option.isSome] at c
  have hu : IntKind.u8.wrap op = op := by rw [IntKind.wrap_u8]; omega
  have ho : one5 op = [UInt8.ofNat op.toNat] := by unfold one5; rw [show op % 256 = op by omega]
  rw [ho]
  have l1 : (d ++ [UInt8.ofNat op.toNat]).length ≤ 1048577 := by simp; omega
  clear hby hbd ho

  clear hn hB0 hL
  go_enter Tryz.func95, Tryz.ntmps95
  go_wp2_with (first
    | (go_at_call 173; (with_reducible refine c.mono ?_); rintro e w1 ⟨rfl, hb1⟩; have G1 := G.info hb1 #[.string rn, .int .i64 2, .string rp, .string rr]; obtain ⟨hq, y0, y1, y2, y3⟩ := box_4 ((hb1.block _ (heap_lt9 G.box)).trans G.box); have hq2 := heap_lt9 hq; replace y0 := fun o => (World.cell?_alloc_lt w1 o (⟨w.heap.size, 0, none⟩ : Addr) hq2).trans y0; clear hq c y1 y2 y3)
    | (at_builtin; refine wpl_bytes rfl (.tmp 13) (.tmp 17) 46 rfl base 5 i0 Tryz.underlying46 hi hz0 hz1 hz2 _ _ rfl (G1.alloc _).one.own _ _ _ [UInt8.ofNat op.toNat] rfl rfl (lit_one _ _ _ (by simp) (byte_of (by omega) (by omega))) (by omega) (G1.alloc _).one.le ?_; intro v2 w2 h2 g2; have G2 := (G1.alloc _).step h2 g2; obtain ⟨_, q0, q1, q2, q3⟩ := box_4 G2.one.box; obtain ⟨_, s0, s1, s2, s3⟩ := box_4 G2.info)
    | (go_at_call 177; (with_reducible refine (number64_of base v2 _ a _ G2.one.own G2.one.le (by omega) (by omega) (by omega)).mono ?_); rintro e w3 ⟨v3, rfl, h3, n3⟩; have G3 := G2.one.call h3 n3))
  go_ret
  exact ⟨_, rfl, G3.own, G3.near⟩

set_option maxRecDepth 100000 in
set_option maxHeartbeats 8000000 in
theorem ins_shape_3 (w0 : World) (base : Nat) (v : Value) (d : List UInt8) (op a b : Int) (lp : Option Addr) (n lc : Nat) (ls : List Int) (hn : ls.length = n) (w : World) (hL : Spaces w) (hB0 : Below w0.heap.size w0 w) (hb0 : w0.heap.size ≤ base) (hb : base ≤ w.heap.size) (hown : Own w base 5 v d) (hd : d.length ≤ 1048576) (r : Rw) (hby : byCode op = some r) (hsh : r.shape = 3) (ha : 0 ≤ a ∧ a < 4294967296) (hls : ∀ n ∈ ls, word n = true) (hll : ls.length ≤ 4096) (hat : IntsAt w0 lp ls) :
    Calls Tryz.prog 95 #[v, .agg #[.int .i64 op, .int .i64 a, .int .i64 b, .slice lp n lc]] w (Adds5 w base (numC (listC numC (d ++ one5 op) ls) a)) := by
  obtain ⟨i0, hi, hz0, hz1, hz2⟩ := info_parts Tryz.info5
  have hbd := byCode_bd hby
  have hop : 0 ≤ op ∧ op ≤ 255 := by
    have hc : r.code = op := by simpa using List.find?_some hby
    omega
  have G := Go1.start hown hb #[.int .i64 op, .int .i64 a, .int .i64 b, .slice lp n lc] 41 (by decide)
  have c := op_of op (by omega) (by omega) (w.alloc (.cells #[.int .i64 op, .int .i64 a, .int .i64 b, .slice lp n lc] 41)) (hL.alloc _)
  rw [hby] at c
  obtain ⟨rc, rn, rs, rp, rr⟩ := r
  simp only at hsh
  subst hsh
  simp only [infoVal, Option.isSome] at c
  have hu : IntKind.u8.wrap op = op := by rw [IntKind.wrap_u8]; omega
  have ho : one5 op = [UInt8.ofNat op.toNat] := by unfold one5; rw [show op % 256 = op by omega]
  rw [ho]
  have l1 : (d ++ [UInt8.ofNat op.toNat]).length ≤ 1048577 := by simp; omega
  clear hby hbd ho

  have H : Puttable 1 intRow (fun _ n => word n = true) numC 10 w0 lp n ls := ⟨hn, by omega, ints_rows hat, fun x hx _ _ => hls x hx, fun x hx => number_adds (hls x hx), by omega⟩
  have cl := fun (W : World) (hW : Near base w W) (v2 : Value) (h2 : Own W base 5 v2 (d ++ [UInt8.ofNat op.toNat])) => list_Int (number_puts w0) enters_number lp n lc ls H base hb0 W (hB0.trans ((hW.below hb).mono hb0)) (Nat.le_trans hb hW.size) v2 _ h2 (by omega)
  have hll2 : (listC numC (d ++ [UInt8.ofNat op.toNat]) ls).length ≤ 3000000 := by
    have h5 := num_len (b := d ++ [UInt8.ofNat op.toNat]) (n := (ls.length : Int)) (by omega) (by omega)
    have h6 := each_len (F := numC) (K := 10) (l := ls) (b := numC (d ++ [UInt8.ofNat op.toNat]) ls.length) (fun x hx => number_adds (hls x hx))
    unfold listC
    omega
  clear H hls hat
  clear hn hB0 hL
  go_enter Tryz.func95, Tryz.ntmps95
  go_wp2_with (first
    | (go_at_call 173; (with_reducible refine c.mono ?_); rintro e w1 ⟨rfl, hb1⟩; have G1 := G.info hb1 #[.string rn, .int .i64 3, .string rp, .string rr]; obtain ⟨hq, y0, y1, y2, y3⟩ := box_4 ((hb1.block _ (heap_lt9 G.box)).trans G.box); have hq2 := heap_lt9 hq; replace y0 := fun o => (World.cell?_alloc_lt w1 o (⟨w.heap.size, 0, none⟩ : Addr) hq2).trans y0; clear hq c y1 y2 y3)
    | (at_builtin; refine wpl_bytes rfl (.tmp 13) (.tmp 17) 46 rfl base 5 i0 Tryz.underlying46 hi hz0 hz1 hz2 _ _ rfl (G1.alloc _).one.own _ _ _ [UInt8.ofNat op.toNat] rfl rfl (lit_one _ _ _ (by simp) (byte_of (by omega) (by omega))) (by omega) (G1.alloc _).one.le ?_; intro v2 w2 h2 g2; have G2 := (G1.alloc _).step h2 g2; obtain ⟨_, q0, q1, q2, q3⟩ := box_4 G2.one.box; obtain ⟨_, s0, s1, s2, s3⟩ := box_4 G2.info))
  have hx0 := box_4 G2.one.drew.box
  go_region_held3 (fun W => W.heap[w.heap.size]? = some (.cells #[.int .i64 op, .int .i64 a, .int .i64 b, .slice lp n lc] 41) ∧ W.cell? ⟨w.heap.size, 0, none⟩ = some (.int .i64 op) ∧ W.cell? ⟨w.heap.size, 1, none⟩ = some (.int .i64 a) ∧ W.cell? ⟨w.heap.size, 2, none⟩ = some (.int .i64 b) ∧ W.cell? ⟨w.heap.size, 3, none⟩ = some (.slice lp n lc))
    (first | (with_reducible exact box_4 G4.box) | (with_reducible exact box_4 G3.box) | (with_reducible exact hx0))
    (first
      | (go_at_call 178; (with_reducible refine (cl _ G2.one.drew.near _ G2.one.drew.own).mono ?_); rintro e w3 ⟨v3, rfl, h3, n3⟩; have G3 := G2.one.drew.call h3 n3)
      | (go_at_call 177; (with_reducible refine (number64_of base v3 _ a _ G3.own G3.le (by omega) (by omega) (by omega)).mono ?_); rintro e w4 ⟨v4, rfl, h4, n4⟩; have G4 := G3.call h4 n4))
  all_goals
    go_wp2
    go_ret
    exact ⟨_, rfl, G4.own, G4.near⟩

set_option maxRecDepth 100000 in
set_option maxHeartbeats 8000000 in
theorem ins_shape_4 (w0 : World) (base : Nat) (v : Value) (d : List UInt8) (op a b : Int) (lp : Option Addr) (n lc : Nat) (ls : List Int) (hn : ls.length = n) (w : World) (hL : Spaces w) (hB0 : Below w0.heap.size w0 w) (hb0 : w0.heap.size ≤ base) (hb : base ≤ w.heap.size) (hown : Own w base 5 v d) (hd : d.length ≤ 1048576) (r : Rw) (hby : byCode op = some r) (hsh : r.shape = 4) (ha : 0 ≤ a ∧ a < 4294967296) :
    Calls Tryz.prog 95 #[v, .agg #[.int .i64 op, .int .i64 a, .int .i64 b, .slice lp n lc]] w (Adds5 w base (numC (d ++ one5 op) a)) := by
  obtain ⟨i0, hi, hz0, hz1, hz2⟩ := info_parts Tryz.info5
  have hbd := byCode_bd hby
  have hop : 0 ≤ op ∧ op ≤ 255 := by
    have hc : r.code = op := by simpa using List.find?_some hby
    omega
  have G := Go1.start hown hb #[.int .i64 op, .int .i64 a, .int .i64 b, .slice lp n lc] 41 (by decide)
  have c := op_of op (by omega) (by omega) (w.alloc (.cells #[.int .i64 op, .int .i64 a, .int .i64 b, .slice lp n lc] 41)) (hL.alloc _)
  rw [hby] at c
  obtain ⟨rc, rn, rs, rp, rr⟩ := r
  simp only at hsh
  subst hsh
  simp only [infoVal, Option.isSome] at c
  have hu : IntKind.u8.wrap op = op := by rw [IntKind.wrap_u8]; omega
  have ho : one5 op = [UInt8.ofNat op.toNat] := by unfold one5; rw [show op % 256 = op by omega]
  rw [ho]
  have l1 : (d ++ [UInt8.ofNat op.toNat]).length ≤ 1048577 := by simp; omega
  clear hby hbd ho

  clear hn hB0 hL
  go_enter Tryz.func95, Tryz.ntmps95
  go_wp2_with (first
    | (go_at_call 173; (with_reducible refine c.mono ?_); rintro e w1 ⟨rfl, hb1⟩; have G1 := G.info hb1 #[.string rn, .int .i64 4, .string rp, .string rr]; obtain ⟨hq, y0, y1, y2, y3⟩ := box_4 ((hb1.block _ (heap_lt9 G.box)).trans G.box); have hq2 := heap_lt9 hq; replace y0 := fun o => (World.cell?_alloc_lt w1 o (⟨w.heap.size, 0, none⟩ : Addr) hq2).trans y0; clear hq c y1 y2 y3)
    | (at_builtin; refine wpl_bytes rfl (.tmp 13) (.tmp 17) 46 rfl base 5 i0 Tryz.underlying46 hi hz0 hz1 hz2 _ _ rfl (G1.alloc _).one.own _ _ _ [UInt8.ofNat op.toNat] rfl rfl (lit_one _ _ _ (by simp) (byte_of (by omega) (by omega))) (by omega) (G1.alloc _).one.le ?_; intro v2 w2 h2 g2; have G2 := (G1.alloc _).step h2 g2; obtain ⟨_, q0, q1, q2, q3⟩ := box_4 G2.one.box; obtain ⟨_, s0, s1, s2, s3⟩ := box_4 G2.info)
    | (go_at_call 177; (with_reducible refine (number64_of base v2 _ a _ G2.one.own G2.one.le (by omega) (by omega) (by omega)).mono ?_); rintro e w3 ⟨v3, rfl, h3, n3⟩; have G3 := G2.one.call h3 n3))
  go_ret
  exact ⟨_, rfl, G3.own, G3.near⟩

set_option maxRecDepth 100000 in
set_option maxHeartbeats 8000000 in
theorem ins_shape_5 (w0 : World) (base : Nat) (v : Value) (d : List UInt8) (op a b : Int) (lp : Option Addr) (n lc : Nat) (ls : List Int) (hn : ls.length = n) (w : World) (hL : Spaces w) (hB0 : Below w0.heap.size w0 w) (hb0 : w0.heap.size ≤ base) (hb : base ≤ w.heap.size) (hown : Own w base 5 v d) (hd : d.length ≤ 1048576) (r : Rw) (hby : byCode op = some r) (hsh : r.shape = 5) (ha : 0 ≤ a ∧ a < 4294967296) (hb2 : 0 ≤ b ∧ b < 4294967296) :
    Calls Tryz.prog 95 #[v, .agg #[.int .i64 op, .int .i64 a, .int .i64 b, .slice lp n lc]] w (Adds5 w base (numC (numC (d ++ one5 op) a) b)) := by
  obtain ⟨i0, hi, hz0, hz1, hz2⟩ := info_parts Tryz.info5
  have hbd := byCode_bd hby
  have hop : 0 ≤ op ∧ op ≤ 255 := by
    have hc : r.code = op := by simpa using List.find?_some hby
    omega
  have G := Go1.start hown hb #[.int .i64 op, .int .i64 a, .int .i64 b, .slice lp n lc] 41 (by decide)
  have c := op_of op (by omega) (by omega) (w.alloc (.cells #[.int .i64 op, .int .i64 a, .int .i64 b, .slice lp n lc] 41)) (hL.alloc _)
  rw [hby] at c
  obtain ⟨rc, rn, rs, rp, rr⟩ := r
  simp only at hsh
  subst hsh
  simp only [infoVal, Option.isSome] at c
  have hu : IntKind.u8.wrap op = op := by rw [IntKind.wrap_u8]; omega
  have ho : one5 op = [UInt8.ofNat op.toNat] := by unfold one5; rw [show op % 256 = op by omega]
  rw [ho]
  have l1 : (d ++ [UInt8.ofNat op.toNat]).length ≤ 1048577 := by simp; omega
  clear hby hbd ho

  clear hn hB0 hL
  go_enter Tryz.func95, Tryz.ntmps95
  go_wp2_with (first
    | (go_at_call 173; (with_reducible refine c.mono ?_); rintro e w1 ⟨rfl, hb1⟩; have G1 := G.info hb1 #[.string rn, .int .i64 5, .string rp, .string rr]; obtain ⟨hq, y0, y1, y2, y3⟩ := box_4 ((hb1.block _ (heap_lt9 G.box)).trans G.box); have hq2 := heap_lt9 hq; replace y0 := fun o => (World.cell?_alloc_lt w1 o (⟨w.heap.size, 0, none⟩ : Addr) hq2).trans y0; clear hq c y1 y2 y3)
    | (at_builtin; refine wpl_bytes rfl (.tmp 13) (.tmp 17) 46 rfl base 5 i0 Tryz.underlying46 hi hz0 hz1 hz2 _ _ rfl (G1.alloc _).one.own _ _ _ [UInt8.ofNat op.toNat] rfl rfl (lit_one _ _ _ (by simp) (byte_of (by omega) (by omega))) (by omega) (G1.alloc _).one.le ?_; intro v2 w2 h2 g2; have G2 := (G1.alloc _).step h2 g2; obtain ⟨_, q0, q1, q2, q3⟩ := box_4 G2.one.box; obtain ⟨_, s0, s1, s2, s3⟩ := box_4 G2.info))
  have hx0 := box_4 G2.one.drew.box
  have l2 := num_len (b := d ++ [UInt8.ofNat op.toNat]) (n := a) (by omega) (by omega)
  go_region_held3 (fun W => W.heap[w.heap.size]? = some (.cells #[.int .i64 op, .int .i64 a, .int .i64 b, .slice lp n lc] 41) ∧ W.cell? ⟨w.heap.size, 0, none⟩ = some (.int .i64 op) ∧ W.cell? ⟨w.heap.size, 1, none⟩ = some (.int .i64 a) ∧ W.cell? ⟨w.heap.size, 2, none⟩ = some (.int .i64 b) ∧ W.cell? ⟨w.heap.size, 3, none⟩ = some (.slice lp n lc))
    (first | (with_reducible exact box_4 G4.box) | (with_reducible exact box_4 G3.box) | (with_reducible exact hx0))
    (first
      | (go_at_call 177; (with_reducible refine (number64_of base v3 _ b _ G3.own G3.le (by omega) (by omega) (by omega)).mono ?_); rintro e w4 ⟨v4, rfl, h4, n4⟩; have G4 := G3.call h4 n4)
      | (go_at_call 177; (with_reducible refine (number64_of base v2 _ a _ G2.one.drew.own G2.one.drew.le (by omega) (by omega) (by omega)).mono ?_); rintro e w3 ⟨v3, rfl, h3, n3⟩; have G3 := G2.one.drew.call h3 n3))
  all_goals
    go_wp2
    go_ret
    exact ⟨_, rfl, G4.own, G4.near⟩

set_option maxRecDepth 100000 in
set_option maxHeartbeats 8000000 in
theorem ins_shape_6 (w0 : World) (base : Nat) (v : Value) (d : List UInt8) (op a b : Int) (lp : Option Addr) (n lc : Nat) (ls : List Int) (hn : ls.length = n) (w : World) (hL : Spaces w) (hB0 : Below w0.heap.size w0 w) (hb0 : w0.heap.size ≤ base) (hb : base ≤ w.heap.size) (hown : Own w base 5 v d) (hd : d.length ≤ 1048576) (r : Rw) (hby : byCode op = some r) (hsh : r.shape = 6) :
    Calls Tryz.prog 95 #[v, .agg #[.int .i64 op, .int .i64 a, .int .i64 b, .slice lp n lc]] w (Adds5 w base (d ++ one5 op ++ [0])) := by
  obtain ⟨i0, hi, hz0, hz1, hz2⟩ := info_parts Tryz.info5
  have hbd := byCode_bd hby
  have hop : 0 ≤ op ∧ op ≤ 255 := by
    have hc : r.code = op := by simpa using List.find?_some hby
    omega
  have G := Go1.start hown hb #[.int .i64 op, .int .i64 a, .int .i64 b, .slice lp n lc] 41 (by decide)
  have c := op_of op (by omega) (by omega) (w.alloc (.cells #[.int .i64 op, .int .i64 a, .int .i64 b, .slice lp n lc] 41)) (hL.alloc _)
  rw [hby] at c
  obtain ⟨rc, rn, rs, rp, rr⟩ := r
  simp only at hsh
  subst hsh
  simp only [infoVal, Option.isSome] at c
  have hu : IntKind.u8.wrap op = op := by rw [IntKind.wrap_u8]; omega
  have ho : one5 op = [UInt8.ofNat op.toNat] := by unfold one5; rw [show op % 256 = op by omega]
  rw [ho]
  have l1 : (d ++ [UInt8.ofNat op.toNat]).length ≤ 1048577 := by simp; omega
  clear hby hbd ho

  clear hn hB0 hL
  go_enter Tryz.func95, Tryz.ntmps95
  go_wp2_with (first
    | (go_at_call 173; (with_reducible refine c.mono ?_); rintro e w1 ⟨rfl, hb1⟩; have G1 := G.info hb1 #[.string rn, .int .i64 6, .string rp, .string rr]; obtain ⟨hq, y0, y1, y2, y3⟩ := box_4 ((hb1.block _ (heap_lt9 G.box)).trans G.box); have hq2 := heap_lt9 hq; replace y0 := fun o => (World.cell?_alloc_lt w1 o (⟨w.heap.size, 0, none⟩ : Addr) hq2).trans y0; clear hq c y1 y2 y3)
    | (at_builtin; refine wpl_bytes rfl (.tmp 13) (.tmp 17) 46 rfl base 5 i0 Tryz.underlying46 hi hz0 hz1 hz2 _ _ rfl (G1.alloc _).one.own _ _ _ [UInt8.ofNat op.toNat] rfl rfl (lit_one _ _ _ (by simp) (byte_of (by omega) (by omega))) (by omega) (G1.alloc _).one.le ?_; intro v2 w2 h2 g2; have G2 := (G1.alloc _).step h2 g2; obtain ⟨_, q0, q1, q2, q3⟩ := box_4 G2.one.box; obtain ⟨_, s0, s1, s2, s3⟩ := box_4 G2.info)
    | (at_builtin; refine wpl_bytes rfl (.tmp 56) (.tmp 57) 46 rfl base 5 i0 Tryz.underlying46 hi hz0 hz1 hz2 _ _ rfl (G2.alloc _).one.own _ _ _ [0] rfl rfl (lit_one _ _ _ (by simp) rfl) (by omega) (G2.alloc _).one.le ?_; intro v3 w3 h3 g3; have G3 := (G2.alloc _).one.step h3 g3))
  go_ret
  exact ⟨_, rfl, G3.own, G3.near⟩

set_option maxRecDepth 100000 in
set_option maxHeartbeats 8000000 in
theorem ins_shape_7 (w0 : World) (base : Nat) (v : Value) (d : List UInt8) (op a b : Int) (lp : Option Addr) (n lc : Nat) (ls : List Int) (hn : ls.length = n) (w : World) (hL : Spaces w) (hB0 : Below w0.heap.size w0 w) (hb0 : w0.heap.size ≤ base) (hb : base ≤ w.heap.size) (hown : Own w base 5 v d) (hd : d.length ≤ 1048576) (r : Rw) (hby : byCode op = some r) (hsh : r.shape = 7) (ha : -9223372036854775808 ≤ a ∧ a ≤ 9223372036854775807) :
    Calls Tryz.prog 95 #[v, .agg #[.int .i64 op, .int .i64 a, .int .i64 b, .slice lp n lc]] w (Adds5 w base (d ++ one5 op ++ putS a)) := by
  obtain ⟨i0, hi, hz0, hz1, hz2⟩ := info_parts Tryz.info5
  have hbd := byCode_bd hby
  have hop : 0 ≤ op ∧ op ≤ 255 := by
    have hc : r.code = op := by simpa using List.find?_some hby
    omega
  have G := Go1.start hown hb #[.int .i64 op, .int .i64 a, .int .i64 b, .slice lp n lc] 41 (by decide)
  have c := op_of op (by omega) (by omega) (w.alloc (.cells #[.int .i64 op, .int .i64 a, .int .i64 b, .slice lp n lc] 41)) (hL.alloc _)
  rw [hby] at c
  obtain ⟨rc, rn, rs, rp, rr⟩ := r
  simp only at hsh
  subst hsh
  simp only [infoVal, Option.isSome] at c
  have hu : IntKind.u8.wrap op = op := by rw [IntKind.wrap_u8]; omega
  have ho : one5 op = [UInt8.ofNat op.toNat] := by unfold one5; rw [show op % 256 = op by omega]
  rw [ho]
  have l1 : (d ++ [UInt8.ofNat op.toNat]).length ≤ 1048577 := by simp; omega
  clear hby hbd ho

  have cs := fun W => put_s a ha.1 ha.2 W
  have hl7 := putS_len10 ha.1 ha.2
  clear hn hB0 hL
  go_enter Tryz.func95, Tryz.ntmps95
  go_wp2_with (first
    | (go_at_call 173; (with_reducible refine c.mono ?_); rintro e w1 ⟨rfl, hb1⟩; have G1 := G.info hb1 #[.string rn, .int .i64 7, .string rp, .string rr]; obtain ⟨hq, y0, y1, y2, y3⟩ := box_4 ((hb1.block _ (heap_lt9 G.box)).trans G.box); have hq2 := heap_lt9 hq; replace y0 := fun o => (World.cell?_alloc_lt w1 o (⟨w.heap.size, 0, none⟩ : Addr) hq2).trans y0; clear hq c y1 y2 y3)
    | (at_builtin; refine wpl_bytes rfl (.tmp 13) (.tmp 17) 46 rfl base 5 i0 Tryz.underlying46 hi hz0 hz1 hz2 _ _ rfl (G1.alloc _).one.own _ _ _ [UInt8.ofNat op.toNat] rfl rfl (lit_one _ _ _ (by simp) (byte_of (by omega) (by omega))) (by omega) (G1.alloc _).one.le ?_; intro v2 w2 h2 g2; have G2 := (G1.alloc _).step h2 g2; obtain ⟨_, q0, q1, q2, q3⟩ := box_4 G2.one.box; obtain ⟨_, s0, s1, s2, s3⟩ := box_4 G2.info)
    | (go_at_call 179; (with_reducible refine (cs _).mono ?_); rintro e w3 ⟨rfl, hb3⟩; have G3 := G2.one.call (G2.one.own.below hb3) (Near.of_below hb3))
    | (at_builtin; refine wpl_string rfl (.tmp 61) (.tmp 64) 46 9 rfl base 5 i0 Tryz.underlying46 Tryz.underlying9 hi hz0 hz1 hz2 _ _ rfl G3.own (putS a) rfl (by omega) G3.le ?_; intro v4 w4 h4 g4 _; have G4 := G3.step h4 g4))
  go_ret
  exact ⟨_, rfl, G4.own, G4.near⟩

/-- An instruction that is right, and lies in memory. -/
def okIns (w0 : World) (W : World) (x : InsV) : Prop := rightIns x = true ∧ InsAt w0 x ∧ Spaces W
theorem instr_puts (w0 : World) : Puts 95 InsV.val (okIns w0) insC w0 := by
  rintro ⟨op, a, b, lp, lc, ls⟩ W base v d hB0 hb0 hb hown hd ⟨hr, ⟨hat, hll, hop, ha, hb', hls⟩, hL⟩
  have h0 : rightOf (byCode op) op a b ls = true := hr
  cases hby : byCode op with
  | none => rw [hby] at h0; cases h0
  | some r =>
    have hq : insC d ⟨op, a, b, lp, lc, ls⟩ = tailC r.shape (d ++ one5 op) ⟨op, a, b, lp, lc, ls⟩ := by unfold insC; simp only [hby]
    rw [hq]
    have hbd := byCode_bd hby
    rw [hby] at h0
    unfold rightOf at h0
    simp only at h0 ha hat hll
    split at h0
    · cases h0
    · split at h0
      · cases h0
      · have h8 : r.shape = 0 ∨ r.shape = 1 ∨ r.shape = 2 ∨ r.shape = 3 ∨ r.shape = 4 ∨ r.shape = 5 ∨ r.shape = 6 ∨ r.shape = 7 := by omega
        rcases h8 with h | h | h | h | h | h | h | h
        all_goals rw [h] at h0 ⊢
        all_goals simp [word] at h0
        · exact ins_shape_0 w0 base v d op a b lp ls.length lc ls rfl W hL hB0 hb0 hb hown hd r hby h
        · exact ins_shape_1 w0 base v d op a b lp ls.length lc ls rfl W hL hB0 hb0 hb hown hd r hby h h0
        · exact ins_shape_2 w0 base v d op a b lp ls.length lc ls rfl W hL hB0 hb0 hb hown hd r hby h h0
        · exact ins_shape_3 w0 base v d op a b lp ls.length lc ls rfl W hL hB0 hb0 hb hown hd r hby h h0.2 (fun n hn => by unfold word; exact decide_eq_true (h0.1.1 n hn)) h0.1.2 hat
        · exact ins_shape_4 w0 base v d op a b lp ls.length lc ls rfl W hL hB0 hb0 hb hown hd r hby h h0
        · exact ins_shape_5 w0 base v d op a b lp ls.length lc ls rfl W hL hB0 hb0 hb hown hd r hby h h0.1 h0.2
        · exact ins_shape_6 w0 base v d op a b lp ls.length lc ls rfl W hL hB0 hb0 hb hown hd r hby h
        · exact ins_shape_7 w0 base v d op a b lp ls.length lc ls rfl W hL hB0 hb0 hb hown hd r hby h ha
theorem instr_adds {x : InsV} (hr : rightIns x = true) (ha : inI64 x.a) : Adds insC 100 x := by
  intro out hout
  obtain ⟨op, a, b, lp, lc, ls⟩ := x
  have h0 : rightOf (byCode op) op a b ls = true := hr
  have ha2 : -9223372036854775808 ≤ a ∧ a ≤ 9223372036854775807 := ha
  cases hby : byCode op with
  | none => rw [hby] at h0; cases h0
  | some r =>
    have hq : insC out ⟨op, a, b, lp, lc, ls⟩ = tailC r.shape (out ++ one5 op) ⟨op, a, b, lp, lc, ls⟩ := by unfold insC; simp only [hby]
    rw [hq]
    have hbd := byCode_bd hby
    rw [hby] at h0
    unfold rightOf at h0
    simp only at h0
    have l1 : (out ++ one5 op).length = out.length + 1 := by rw [List.length_append]; rfl
    split at h0
    · cases h0
    · split at h0
      · cases h0
      · have h8 : r.shape = 0 ∨ r.shape = 1 ∨ r.shape = 2 ∨ r.shape = 3 ∨ r.shape = 4 ∨ r.shape = 5 ∨ r.shape = 6 ∨ r.shape = 7 := by omega
        rcases h8 with h | h | h | h | h | h | h | h
        all_goals rw [h] at h0 ⊢
        all_goals simp [word] at h0
        · show (out ++ one5 op).length ≤ _; omega
        · show (out ++ one5 op ++ one5 a).length ≤ _; rw [List.length_append, l1]; show _ + 1 ≤ _; omega
        · show (numC (out ++ one5 op) a).length ≤ _
          have := num_len (b := out ++ one5 op) (n := a) (by omega) (by omega); omega
        · show (numC (listC numC (out ++ one5 op) ls) a).length ≤ _
          have h5 := num_len (b := out ++ one5 op) (n := (ls.length : Int)) (by omega) (by omega)
          have h6 := each_len (F := numC) (K := 10) (l := ls) (b := numC (out ++ one5 op) ls.length) (fun x hx => number_adds (by unfold word; exact decide_eq_true (h0.1.1 x hx)))
          have h7 := num_len (b := listC numC (out ++ one5 op) ls) (n := a) (by omega) (by omega)
          unfold listC at h7 ⊢
          omega
        · show (numC (out ++ one5 op) a).length ≤ _
          have := num_len (b := out ++ one5 op) (n := a) (by omega) (by omega); omega
        · show (numC (numC (out ++ one5 op) a) b).length ≤ _
          have h5 := num_len (b := out ++ one5 op) (n := a) (by omega) (by omega)
          have h6 := num_len (b := numC (out ++ one5 op) a) (n := b) (by omega) (by omega); omega
        · show (out ++ one5 op ++ [0]).length ≤ _; rw [List.length_append, l1]; show _ + 1 ≤ _; omega
        · show (out ++ one5 op ++ putS a).length ≤ _; rw [List.length_append, l1]
          have := putS_len10 ha2.1 ha2.2; omega
end Go.Proofs.YtpamchagidnijaaGreatDoor
