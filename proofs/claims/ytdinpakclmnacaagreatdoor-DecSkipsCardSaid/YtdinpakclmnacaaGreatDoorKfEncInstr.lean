/-
  Facts and contracts that the proof calls.
-/
import Derived.Test.YtdinpakclmnacaaGreatDoorKfDecInf
namespace Go.Proofs.YtdinpakclmnacaaGreatDoor
set_option maxRecDepth 100000
set_option maxHeartbeats 16000000
open Go.RowKit
set_option linter.unusedVariables false
theorem ints_rows5 {w : World} {p : Option Addr} {ls : List Int} (h : IntsAt w p ls) : RowsAt w p 1 intRow ls := fun j hj i v hv => by
  obtain ⟨b, o, hp, hb, hc⟩ := h j hj
  match i, hv with
  | 0, hv => simp [intRow] at hv; subst hv; exact ⟨b, o, hp, hb, by simpa using hc⟩
  | i + 1, hv => simp [intRow] at hv
theorem enters_number : ∀ args w, (callFunc 137 args).run Tryz.prog w = .ok (.enter 137 args) w := enters_of Tryz.func137 (by kernel_rfl) rfl
theorem number_puts (w0 : World) : Puts 137 intVal (fun _ n => word n = true) numC w0 := fun n W base v d _ _ hb hown hd hn => by
  unfold word at hn
  simp only [decide_eq_true_eq] at hn
  exact number_of base v d n W hown hb (by omega) (by omega) (by omega)
theorem number_adds {n : Int} (hn : word n = true) : Adds numC 10 n := fun out hout => by
  unfold word at hn
  simp only [decide_eq_true_eq] at hn
  have := num_len (b := out) (n := n) (by omega) (by omega)
  omega
structure Go2 (base : Nat) (w : World) (b : Nat) (cs : Array Value) (t : TypeId) (b2 : Nat) (cs2 : Array Value) (W : World) (v : Value) (d : List UInt8) : Prop where
  one : Go1 base w b cs t W v d
  info : W.heap[b2]? = some (.cells cs2 177)
theorem info_ne : 177 ≠ 5 := by decide
theorem Go2.alloc {base b b2 : Nat} {w W : World} {cs cs2 : Array Value} {t : TypeId} {v : Value} {d : List UInt8} (h : Go2 base w b cs t b2 cs2 W v d) (o : Obj) : Go2 base w b cs t b2 cs2 (W.alloc o) v d :=
  ⟨h.one.alloc o, (Below.heap_alloc W o b2 (heap_lt9 h.info)).trans h.info⟩
theorem Go2.step {base b b2 : Nat} {w W W' : World} {cs cs2 : Array Value} {t : TypeId} {v v' : Value} {d d' : List UInt8} (h : Go2 base w b cs t b2 cs2 W v d) (ho : Own W' base 5 v' d') (hg : W.grownBy W' v.ownBlock) : Go2 base w b cs t b2 cs2 W' v' d' :=
  ⟨h.one.step ho hg, (Near.of_grown h.one.own hg).box h.info info_ne⟩
theorem Go1.info {base b : Nat} {w W W' : World} {cs : Array Value} {t : TypeId} {v : Value} {d : List UInt8} (h : Go1 base w b cs t W v d) (hb : Below W.heap.size W W') (cs2 : Array Value) : Go2 base w b cs t W'.heap.size cs2 (W'.alloc (.cells cs2 177)) v d :=
  ⟨(h.call (h.own.below hb) (Near.of_below hb)).alloc _, heap_alloc_new _ _⟩
theorem ins_shape_0 (w0 : World) (base : Nat) (v : Value) (d : List UInt8) (op a b : Int) (lp : Option Addr) (n lc : Nat) (ls : List Int) (hn : ls.length = n) (w : World) (hL : Spaces w) (hB0 : Below w0.heap.size w0 w) (hb0 : w0.heap.size ≤ base) (hb : base ≤ w.heap.size) (hown : Own w base 5 v d) (hd : d.length ≤ 1048576) (r : Rw) (hby : byCode op = some r) (hsh : r.shape = 0) :
    Calls Tryz.prog 88 #[v, .agg #[.int .i64 op, .int .i64 a, .int .i64 b, .slice lp n lc]] w (Adds5 w base (d ++ one5 op)) := by
  obtain ⟨i0, hi, hz0, hz1, hz2⟩ := info_parts Tryz.info5
  have hbd := byCode_bd hby
  have hop : 0 ≤ op ∧ op ≤ 255 := by
    have hc : r.code = op := by simpa using List.find?_some hby
    omega
  have G := Go1.start hown hb #[.int .i64 op, .int .i64 a, .int .i64 b, .slice lp n lc] 46 (by decide)
  have c := op_of op (by omega) (by omega) (w.alloc (.cells #[.int .i64 op, .int .i64 a, .int .i64 b, .slice lp n lc] 46)) (hL.alloc _)
  rw [hby] at c
  obtain ⟨rc, rn, rs, rp, rr⟩ := r
  simp only at hsh
  subst hsh
  simp only [infoVal, Option.isSome] at c
  have hu : IntKind.u8.wrap op = op := by rw [IntKind.wrap_u8]; omega
  have ho : one5 op = [UInt8.ofNat op.toNat] := by unfold one5; rw [show op % 256 = op by omega]
  rw [ho]
  have l1 : (d ++ [UInt8.ofNat op.toNat]).length ≤ 1048577 := by simp; omega
  clear hby hbd ho
  clear hn hB0 hL
  go_enter Tryz.func88, Tryz.ntmps88
  go_wp2_with (first
    | (go_at_call 160; (with_reducible refine c.mono ?_); rintro e w1 ⟨rfl, hb1⟩; have G1 := G.info hb1 #[.string rn, .int .i64 0, .string rp, .string rr]; obtain ⟨hq, y0, y1, y2, y3⟩ := box_4 ((hb1.block _ (heap_lt9 G.box)).trans G.box); have hq2 := heap_lt9 hq; replace y0 := fun o => (World.cell?_alloc_lt w1 o (⟨w.heap.size, 0, none⟩ : Addr) hq2).trans y0; clear hq c y1 y2 y3)
    | (at_builtin; refine wpl_bytes rfl (.tmp 13) (.tmp 17) 24 rfl base 5 i0 Tryz.underlying24 hi hz0 hz1 hz2 _ _ rfl (G1.alloc _).one.own _ _ _ [UInt8.ofNat op.toNat] rfl rfl (lit_one _ _ _ (by simp) (byte_of (by omega) (by omega))) (by omega) (G1.alloc _).one.le ?_; intro v2 w2 h2 g2; have G2 := (G1.alloc _).step h2 g2; obtain ⟨_, q0, q1, q2, q3⟩ := box_4 G2.one.box; obtain ⟨_, s0, s1, s2, s3⟩ := box_4 G2.info))
  go_ret
  exact ⟨_, rfl, G2.one.own, G2.one.near⟩
theorem ins_shape_1 (w0 : World) (base : Nat) (v : Value) (d : List UInt8) (op a b : Int) (lp : Option Addr) (n lc : Nat) (ls : List Int) (hn : ls.length = n) (w : World) (hL : Spaces w) (hB0 : Below w0.heap.size w0 w) (hb0 : w0.heap.size ≤ base) (hb : base ≤ w.heap.size) (hown : Own w base 5 v d) (hd : d.length ≤ 1048576) (r : Rw) (hby : byCode op = some r) (hsh : r.shape = 1) (ha : a = 64 ∨ a = 126 ∨ a = 127) :
    Calls Tryz.prog 88 #[v, .agg #[.int .i64 op, .int .i64 a, .int .i64 b, .slice lp n lc]] w (Adds5 w base (d ++ one5 op ++ one5 a)) := by
  obtain ⟨i0, hi, hz0, hz1, hz2⟩ := info_parts Tryz.info5
  have hbd := byCode_bd hby
  have hop : 0 ≤ op ∧ op ≤ 255 := by
    have hc : r.code = op := by simpa using List.find?_some hby
    omega
  have G := Go1.start hown hb #[.int .i64 op, .int .i64 a, .int .i64 b, .slice lp n lc] 46 (by decide)
  have c := op_of op (by omega) (by omega) (w.alloc (.cells #[.int .i64 op, .int .i64 a, .int .i64 b, .slice lp n lc] 46)) (hL.alloc _)
  rw [hby] at c
  obtain ⟨rc, rn, rs, rp, rr⟩ := r
  simp only at hsh
  subst hsh
  simp only [infoVal, Option.isSome] at c
  have hu : IntKind.u8.wrap op = op := by rw [IntKind.wrap_u8]; omega
  have ho : one5 op = [UInt8.ofNat op.toNat] := by unfold one5; rw [show op % 256 = op by omega]
  rw [ho]
  have l1 : (d ++ [UInt8.ofNat op.toNat]).length ≤ 1048577 := by simp; omega
  clear hby hbd ho
  have ha2 : 0 ≤ a ∧ a ≤ 255 := by omega
  have hv : IntKind.u8.wrap a = a := by rw [IntKind.wrap_u8]; omega
  have ho : one5 a = [UInt8.ofNat a.toNat] := by unfold one5; rw [show a % 256 = a by omega]
  rw [ho]
  clear ha ho
  clear hn hB0 hL
  go_enter Tryz.func88, Tryz.ntmps88
  go_wp2_with (first
    | (go_at_call 160; (with_reducible refine c.mono ?_); rintro e w1 ⟨rfl, hb1⟩; have G1 := G.info hb1 #[.string rn, .int .i64 1, .string rp, .string rr]; obtain ⟨hq, y0, y1, y2, y3⟩ := box_4 ((hb1.block _ (heap_lt9 G.box)).trans G.box); have hq2 := heap_lt9 hq; replace y0 := fun o => (World.cell?_alloc_lt w1 o (⟨w.heap.size, 0, none⟩ : Addr) hq2).trans y0; clear hq c y1 y2 y3)
    | (at_builtin; refine wpl_bytes rfl (.tmp 13) (.tmp 17) 24 rfl base 5 i0 Tryz.underlying24 hi hz0 hz1 hz2 _ _ rfl (G1.alloc _).one.own _ _ _ [UInt8.ofNat op.toNat] rfl rfl (lit_one _ _ _ (by simp) (byte_of (by omega) (by omega))) (by omega) (G1.alloc _).one.le ?_; intro v2 w2 h2 g2; have G2 := (G1.alloc _).step h2 g2; obtain ⟨_, q0, q1, q2, q3⟩ := box_4 G2.one.box; obtain ⟨_, s0, s1, s2, s3⟩ := box_4 G2.info)
    | (at_builtin; refine wpl_bytes rfl (.tmp 23) (.tmp 27) 24 rfl base 5 i0 Tryz.underlying24 hi hz0 hz1 hz2 _ _ rfl (G2.alloc _).one.own _ _ _ [UInt8.ofNat a.toNat] rfl rfl (lit_one _ _ _ (by simp) (byte_of (by omega) (by omega))) (by omega) (G2.alloc _).one.le ?_; intro v3 w3 h3 g3; have G3 := (G2.alloc _).one.step h3 g3))
  go_ret
  exact ⟨_, rfl, G3.own, G3.near⟩
theorem ins_shape_2 (w0 : World) (base : Nat) (v : Value) (d : List UInt8) (op a b : Int) (lp : Option Addr) (n lc : Nat) (ls : List Int) (hn : ls.length = n) (w : World) (hL : Spaces w) (hB0 : Below w0.heap.size w0 w) (hb0 : w0.heap.size ≤ base) (hb : base ≤ w.heap.size) (hown : Own w base 5 v d) (hd : d.length ≤ 1048576) (r : Rw) (hby : byCode op = some r) (hsh : r.shape = 2) (ha : 0 ≤ a ∧ a < 4294967296) :
    Calls Tryz.prog 88 #[v, .agg #[.int .i64 op, .int .i64 a, .int .i64 b, .slice lp n lc]] w (Adds5 w base (numC (d ++ one5 op) a)) := by
  obtain ⟨i0, hi, hz0, hz1, hz2⟩ := info_parts Tryz.info5
  have hbd := byCode_bd hby
  have hop : 0 ≤ op ∧ op ≤ 255 := by
    have hc : r.code = op := by simpa using List.find?_some hby
    omega
  have G := Go1.start hown hb #[.int .i64 op, .int .i64 a, .int .i64 b, .slice lp n lc] 46 (by decide)
  have c := op_of op (by omega) (by omega) (w.alloc (.cells #[.int .i64 op, .int .i64 a, .int .i64 b, .slice lp n lc] 46)) (hL.alloc _)
  rw [hby] at c
  obtain ⟨rc, rn, rs, rp, rr⟩ := r
  simp only at hsh
  subst hsh
  simp only [infoVal, Option.isSome] at c
  have hu : IntKind.u8.wrap op = op := by rw [IntKind.wrap_u8]; omega
  have ho : one5 op = [UInt8.ofNat op.toNat] := by unfold one5; rw [show op % 256 = op by omega]
  rw [ho]
  have l1 : (d ++ [UInt8.ofNat op.toNat]).length ≤ 1048577 := by simp; omega
  clear hby hbd ho
  clear hn hB0 hL
  go_enter Tryz.func88, Tryz.ntmps88
  go_wp2_with (first
    | (go_at_call 160; (with_reducible refine c.mono ?_); rintro e w1 ⟨rfl, hb1⟩; have G1 := G.info hb1 #[.string rn, .int .i64 2, .string rp, .string rr]; obtain ⟨hq, y0, y1, y2, y3⟩ := box_4 ((hb1.block _ (heap_lt9 G.box)).trans G.box); have hq2 := heap_lt9 hq; replace y0 := fun o => (World.cell?_alloc_lt w1 o (⟨w.heap.size, 0, none⟩ : Addr) hq2).trans y0; clear hq c y1 y2 y3)
    | (at_builtin; refine wpl_bytes rfl (.tmp 13) (.tmp 17) 24 rfl base 5 i0 Tryz.underlying24 hi hz0 hz1 hz2 _ _ rfl (G1.alloc _).one.own _ _ _ [UInt8.ofNat op.toNat] rfl rfl (lit_one _ _ _ (by simp) (byte_of (by omega) (by omega))) (by omega) (G1.alloc _).one.le ?_; intro v2 w2 h2 g2; have G2 := (G1.alloc _).step h2 g2; obtain ⟨_, q0, q1, q2, q3⟩ := box_4 G2.one.box; obtain ⟨_, s0, s1, s2, s3⟩ := box_4 G2.info)
    | (go_at_call 164; (with_reducible refine (number64_of base v2 _ a _ G2.one.own G2.one.le (by omega) (by omega) (by omega)).mono ?_); rintro e w3 ⟨v3, rfl, h3, n3⟩; have G3 := G2.one.call h3 n3))
  go_ret
  exact ⟨_, rfl, G3.own, G3.near⟩
theorem ins_shape_3 (w0 : World) (base : Nat) (v : Value) (d : List UInt8) (op a b : Int) (lp : Option Addr) (n lc : Nat) (ls : List Int) (hn : ls.length = n) (w : World) (hL : Spaces w) (hB0 : Below w0.heap.size w0 w) (hb0 : w0.heap.size ≤ base) (hb : base ≤ w.heap.size) (hown : Own w base 5 v d) (hd : d.length ≤ 1048576) (r : Rw) (hby : byCode op = some r) (hsh : r.shape = 3) (ha : 0 ≤ a ∧ a < 4294967296) (hls : ∀ n ∈ ls, word n = true) (hll : ls.length ≤ 4096) (hat : IntsAt w0 lp ls) :
    Calls Tryz.prog 88 #[v, .agg #[.int .i64 op, .int .i64 a, .int .i64 b, .slice lp n lc]] w (Adds5 w base (numC (listC numC (d ++ one5 op) ls) a)) := by
  obtain ⟨i0, hi, hz0, hz1, hz2⟩ := info_parts Tryz.info5
  have hbd := byCode_bd hby
  have hop : 0 ≤ op ∧ op ≤ 255 := by
    have hc : r.code = op := by simpa using List.find?_some hby
    omega
  have G := Go1.start hown hb #[.int .i64 op, .int .i64 a, .int .i64 b, .slice lp n lc] 46 (by decide)
  have c := op_of op (by omega) (by omega) (w.alloc (.cells #[.int .i64 op, .int .i64 a, .int .i64 b, .slice lp n lc] 46)) (hL.alloc _)
  rw [hby] at c
  obtain ⟨rc, rn, rs, rp, rr⟩ := r
  simp only at hsh
  subst hsh
  simp only [infoVal, Option.isSome] at c
  have hu : IntKind.u8.wrap op = op := by rw [IntKind.wrap_u8]; omega
  have ho : one5 op = [UInt8.ofNat op.toNat] := by unfold one5; rw [show op % 256 = op by omega]
  rw [ho]
  have l1 : (d ++ [UInt8.ofNat op.toNat]).length ≤ 1048577 := by simp; omega
  clear hby hbd ho
  have H : Puttable 1 intRow (fun _ n => word n = true) numC 10 w0 lp n ls := ⟨hn, by omega, ints_rows5 hat, fun x hx _ _ => hls x hx, fun x hx => number_adds (hls x hx), by omega⟩
  have cl := fun (W : World) (hW : Near base w W) (v2 : Value) (h2 : Own W base 5 v2 (d ++ [UInt8.ofNat op.toNat])) => list_Int (number_puts w0) enters_number lp n lc ls H base hb0 W (hB0.trans ((hW.below hb).mono hb0)) (Nat.le_trans hb hW.size) v2 _ h2 (by omega)
  have hll2 : (listC numC (d ++ [UInt8.ofNat op.toNat]) ls).length ≤ 3000000 := by
    have h5 := num_len (b := d ++ [UInt8.ofNat op.toNat]) (n := (ls.length : Int)) (by omega) (by omega)
    have h6 := each_len (F := numC) (K := 10) (l := ls) (b := numC (d ++ [UInt8.ofNat op.toNat]) ls.length) (fun x hx => number_adds (hls x hx))
    unfold listC
    omega
  clear H hls hat
  clear hn hB0 hL
  go_enter Tryz.func88, Tryz.ntmps88
  go_wp2_with (first
    | (go_at_call 160; (with_reducible refine c.mono ?_); rintro e w1 ⟨rfl, hb1⟩; have G1 := G.info hb1 #[.string rn, .int .i64 3, .string rp, .string rr]; obtain ⟨hq, y0, y1, y2, y3⟩ := box_4 ((hb1.block _ (heap_lt9 G.box)).trans G.box); have hq2 := heap_lt9 hq; replace y0 := fun o => (World.cell?_alloc_lt w1 o (⟨w.heap.size, 0, none⟩ : Addr) hq2).trans y0; clear hq c y1 y2 y3)
    | (at_builtin; refine wpl_bytes rfl (.tmp 13) (.tmp 17) 24 rfl base 5 i0 Tryz.underlying24 hi hz0 hz1 hz2 _ _ rfl (G1.alloc _).one.own _ _ _ [UInt8.ofNat op.toNat] rfl rfl (lit_one _ _ _ (by simp) (byte_of (by omega) (by omega))) (by omega) (G1.alloc _).one.le ?_; intro v2 w2 h2 g2; have G2 := (G1.alloc _).step h2 g2; obtain ⟨_, q0, q1, q2, q3⟩ := box_4 G2.one.box; obtain ⟨_, s0, s1, s2, s3⟩ := box_4 G2.info))
  have hx0 := box_4 G2.one.drew.box
  go_region_held3 (fun W => W.heap[w.heap.size]? = some (.cells #[.int .i64 op, .int .i64 a, .int .i64 b, .slice lp n lc] 46) ∧ W.cell? ⟨w.heap.size, 0, none⟩ = some (.int .i64 op) ∧ W.cell? ⟨w.heap.size, 1, none⟩ = some (.int .i64 a) ∧ W.cell? ⟨w.heap.size, 2, none⟩ = some (.int .i64 b) ∧ W.cell? ⟨w.heap.size, 3, none⟩ = some (.slice lp n lc))
    (first | (with_reducible exact box_4 G4.box) | (with_reducible exact box_4 G3.box) | (with_reducible exact hx0))
    (first
      | (go_at_call 165; (with_reducible refine (cl _ G2.one.drew.near _ G2.one.drew.own).mono ?_); rintro e w3 ⟨v3, rfl, h3, n3⟩; have G3 := G2.one.drew.call h3 n3)
      | (go_at_call 164; (with_reducible refine (number64_of base v3 _ a _ G3.own G3.le (by omega) (by omega) (by omega)).mono ?_); rintro e w4 ⟨v4, rfl, h4, n4⟩; have G4 := G3.call h4 n4))
  all_goals
    go_wp2
    go_ret
    exact ⟨_, rfl, G4.own, G4.near⟩
theorem ins_shape_4 (w0 : World) (base : Nat) (v : Value) (d : List UInt8) (op a b : Int) (lp : Option Addr) (n lc : Nat) (ls : List Int) (hn : ls.length = n) (w : World) (hL : Spaces w) (hB0 : Below w0.heap.size w0 w) (hb0 : w0.heap.size ≤ base) (hb : base ≤ w.heap.size) (hown : Own w base 5 v d) (hd : d.length ≤ 1048576) (r : Rw) (hby : byCode op = some r) (hsh : r.shape = 4) (ha : 0 ≤ a ∧ a < 4294967296) :
    Calls Tryz.prog 88 #[v, .agg #[.int .i64 op, .int .i64 a, .int .i64 b, .slice lp n lc]] w (Adds5 w base (numC (d ++ one5 op) a)) := by
  obtain ⟨i0, hi, hz0, hz1, hz2⟩ := info_parts Tryz.info5
  have hbd := byCode_bd hby
  have hop : 0 ≤ op ∧ op ≤ 255 := by
    have hc : r.code = op := by simpa using List.find?_some hby
    omega
  have G := Go1.start hown hb #[.int .i64 op, .int .i64 a, .int .i64 b, .slice lp n lc] 46 (by decide)
  have c := op_of op (by omega) (by omega) (w.alloc (.cells #[.int .i64 op, .int .i64 a, .int .i64 b, .slice lp n lc] 46)) (hL.alloc _)
  rw [hby] at c
  obtain ⟨rc, rn, rs, rp, rr⟩ := r
  simp only at hsh
  subst hsh
  simp only [infoVal, Option.isSome] at c
  have hu : IntKind.u8.wrap op = op := by rw [IntKind.wrap_u8]; omega
  have ho : one5 op = [UInt8.ofNat op.toNat] := by unfold one5; rw [show op % 256 = op by omega]
  rw [ho]
  have l1 : (d ++ [UInt8.ofNat op.toNat]).length ≤ 1048577 := by simp; omega
  clear hby hbd ho
  clear hn hB0 hL
  go_enter Tryz.func88, Tryz.ntmps88
  go_wp2_with (first
    | (go_at_call 160; (with_reducible refine c.mono ?_); rintro e w1 ⟨rfl, hb1⟩; have G1 := G.info hb1 #[.string rn, .int .i64 4, .string rp, .string rr]; obtain ⟨hq, y0, y1, y2, y3⟩ := box_4 ((hb1.block _ (heap_lt9 G.box)).trans G.box); have hq2 := heap_lt9 hq; replace y0 := fun o => (World.cell?_alloc_lt w1 o (⟨w.heap.size, 0, none⟩ : Addr) hq2).trans y0; clear hq c y1 y2 y3)
    | (at_builtin; refine wpl_bytes rfl (.tmp 13) (.tmp 17) 24 rfl base 5 i0 Tryz.underlying24 hi hz0 hz1 hz2 _ _ rfl (G1.alloc _).one.own _ _ _ [UInt8.ofNat op.toNat] rfl rfl (lit_one _ _ _ (by simp) (byte_of (by omega) (by omega))) (by omega) (G1.alloc _).one.le ?_; intro v2 w2 h2 g2; have G2 := (G1.alloc _).step h2 g2; obtain ⟨_, q0, q1, q2, q3⟩ := box_4 G2.one.box; obtain ⟨_, s0, s1, s2, s3⟩ := box_4 G2.info)
    | (go_at_call 164; (with_reducible refine (number64_of base v2 _ a _ G2.one.own G2.one.le (by omega) (by omega) (by omega)).mono ?_); rintro e w3 ⟨v3, rfl, h3, n3⟩; have G3 := G2.one.call h3 n3))
  go_ret
  exact ⟨_, rfl, G3.own, G3.near⟩
theorem ins_shape_5 (w0 : World) (base : Nat) (v : Value) (d : List UInt8) (op a b : Int) (lp : Option Addr) (n lc : Nat) (ls : List Int) (hn : ls.length = n) (w : World) (hL : Spaces w) (hB0 : Below w0.heap.size w0 w) (hb0 : w0.heap.size ≤ base) (hb : base ≤ w.heap.size) (hown : Own w base 5 v d) (hd : d.length ≤ 1048576) (r : Rw) (hby : byCode op = some r) (hsh : r.shape = 5) (ha : 0 ≤ a ∧ a < 4294967296) (hb2 : 0 ≤ b ∧ b < 4294967296) :
    Calls Tryz.prog 88 #[v, .agg #[.int .i64 op, .int .i64 a, .int .i64 b, .slice lp n lc]] w (Adds5 w base (numC (numC (d ++ one5 op) a) b)) := by
  obtain ⟨i0, hi, hz0, hz1, hz2⟩ := info_parts Tryz.info5
  have hbd := byCode_bd hby
  have hop : 0 ≤ op ∧ op ≤ 255 := by
    have hc : r.code = op := by simpa using List.find?_some hby
    omega
  have G := Go1.start hown hb #[.int .i64 op, .int .i64 a, .int .i64 b, .slice lp n lc] 46 (by decide)
  have c := op_of op (by omega) (by omega) (w.alloc (.cells #[.int .i64 op, .int .i64 a, .int .i64 b, .slice lp n lc] 46)) (hL.alloc _)
  rw [hby] at c
  obtain ⟨rc, rn, rs, rp, rr⟩ := r
  simp only at hsh
  subst hsh
  simp only [infoVal, Option.isSome] at c
  have hu : IntKind.u8.wrap op = op := by rw [IntKind.wrap_u8]; omega
  have ho : one5 op = [UInt8.ofNat op.toNat] := by unfold one5; rw [show op % 256 = op by omega]
  rw [ho]
  have l1 : (d ++ [UInt8.ofNat op.toNat]).length ≤ 1048577 := by simp; omega
  clear hby hbd ho
  clear hn hB0 hL
  go_enter Tryz.func88, Tryz.ntmps88
  go_wp2_with (first
    | (go_at_call 160; (with_reducible refine c.mono ?_); rintro e w1 ⟨rfl, hb1⟩; have G1 := G.info hb1 #[.string rn, .int .i64 5, .string rp, .string rr]; obtain ⟨hq, y0, y1, y2, y3⟩ := box_4 ((hb1.block _ (heap_lt9 G.box)).trans G.box); have hq2 := heap_lt9 hq; replace y0 := fun o => (World.cell?_alloc_lt w1 o (⟨w.heap.size, 0, none⟩ : Addr) hq2).trans y0; clear hq c y1 y2 y3)
    | (at_builtin; refine wpl_bytes rfl (.tmp 13) (.tmp 17) 24 rfl base 5 i0 Tryz.underlying24 hi hz0 hz1 hz2 _ _ rfl (G1.alloc _).one.own _ _ _ [UInt8.ofNat op.toNat] rfl rfl (lit_one _ _ _ (by simp) (byte_of (by omega) (by omega))) (by omega) (G1.alloc _).one.le ?_; intro v2 w2 h2 g2; have G2 := (G1.alloc _).step h2 g2; obtain ⟨_, q0, q1, q2, q3⟩ := box_4 G2.one.box; obtain ⟨_, s0, s1, s2, s3⟩ := box_4 G2.info))
  have hx0 := box_4 G2.one.drew.box
  have l2 := num_len (b := d ++ [UInt8.ofNat op.toNat]) (n := a) (by omega) (by omega)
  go_region_held3 (fun W => W.heap[w.heap.size]? = some (.cells #[.int .i64 op, .int .i64 a, .int .i64 b, .slice lp n lc] 46) ∧ W.cell? ⟨w.heap.size, 0, none⟩ = some (.int .i64 op) ∧ W.cell? ⟨w.heap.size, 1, none⟩ = some (.int .i64 a) ∧ W.cell? ⟨w.heap.size, 2, none⟩ = some (.int .i64 b) ∧ W.cell? ⟨w.heap.size, 3, none⟩ = some (.slice lp n lc))
    (first | (with_reducible exact box_4 G4.box) | (with_reducible exact box_4 G3.box) | (with_reducible exact hx0))
    (first
      | (go_at_call 164; (with_reducible refine (number64_of base v3 _ b _ G3.own G3.le (by omega) (by omega) (by omega)).mono ?_); rintro e w4 ⟨v4, rfl, h4, n4⟩; have G4 := G3.call h4 n4)
      | (go_at_call 164; (with_reducible refine (number64_of base v2 _ a _ G2.one.drew.own G2.one.drew.le (by omega) (by omega) (by omega)).mono ?_); rintro e w3 ⟨v3, rfl, h3, n3⟩; have G3 := G2.one.drew.call h3 n3))
  all_goals
    go_wp2
    go_ret
    exact ⟨_, rfl, G4.own, G4.near⟩
theorem ins_shape_6 (w0 : World) (base : Nat) (v : Value) (d : List UInt8) (op a b : Int) (lp : Option Addr) (n lc : Nat) (ls : List Int) (hn : ls.length = n) (w : World) (hL : Spaces w) (hB0 : Below w0.heap.size w0 w) (hb0 : w0.heap.size ≤ base) (hb : base ≤ w.heap.size) (hown : Own w base 5 v d) (hd : d.length ≤ 1048576) (r : Rw) (hby : byCode op = some r) (hsh : r.shape = 6) :
    Calls Tryz.prog 88 #[v, .agg #[.int .i64 op, .int .i64 a, .int .i64 b, .slice lp n lc]] w (Adds5 w base (d ++ one5 op ++ [0])) := by
  obtain ⟨i0, hi, hz0, hz1, hz2⟩ := info_parts Tryz.info5
  have hbd := byCode_bd hby
  have hop : 0 ≤ op ∧ op ≤ 255 := by
    have hc : r.code = op := by simpa using List.find?_some hby
    omega
  have G := Go1.start hown hb #[.int .i64 op, .int .i64 a, .int .i64 b, .slice lp n lc] 46 (by decide)
  have c := op_of op (by omega) (by omega) (w.alloc (.cells #[.int .i64 op, .int .i64 a, .int .i64 b, .slice lp n lc] 46)) (hL.alloc _)
  rw [hby] at c
  obtain ⟨rc, rn, rs, rp, rr⟩ := r
  simp only at hsh
  subst hsh
  simp only [infoVal, Option.isSome] at c
  have hu : IntKind.u8.wrap op = op := by rw [IntKind.wrap_u8]; omega
  have ho : one5 op = [UInt8.ofNat op.toNat] := by unfold one5; rw [show op % 256 = op by omega]
  rw [ho]
  have l1 : (d ++ [UInt8.ofNat op.toNat]).length ≤ 1048577 := by simp; omega
  clear hby hbd ho
  clear hn hB0 hL
  go_enter Tryz.func88, Tryz.ntmps88
  go_wp2_with (first
    | (go_at_call 160; (with_reducible refine c.mono ?_); rintro e w1 ⟨rfl, hb1⟩; have G1 := G.info hb1 #[.string rn, .int .i64 6, .string rp, .string rr]; obtain ⟨hq, y0, y1, y2, y3⟩ := box_4 ((hb1.block _ (heap_lt9 G.box)).trans G.box); have hq2 := heap_lt9 hq; replace y0 := fun o => (World.cell?_alloc_lt w1 o (⟨w.heap.size, 0, none⟩ : Addr) hq2).trans y0; clear hq c y1 y2 y3)
    | (at_builtin; refine wpl_bytes rfl (.tmp 13) (.tmp 17) 24 rfl base 5 i0 Tryz.underlying24 hi hz0 hz1 hz2 _ _ rfl (G1.alloc _).one.own _ _ _ [UInt8.ofNat op.toNat] rfl rfl (lit_one _ _ _ (by simp) (byte_of (by omega) (by omega))) (by omega) (G1.alloc _).one.le ?_; intro v2 w2 h2 g2; have G2 := (G1.alloc _).step h2 g2; obtain ⟨_, q0, q1, q2, q3⟩ := box_4 G2.one.box; obtain ⟨_, s0, s1, s2, s3⟩ := box_4 G2.info)
    | (at_builtin; refine wpl_bytes rfl (.tmp 56) (.tmp 57) 24 rfl base 5 i0 Tryz.underlying24 hi hz0 hz1 hz2 _ _ rfl (G2.alloc _).one.own _ _ _ [0] rfl rfl (lit_one _ _ _ (by simp) rfl) (by omega) (G2.alloc _).one.le ?_; intro v3 w3 h3 g3; have G3 := (G2.alloc _).one.step h3 g3))
  go_ret
  exact ⟨_, rfl, G3.own, G3.near⟩
theorem ins_shape_7 (w0 : World) (base : Nat) (v : Value) (d : List UInt8) (op a b : Int) (lp : Option Addr) (n lc : Nat) (ls : List Int) (hn : ls.length = n) (w : World) (hL : Spaces w) (hB0 : Below w0.heap.size w0 w) (hb0 : w0.heap.size ≤ base) (hb : base ≤ w.heap.size) (hown : Own w base 5 v d) (hd : d.length ≤ 1048576) (r : Rw) (hby : byCode op = some r) (hsh : r.shape = 7) (ha : -9223372036854775808 ≤ a ∧ a ≤ 9223372036854775807) :
    Calls Tryz.prog 88 #[v, .agg #[.int .i64 op, .int .i64 a, .int .i64 b, .slice lp n lc]] w (Adds5 w base (d ++ one5 op ++ putS a)) := by
  obtain ⟨i0, hi, hz0, hz1, hz2⟩ := info_parts Tryz.info5
  have hbd := byCode_bd hby
  have hop : 0 ≤ op ∧ op ≤ 255 := by
    have hc : r.code = op := by simpa using List.find?_some hby
    omega
  have G := Go1.start hown hb #[.int .i64 op, .int .i64 a, .int .i64 b, .slice lp n lc] 46 (by decide)
  have c := op_of op (by omega) (by omega) (w.alloc (.cells #[.int .i64 op, .int .i64 a, .int .i64 b, .slice lp n lc] 46)) (hL.alloc _)
  rw [hby] at c
  obtain ⟨rc, rn, rs, rp, rr⟩ := r
  simp only at hsh
  subst hsh
  simp only [infoVal, Option.isSome] at c
  have hu : IntKind.u8.wrap op = op := by rw [IntKind.wrap_u8]; omega
  have ho : one5 op = [UInt8.ofNat op.toNat] := by unfold one5; rw [show op % 256 = op by omega]
  rw [ho]
  have l1 : (d ++ [UInt8.ofNat op.toNat]).length ≤ 1048577 := by simp; omega
  clear hby hbd ho
  have cs := fun W => put_s a ha.1 ha.2 W
  have hl7 := putS_len10 ha.1 ha.2
  clear hn hB0 hL
  go_enter Tryz.func88, Tryz.ntmps88
  go_wp2_with (first
    | (go_at_call 160; (with_reducible refine c.mono ?_); rintro e w1 ⟨rfl, hb1⟩; have G1 := G.info hb1 #[.string rn, .int .i64 7, .string rp, .string rr]; obtain ⟨hq, y0, y1, y2, y3⟩ := box_4 ((hb1.block _ (heap_lt9 G.box)).trans G.box); have hq2 := heap_lt9 hq; replace y0 := fun o => (World.cell?_alloc_lt w1 o (⟨w.heap.size, 0, none⟩ : Addr) hq2).trans y0; clear hq c y1 y2 y3)
    | (at_builtin; refine wpl_bytes rfl (.tmp 13) (.tmp 17) 24 rfl base 5 i0 Tryz.underlying24 hi hz0 hz1 hz2 _ _ rfl (G1.alloc _).one.own _ _ _ [UInt8.ofNat op.toNat] rfl rfl (lit_one _ _ _ (by simp) (byte_of (by omega) (by omega))) (by omega) (G1.alloc _).one.le ?_; intro v2 w2 h2 g2; have G2 := (G1.alloc _).step h2 g2; obtain ⟨_, q0, q1, q2, q3⟩ := box_4 G2.one.box; obtain ⟨_, s0, s1, s2, s3⟩ := box_4 G2.info)
    | (go_at_call 166; (with_reducible refine (cs _).mono ?_); rintro e w3 ⟨rfl, hb3⟩; have G3 := G2.one.call (G2.one.own.below hb3) (Near.of_below hb3))
    | (at_builtin; refine wpl_string rfl (.tmp 61) (.tmp 64) 24 9 rfl base 5 i0 Tryz.underlying24 Tryz.underlying9 hi hz0 hz1 hz2 _ _ rfl G3.own (putS a) rfl (by omega) G3.le ?_; intro v4 w4 h4 g4 _; have G4 := G3.step h4 g4))
  go_ret
  exact ⟨_, rfl, G4.own, G4.near⟩
def okIns (w0 : World) (W : World) (x : InsV) : Prop := rightIns x = true ∧ InsAt w0 x ∧ Spaces W
theorem instr_puts (w0 : World) : Puts 88 InsV.val (okIns w0) insC w0 := by
  rintro ⟨op, a, b, lp, lc, ls⟩ W base v d hB0 hb0 hb hown hd ⟨hr, ⟨hat, hll, hop, ha, hb', hls⟩, hL⟩
  have h0 : rightOf (byCode op) op a b ls = true := hr
  cases hby : byCode op with
  | none => rw [hby] at h0; cases h0
  | some r =>
    have hq : insC d ⟨op, a, b, lp, lc, ls⟩ = tailC r.shape (d ++ one5 op) ⟨op, a, b, lp, lc, ls⟩ := by unfold insC; simp only [hby]
    rw [hq]
    have hbd := byCode_bd hby
    rw [hby] at h0
    unfold rightOf at h0
    simp only at h0 ha hat hll
    split at h0
    · cases h0
    · split at h0
      · cases h0
      · have h8 : r.shape = 0 ∨ r.shape = 1 ∨ r.shape = 2 ∨ r.shape = 3 ∨ r.shape = 4 ∨ r.shape = 5 ∨ r.shape = 6 ∨ r.shape = 7 := by omega
        rcases h8 with h | h | h | h | h | h | h | h
        all_goals rw [h] at h0 ⊢
        all_goals simp [word] at h0
        · exact ins_shape_0 w0 base v d op a b lp ls.length lc ls rfl W hL hB0 hb0 hb hown hd r hby h
        · exact ins_shape_1 w0 base v d op a b lp ls.length lc ls rfl W hL hB0 hb0 hb hown hd r hby h h0
        · exact ins_shape_2 w0 base v d op a b lp ls.length lc ls rfl W hL hB0 hb0 hb hown hd r hby h h0
        · exact ins_shape_3 w0 base v d op a b lp ls.length lc ls rfl W hL hB0 hb0 hb hown hd r hby h h0.2 (fun n hn => by unfold word; exact decide_eq_true (h0.1.1 n hn)) h0.1.2 hat
        · exact ins_shape_4 w0 base v d op a b lp ls.length lc ls rfl W hL hB0 hb0 hb hown hd r hby h h0
        · exact ins_shape_5 w0 base v d op a b lp ls.length lc ls rfl W hL hB0 hb0 hb hown hd r hby h h0.1 h0.2
        · exact ins_shape_6 w0 base v d op a b lp ls.length lc ls rfl W hL hB0 hb0 hb hown hd r hby h
        · exact ins_shape_7 w0 base v d op a b lp ls.length lc ls rfl W hL hB0 hb0 hb hown hd r hby h ha
theorem instr_adds {x : InsV} (hr : rightIns x = true) (ha : inI64 x.a) : Adds insC 100 x := by
  intro out hout
  obtain ⟨op, a, b, lp, lc, ls⟩ := x
  have h0 : rightOf (byCode op) op a b ls = true := hr
  have ha2 : -9223372036854775808 ≤ a ∧ a ≤ 9223372036854775807 := ha
  cases hby : byCode op with
  | none => rw [hby] at h0; cases h0
  | some r =>
    have hq : insC out ⟨op, a, b, lp, lc, ls⟩ = tailC r.shape (out ++ one5 op) ⟨op, a, b, lp, lc, ls⟩ := by unfold insC; simp only [hby]
    rw [hq]
    have hbd := byCode_bd hby
    rw [hby] at h0
    unfold rightOf at h0
    simp only at h0
    have l1 : (out ++ one5 op).length = out.length + 1 := by rw [List.length_append]; rfl
    split at h0
    · cases h0
    · split at h0
      · cases h0
      · have h8 : r.shape = 0 ∨ r.shape = 1 ∨ r.shape = 2 ∨ r.shape = 3 ∨ r.shape = 4 ∨ r.shape = 5 ∨ r.shape = 6 ∨ r.shape = 7 := by omega
        rcases h8 with h | h | h | h | h | h | h | h
        all_goals rw [h] at h0 ⊢
        all_goals simp [word] at h0
        · show (out ++ one5 op).length ≤ _; omega
        · show (out ++ one5 op ++ one5 a).length ≤ _; rw [List.length_append, l1]; show _ + 1 ≤ _; omega
        · show (numC (out ++ one5 op) a).length ≤ _
          have := num_len (b := out ++ one5 op) (n := a) (by omega) (by omega); omega
        · show (numC (listC numC (out ++ one5 op) ls) a).length ≤ _
          have h5 := num_len (b := out ++ one5 op) (n := (ls.length : Int)) (by omega) (by omega)
          have h6 := each_len (F := numC) (K := 10) (l := ls) (b := numC (out ++ one5 op) ls.length) (fun x hx => number_adds (by unfold word; exact decide_eq_true (h0.1.1 x hx)))
          have h7 := num_len (b := listC numC (out ++ one5 op) ls) (n := a) (by omega) (by omega)
          unfold listC at h7 ⊢
          omega
        · show (numC (out ++ one5 op) a).length ≤ _
          have := num_len (b := out ++ one5 op) (n := a) (by omega) (by omega); omega
        · show (numC (numC (out ++ one5 op) a) b).length ≤ _
          have h5 := num_len (b := out ++ one5 op) (n := a) (by omega) (by omega)
          have h6 := num_len (b := numC (out ++ one5 op) a) (n := b) (by omega) (by omega); omega
        · show (out ++ one5 op ++ [0]).length ≤ _; rw [List.length_append, l1]; show _ + 1 ≤ _; omega
        · show (out ++ one5 op ++ putS a).length ≤ _; rw [List.length_append, l1]
          have := putS_len10 ha2.1 ha2.2; omega
def snocRun : List (UInt8 × Nat) → UInt8 → List (UInt8 × Nat)
  | [], b => [(b, 1)]
  | [(c, k)], b => if c = b then [(c, k + 1)] else [(c, k), (b, 1)]
  | x :: y :: r, b => x :: snocRun (y :: r) b
def consRun (a : UInt8) : List (UInt8 × Nat) → List (UInt8 × Nat)
  | [] => [(a, 1)]
  | (c, k) :: r => if a = c then (c, k + 1) :: r else (a, 1) :: (c, k) :: r
theorem grp_consRun (a : UInt8) (l : List UInt8) : grp (a :: l) = consRun a (grp l) := by
  rw [grp_cons]
  cases grp l with
  | nil => rfl
  | cons x r => obtain ⟨c, k⟩ := x; rfl
theorem cons_snoc (a b : UInt8) : ∀ rs, consRun a (snocRun rs b) = snocRun (consRun a rs) b
  | [] => by
    by_cases h : a = b <;> simp [consRun, snocRun, h]
  | [(c, k)] => by
    by_cases h : c = b <;> by_cases h2 : a = c <;> simp [consRun, snocRun, h, h2] <;> (try (subst h; simp [snocRun, h2])) <;> (try (subst h2; simp [snocRun, h]))
  | (c, k) :: y :: r => by
    by_cases h2 : a = c <;> first | (simp [snocRun, h2]; done) | simp [consRun, snocRun, h2]
theorem grp_snoc (b : UInt8) : ∀ p : List UInt8, grp (p ++ [b]) = snocRun (grp p) b
  | [] => by simp [grp, snocRun]
  | a :: p => by rw [List.cons_append, grp_consRun, grp_snoc b p, cons_snoc, grp_consRun]
theorem snoc_new (b : UInt8) : ∀ (rs : List (UInt8 × Nat)) (_ : ∀ c k, rs.getLast? = some (c, k) → c ≠ b), snocRun rs b = rs ++ [(b, 1)]
  | [], _ => rfl
  | [(c, k)], h => by simp [snocRun, h c k rfl]
  | x :: y :: r, h => by
    rw [snocRun, snoc_new b (y :: r) (fun c k hk => h c k (by simpa using hk))]; rfl
theorem snoc_same (b : UInt8) (k : Nat) : ∀ rs : List (UInt8 × Nat), snocRun (rs ++ [(b, k)]) b = rs ++ [(b, k + 1)]
  | [] => by simp [snocRun]
  | [x] => by simp [snocRun]
  | x :: y :: r => by
    have := snoc_same b k (y :: r)
    simp only [List.cons_append] at this ⊢
    rw [snocRun, this]
theorem snoc_last (b : UInt8) : ∀ rs : List (UInt8 × Nat), ∃ r k, snocRun rs b = r ++ [(b, k)]
  | [] => ⟨[], 1, rfl⟩
  | [(c, k)] => by
    by_cases h : c = b
    · exact ⟨[], k + 1, by simp [snocRun, h]⟩
    · exact ⟨[(c, k)], 1, by simp [snocRun, h]⟩
  | x :: y :: r => by
    obtain ⟨r', k, h⟩ := snoc_last b (y :: r)
    exact ⟨x :: r', k, by rw [snocRun, h]; rfl⟩
theorem grp_last (b : UInt8) (p : List UInt8) : ∃ r k, grp (p ++ [b]) = r ++ [(b, k)] := by rw [grp_snoc]; exact snoc_last b _
theorem grp_many : ∀ (s : List UInt8) (x : UInt8 × Nat), x ∈ grp s → x.2 ≤ s.length
  | [], x, h => by simp [grp] at h
  | a :: l, x, h => by
    rw [grp_consRun] at h
    cases hg : grp l with
    | nil => rw [hg] at h; simp [consRun] at h; simp [h]
    | cons y r =>
      obtain ⟨c, k⟩ := y
      have ih := fun x hx => grp_many l x (by rw [hg]; exact hx)
      rw [hg] at h
      rw [show consRun a ((c, k) :: r) = if a = c then (c, k + 1) :: r else (a, 1) :: (c, k) :: r from rfl] at h
      split at h
      · rcases List.mem_cons.1 h with rfl | h
        · have := ih (c, k) (by simp); simp at this ⊢; omega
        · have := ih x (by simp [h]); simp; omega
      · rcases List.mem_cons.1 h with rfl | h
        · simp
        · have := ih x h; simp; omega
def runV (x : UInt8 × Nat) : RunV := ⟨x.2, x.1⟩
def runCells (rs : List (UInt8 × Nat)) : List Value := rs.flatMap fun x => (runV x).row
theorem runCells_snoc (rs : List (UInt8 × Nat)) (x : UInt8 × Nat) : runCells (rs ++ [x]) = runCells rs ++ (runV x).row := by simp [runCells]
theorem runCells_len (rs : List (UInt8 × Nat)) : (runCells rs).length = rs.length * 2 := by
  induction rs with
  | nil => rfl
  | cons x l ih => simp [runCells, runV, RunV.row] at ih ⊢; omega
theorem run_info : (Tryz.prog.info? 252).map (fun i => (i.zero, i.size, i.bytes)) = some (some (.agg #[.int .i64 0, .int .u8 0]), 2, 16) := by kernel_rfl
theorem runCells_set (rs : List (UInt8 × Nat)) (c : UInt8) (k : Nat) (u : Value) : (runCells (rs ++ [(c, k)])).set (rs.length * 2) u = runCells rs ++ [u, .int .u8 c.toNat] := by
  rw [runCells_snoc, List.set_append_right _ _ (by rw [runCells_len]; omega), runCells_len]
  simp [runV, RunV.row]
theorem own_some9 {w : World} {base : Nat} {e : TypeId} {size : Nat} {v : Value} {n : Nat} {xs : List Value} (h : w.ownsRow base e size v n xs) (hn : 0 < n) : ∃ g cap, v = .slice (some ⟨g, 0, none⟩) n cap ∧ base ≤ g := by
  rcases h.2 with ⟨_, h0⟩ | ⟨g, cap, cur, rfl, hb, _⟩
  · omega
  · exact ⟨g, cap, rfl, hb⟩
theorem own_drewN {w : World} {base : Nat} {e : TypeId} {size : Nat} {v : Value} {n : Nat} {xs : List Value} (h : w.ownsRow base e size v n xs) (q : Nat) : (w.drewN q).ownsRow base e size v n xs := h
theorem own_below9 {w : World} {base : Nat} {e : TypeId} {size : Nat} {v : Value} {n : Nat} {xs : List Value} (h : w.ownsRow base e size v n xs) (o : Obj) : (w.alloc o).ownsRow base e size v n xs := World.ownsRow.alloc h o
theorem run_one (b : UInt8) : ∀ u ∈ [Value.int .i64 0, .int .u8 b.toNat], u.oneCell' = true := by
  intro u hu; simp at hu; rcases hu with rfl | rfl <;> rfl
theorem run_new (w : World) (x y : Value) (t : TypeId) : ∀ j u, [x, y][j]? = some u → (w.alloc (.cells #[x, y] t)).cell? ((⟨w.heap.size, 0, none⟩ : Addr).add j) = some u := by
  intro j u hj
  have hadd : (⟨w.heap.size, 0, none⟩ : Addr).add j = ⟨w.heap.size, j, none⟩ := by unfold Addr.add; split <;> simp_all
  rw [hadd, World.cell?_alloc_new]
  simpa using hj
theorem bump {W : World} {base g cap N : Nat} {r0 : List (UInt8 × Nat)} {c : UInt8} {m : Nat} (h : W.ownsRow base 252 2 (.slice (some ⟨g, 0, none⟩) N cap) (r0 ++ [(c, m)]).length (runCells (r0 ++ [(c, m)]))) :
    (W.setCell ⟨g, r0.length * 2, none⟩ (.int .i64 ((m : Int) + 1))).ownsRow base 252 2 (.slice (some ⟨g, 0, none⟩) N cap) (r0 ++ [(c, m + 1)]).length (runCells (r0 ++ [(c, m + 1)])) ∧ W.grownBy (W.setCell ⟨g, r0.length * 2, none⟩ (.int .i64 ((m : Int) + 1))) (some g) := by
  have hN : (r0 ++ [(c, m)]).length = N := by
    rcases h.2 with ⟨h0, _⟩ | ⟨g', cap', cur, he, _⟩
    · cases h0
    · injection he with _ h1 _; exact h1.symm
  rw [hN] at h
  have h2 := World.ownsRow.stored h (r0.length * 2) (.int .i64 ((m : Int) + 1))
  rw [runCells_set] at h2
  have e : runCells (r0 ++ [(c, m + 1)]) = runCells r0 ++ [.int .i64 ((m : Int) + 1), .int .u8 c.toNat] := by rw [runCells_snoc]; simp [runV, RunV.row]
  have hN2 : (r0 ++ [(c, m + 1)]).length = N := by rw [← hN]; simp
  rw [e, hN2]
  exact h2
theorem run_cell {W : World} {base g cap N : Nat} {r0 : List (UInt8 × Nat)} {c : UInt8} {m : Nat} (h : W.ownsRow base 252 2 (.slice (some ⟨g, 0, none⟩) N cap) (r0 ++ [(c, m)]).length (runCells (r0 ++ [(c, m)]))) :
    N = r0.length + 1 ∧ W.cell? ⟨g, r0.length * 2, none⟩ = some (.int .i64 m) ∧ W.frozen? ⟨g, r0.length * 2, none⟩ = false := by
  have hN : (r0 ++ [(c, m)]).length = N := by
    rcases h.2 with ⟨h0, _⟩ | ⟨g', cap', cur, he, _⟩
    · cases h0
    · injection he with _ h1 _; exact h1.symm
  rw [hN] at h
  refine ⟨by rw [← hN]; simp, ?_, h.frozenAt _⟩
  rw [h.cellAt _ (by rw [← hN, List.length_append, List.length_singleton]; omega), runCells_snoc, List.getElem?_append_right (by rw [runCells_len]; omega), runCells_len]
  simp [runV, RunV.row]
theorem app_new {W : World} {base : Nat} {v : Value} {rs : List (UInt8 × Nat)} {c : UInt8} {nn : Nat} (h5 : W.ownsRow base 252 2 v (nn + 1) (runCells rs ++ [.int .i64 0, .int .u8 c.toNat])) (hnn : nn = rs.length) (hl : nn ≤ 5000) :
    ∃ g cap N, v = .slice (some ⟨g, 0, none⟩) N cap ∧ base ≤ g ∧ nn < N ∧ (N : Int) ≤ 5001 ∧ IntKind.i64.wrap ((N : Int) - 1) = (nn : Int) ∧ (W.cell? ⟨g, nn * 2, none⟩ = some (.int .i64 0) ∧ W.frozen? ⟨g, nn * 2, none⟩ = false) ∧
      Hid ((W.setCell ⟨g, nn * 2, none⟩ (.int .i64 1)).ownsRow base 252 2 (.slice (some ⟨g, 0, none⟩) N cap) (rs ++ [(c, 0 + 1)]).length (runCells (rs ++ [(c, 0 + 1)])) ∧ W.grownBy (W.setCell ⟨g, nn * 2, none⟩ (.int .i64 1)) (some g)) := by
  subst hnn
  have h6 : W.ownsRow base 252 2 v (rs ++ [(c, 0)]).length (runCells (rs ++ [(c, 0)])) := by
    rw [runCells_snoc, List.length_append]
    exact h5
  obtain ⟨g, cap, rfl, hg⟩ := own_some9 h6 (by simp)
  obtain ⟨hN, e0, f0⟩ := run_cell h6
  have h7 := bump h6
  exact ⟨g, cap, _, rfl, hg, by omega, by omega, by rw [IntKind.wrap_i64]; omega, ⟨e0, f0⟩, Lib.hid h7⟩
theorem below_app {w wr w5 : World} {q : Nat} {e : TypeId} {size n : Nat} {xs : List Value} {v : Value} {o : Obj} (hB : Below w.heap.size w wr) (hown : wr.ownsRow w.heap.size e size v n xs) (hg : ((wr.drewN q).alloc o).grownBy w5 v.ownBlock) : Below w.heap.size w w5 ∧ w.heap.size ≤ w5.heap.size := by
  have hd : Below w.heap.size w (wr.drewN q) := ⟨hB.os, hB.tape, hB.output, hB.size, hB.block⟩
  have h := (hd.alloc hd.size o).grown hg (Nat.le_trans hd.size ((Below.refl (wr.drewN q).heap.size (wr.drewN q)).alloc (Nat.le_refl _) o).size) (fun g hgg => (World.ownsRow.lt hown g hgg).1)
  exact ⟨h, h.size⟩
theorem take_snoc9 (s : ByteArray) (k : Nat) (h : k < s.size) : s.data.toList.take (k + 1) = s.data.toList.take k ++ [s[k]] := by
  rw [List.take_succ_eq_append_getElem (by rw [show s.data.toList.length = s.size from Array.length_toList]; exact h)]; rfl
theorem enc_runs (s : ByteArray) (hs : s.size ≤ 4096) (w : World) :
    Calls Tryz.prog 208 #[.string s] w fun e w' => (∃ v, e = .returned v ∧ w'.ownsRow w.heap.size 252 2 v (grp s.data.toList).length (runCells (grp s.data.toList))) ∧ Below w.heap.size w w' := by
  obtain ⟨i0, hi, hz0, hz1, hz2⟩ := info_parts run_info
  obtain ⟨l, hl⟩ : ∃ l, l = s.data.toList := ⟨_, rfl⟩
  rw [← hl]
  have HL := Lib.hid hl
  clear hl
  go_enter Tryz.func208, Tryz.ntmps208
  go_wp2
  go_loopw [3, 7] (fun v i wr => ∃ (k : Nat) (rs : List (UInt8 × Nat)), k ≤ s.size ∧ i = .int .i64 k ∧ wr.ownsRow w.heap.size 252 2 v rs.length (runCells rs) ∧ Hid (grp (l.take k) = rs) ∧ rs.length ≤ k ∧ Below w.heap.size w wr) (fun _ i _ => s.size - (intOf i).toNat)
  case atStart => exact ⟨0, [], by omega, rfl, World.ownsRow_nil w _ _ 2, Lib.hid (by simp [grp]), by simp, Below.refl _ _⟩
  case round =>
    obtain ⟨k, rs, hk, rfl, hown, HR, hrl, hB⟩ := hrel
    have hsz := hB.size
    by_cases hlt : k < s.size
    · have hbk : s[k].toNat < 256 := UInt8.toNat_lt _
      have HT : Hid (l.take (k + 1) = l.take k ++ [s[k]]) := Lib.hid (by rw [HL.out]; exact take_snoc9 s k hlt)
      by_cases h0 : k = 0
      · subst h0
        have hrs : rs = [] := by rw [← HR.out]; simp [grp]
        subst hrs
        have hlt0 : 0 < s.size := hlt
        have HNX : Hid (grp (l.take (0 + 1)) = [] ++ [(s[0], 0 + 1)]) := Lib.hid (by rw [HT.out, grp_snoc, HR.out]; rfl)
        have nn0 : (0 : Nat) = ([] : List (UInt8 × Nat)).length := rfl
        have HNN := Lib.hid nn0
        have HO := Lib.hid hown
        have hz9 : ∀ q o, w.heap.size ≤ ((wr.drewN q).alloc o).heap.size := fun q o => Nat.le_trans hsz ((Below.refl (wr.drewN q).heap.size (wr.drewN q)).alloc (Nat.le_refl _) o).size
        clear hown nn0
        go_wp2
        go_quiet (fail)
        go_wp2_with (at_builtin; refine wpList_append_own_at _ rfl (.tmp 22) (.tmp 27) 253 rfl w.heap.size 252 i0 (.agg #[.int .i64 0, .int .u8 0]) 2 16 Tryz.underlying253 hi hz0 hz1 hz2 rfl (by decide) _ 0 _ rfl (own_below9 (own_drewN HO.out nq) _) ⟨wr.heap.size, 0, none⟩ 1 1 [.int .i64 0, .int .u8 s[0].toNat] rfl rfl (run_new (wr.drewN nq) _ _ _) (run_one _) (by unfold maxLen; omega) (by omega) (hz9 _ _) ?_; intro v5 w5 h5 g5 _ _; have BB := below_app hB HO.out g5; obtain ⟨g, cap, N, rfl, hg, hnN, hN5, hw2, ⟨e0, f0⟩, HF⟩ := app_new h5 HNN.out (by omega); clear h5 g5)
        go_roundw
        case rel =>
          refine ⟨0 + 1, [] ++ [(s[0], 0 + 1)], by omega, by simp, HF.out.1, HNX, by have := HNN.out; rw [List.length_append, List.length_singleton]; omega, ?_⟩
          exact BB.1.grown HF.out.2 BB.2 (fun x hx => by injection hx with hx; omega)
        case measure => simp [intOf]; omega
      · have h00 : ((k : Int) == 0) = false := beq_eq_false_iff_ne.2 (by omega)
        obtain ⟨j, hj⟩ : ∃ j, k = j + 1 := ⟨k - 1, by omega⟩
        have hw1 : IntKind.i64.wrap ((k : Int) - 1) = (j : Int) := by rw [IntKind.wrap_i64]; omega
        have hlt2 : j < s.size := by omega
        have hbj : s[j].toNat < 256 := UInt8.toNat_lt _
        have HJ : Hid (l.take k = l.take j ++ [s[j]]) := Lib.hid (by rw [hj, HL.out]; exact take_snoc9 s j hlt2)
        obtain ⟨r0, m, hr0⟩ := grp_last s[j] (l.take j)
        rw [← HJ.out, HR.out] at hr0
        have HM : Hid (m ≤ 4096) := Lib.hid (by
          have := grp_many (l.take k) (s[j], m) (by rw [HR.out, hr0]; simp)
          simp at this; omega)
        clear hj
        by_cases he : s[k] = s[j]
        · have hee : ((s[k].toNat : Int) != (s[j].toNat : Int)) = false := by rw [he]; simp
          have HNX : Hid (grp (l.take (k + 1)) = r0 ++ [(s[j], m + 1)]) := Lib.hid (by rw [HT.out, grp_snoc, HR.out, hr0, he, snoc_same])
          subst hr0
          have hm9 : m ≤ 4096 := HM.out
          obtain ⟨g, cap, rfl, hg⟩ := own_some9 hown (by simp)
          obtain ⟨hN, e0, f0⟩ := run_cell hown
          have HO := Lib.hid hown
          have hr1 : r0.length + 1 ≤ k := by simpa using hrl
          obtain ⟨N, hN2⟩ : ∃ N, (r0 ++ [(s[j], m)]).length = N := ⟨_, rfl⟩
          rw [hN2] at hN ⊢
          have hw2 : IntKind.i64.wrap ((N : Int) - 1) = (r0.length : Int) := by rw [IntKind.wrap_i64]; omega
          have hNN : r0.length < N := by omega
          obtain ⟨nn, hnn⟩ : ∃ nn, nn = r0.length := ⟨_, rfl⟩
          have HNN := Lib.hid hnn
          have HN2 := Lib.hid hN2
          rw [← hnn] at hw2 hNN e0 f0
          clear he hown hN2 hnn hN hrl
          have e1 := fun q => (show (wr.drewN q).cell? ⟨g, nn * 2, none⟩ = some (.int .i64 m) from e0)
          have f1 := fun q => (show (wr.drewN q).frozen? ⟨g, nn * 2, none⟩ = false from f0)
          clear e0 f0
          go_wp2
          go_quiet (fail)
          go_wp2
          go_roundw
          case rel =>
            refine ⟨k + 1, r0 ++ [(s[j], m + 1)], by omega, by simp, ?_, HNX, by simp; omega, ?_⟩
            · have h9 := (bump (own_drewN HO.out nq)).1
              rw [HN2.out] at h9
              rw [HNN.out]
              exact h9
            · have h9 := (bump (own_drewN HO.out nq)).2
              have hb9 : Below w.heap.size w (wr.drewN nq) := ⟨hB.os, hB.tape, hB.output, hB.size, hB.block⟩
              have h8 := hb9.grown h9 hsz (fun x hx => by injection hx with hx; omega)
              rw [HNN.out]
              exact h8
          case measure => simp [intOf]; omega
        · have hee : ((s[k].toNat : Int) != (s[j].toNat : Int)) = true := by rw [bne_iff_ne]; intro h; exact he (UInt8.toNat_inj.1 (by omega))
          have HNX : Hid (grp (l.take (k + 1)) = rs ++ [(s[k], 0 + 1)]) := Lib.hid (by rw [HT.out, grp_snoc, HR.out]; exact snoc_new _ _ (fun c q hc => by rw [hr0, List.getLast?_concat] at hc; injection hc with hc; injection hc with hc _; rw [← hc]; exact fun h => he h.symm))
          clear he hr0
          obtain ⟨nn, hnn⟩ : ∃ nn, nn = rs.length := ⟨_, rfl⟩
          have HNN := Lib.hid hnn
          rw [← hnn] at hown hrl
          have HO := Lib.hid hown
          have hz9 : ∀ q o, w.heap.size ≤ ((wr.drewN q).alloc o).heap.size := fun q o => Nat.le_trans hsz ((Below.refl (wr.drewN q).heap.size (wr.drewN q)).alloc (Nat.le_refl _) o).size
          clear hown hnn
          go_wp2
          go_quiet (fail)
          go_wp2_with (at_builtin; refine wpList_append_own_at _ rfl (.tmp 22) (.tmp 27) 253 rfl w.heap.size 252 i0 (.agg #[.int .i64 0, .int .u8 0]) 2 16 Tryz.underlying253 hi hz0 hz1 hz2 rfl (by decide) _ nn _ rfl (own_below9 (own_drewN HO.out nq) _) ⟨wr.heap.size, 0, none⟩ 1 1 [.int .i64 0, .int .u8 s[k].toNat] rfl rfl (run_new (wr.drewN nq) _ _ _) (run_one _) (by unfold maxLen; omega) (by omega) (hz9 _ _) ?_; intro v5 w5 h5 g5 _ _; have BB := below_app hB HO.out g5; obtain ⟨g, cap, N, rfl, hg, hnN, hN5, hw2, ⟨e0, f0⟩, HF⟩ := app_new h5 HNN.out (by omega); clear h5 g5)
          go_roundw
          case rel =>
            refine ⟨k + 1, rs ++ [(s[k], 0 + 1)], by omega, by simp, HF.out.1, HNX, by have := HNN.out; rw [List.length_append, List.length_singleton]; omega, ?_⟩
            exact BB.1.grown HF.out.2 BB.2 (fun x hx => by injection hx with hx; omega)
          case measure => simp [intOf]; omega
    · obtain rfl : k = s.size := by omega
      have HF : Hid (grp l = rs) := Lib.hid (by rw [← HR.out, List.take_of_length_le (by rw [HL.out, show s.data.toList.length = s.size from Array.length_toList]; exact Nat.le_refl _)])
      go_wp2
      go_ret
      exact ⟨⟨_, rfl, by rw [HF.out]; exact hown⟩, hB⟩
end Go.Proofs.YtdinpakclmnacaaGreatDoor
