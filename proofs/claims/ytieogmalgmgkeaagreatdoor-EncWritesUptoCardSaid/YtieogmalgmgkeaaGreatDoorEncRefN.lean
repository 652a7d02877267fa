/-
  The document's own answer to chapter 5, modules: walked whole. Contracts that the proofs call; no statement is proved here.
-/
import Derived.Test.YtieogmalgmgkeaaGreatDoorEncRefM
import Derived.Deep.Cut
namespace Go.Proofs.YtieogmalgmgkeaaGreatDoor
open Go.RowKit
set_option linter.unusedVariables false

theorem grp_count : ∀ (s : List UInt8), ∀ x ∈ grp s, x.2 ≤ s.length
  | [], x, hx => by cases hx
  | b :: l, x, hx => by
    have ih := grp_count l
    rw [grp_cons] at hx
    cases hg : grp l with
    | nil => rw [hg] at hx; rw [List.mem_singleton.1 hx]; simp
    | cons y r =>
      obtain ⟨c, k⟩ := y
      rw [hg] at hx ih
      have hk := ih (c, k) (by simp)
      simp only at hx hk
      split at hx
      · rcases List.mem_cons.1 hx with rfl | h
        · simp; exact hk
        · have := ih x (by simp [h]); simp; omega
      · rcases List.mem_cons.1 hx with rfl | h
        · simp
        · have := ih x h; simp; omega
theorem runs5_len {s : List UInt8} (h : s.length ≤ 1000000) : (runs5 s).length ≤ 10 + 11 * s.length := by
  rw [runs5_eq, List.length_append]
  have h1 := grp_len s
  have h2 := putU_len10 (n := ((grp s).length : Int)) (by omega) (by omega)
  have h3 := flat_most (f := run5) (k := 11) (l := grp s) fun x hx => by
    have := grp_count s x hx
    have := putU_len10 (n := (x.2 : Int)) (by omega) (by omega)
    unfold run5
    rw [List.length_append, List.length_singleton]; omega
  omega
theorem own_ge5 {w : World} {base : Nat} {e : TypeId} {size : Nat} {v : Value} {n : Nat} {xs : List Value} (h : w.ownsRow base e size v n xs) : ∀ g, v.ownBlock = some g → base ≤ g ∧ g < w.heap.size := fun g hg => World.ownsRow.lt h g hg
theorem after_box {w wr : World} {bx : Obj} (hB : Below w.heap.size w wr) (hx : wr.heap[w.heap.size]? = some bx) (o : Obj) : (wr.alloc o).heap[wr.heap.size]? = some o ∧ ∀ {w2 : World}, Below (wr.alloc o).heap.size (wr.alloc o) w2 → Below w.heap.size w w2 ∧ w2.heap[w.heap.size]? = some bx := by
  refine ⟨heap_alloc_new _ _, fun h => ⟨(hB.alloc hB.size o).trans (h.mono (by simp; have := hB.size; omega)), ?_⟩⟩
  have h1 := heap_inE hx
  exact ((h.block _ (by simp; omega)).trans (Below.heap_alloc wr o _ h1)).trans hx
theorem const5_len {k n : Int} (h0 : -9223372036854775808 ≤ n) (h1 : n ≤ 9223372036854775807) : (const5 k n).length ≤ 12 := by
  unfold const5
  simp only [List.length_append, List.length_cons, List.length_nil]
  have := putS_len10 h0 h1
  have := one5_len (192 - k)
  omega
theorem start5_len {n : Int} (h : n = -1 ∨ (0 ≤ n ∧ n < 4294967296)) : (start5 n).length ≤ 20 := by
  unfold start5
  by_cases h1 : n = -1
  · rw [if_pos h1]; simp
  · rw [if_neg h1, List.length_append]
    have h2 := putU_small (n := n) (by omega) (by omega)
    have h3 := txt5_len (s := putU n) (by omega)
    have := one5_len 8
    omega
theorem sect5_len {id : Int} {n : Nat} {s : List UInt8} (hn : n ≤ 4096) (hs : s.length ≤ 576460752303423488) : (sect5 id n s).length ≤ s.length + 40 := by
  unfold sect5
  by_cases h1 : n = 0
  · rw [if_pos h1]; simp
  · rw [if_neg h1, List.length_append]
    have h2 := putU_len10 (n := (n : Int)) (by omega) (by omega)
    have h3 := txt5_len (s := putU n ++ s) (by rw [List.length_append]; omega)
    rw [List.length_append] at h3
    have := one5_len id
    omega
theorem bel_t {a b c : World} (h : Below a.heap.size a b) (k : Below b.heap.size b c) : Below a.heap.size a c := h.trans (k.mono h.size)
theorem keep_c6 {W W' : World} {a0 a1 a2 a3 a4 a5 : Addr} {u0 u1 u2 u3 u4 u5 : Value} (hb : Below W.heap.size W W') (h : W.cell? a0 = some u0 ∧ W.cell? a1 = some u1 ∧ W.cell? a2 = some u2 ∧ W.cell? a3 = some u3 ∧ W.cell? a4 = some u4 ∧ W.cell? a5 = some u5) : W'.cell? a0 = some u0 ∧ W'.cell? a1 = some u1 ∧ W'.cell? a2 = some u2 ∧ W'.cell? a3 = some u3 ∧ W'.cell? a4 = some u4 ∧ W'.cell? a5 = some u5 := ⟨cell_belowE h.1 hb, cell_belowE h.2.1 hb, cell_belowE h.2.2.1 hb, cell_belowE h.2.2.2.1 hb, cell_belowE h.2.2.2.2.1 hb, cell_belowE h.2.2.2.2.2 hb⟩
theorem keep_v {W W' : World} {a0 a1 : Addr} {u0 u1 : Value} {p : World → Prop} (hb : Below W.heap.size W W') (h2 : p W') (h : W.cell? a0 = some u0 ∧ W.cell? a1 = some u1 ∧ p W) : W'.cell? a0 = some u0 ∧ W'.cell? a1 = some u1 ∧ p W' := ⟨cell_belowE h.1 hb, cell_belowE h.2.1 hb, h2⟩
theorem keep_c2 {W W' : World} {a0 a1 : Addr} {u0 u1 : Value} (hb : Below W.heap.size W W') (h : W.cell? a0 = some u0 ∧ W.cell? a1 = some u1) : W'.cell? a0 = some u0 ∧ W'.cell? a1 = some u1 := ⟨cell_belowE h.1 hb, cell_belowE h.2 hb⟩
set_option maxRecDepth 100000 in
set_option maxHeartbeats 16000000 in
theorem ref5_mod_right (m : MoV) (w : World) (hm : ModAt w m) (h5 : Mod5 m) :
    Calls Tryz.prog 10 #[m.val] w fun e w' => e = .returned (.tuple #[.string (bs (ans5 m).1), .int .i64 (ans5 m).2]) ∧ Below w.heap.size w w' := by
  have cR := fun W (hW : Below w.heap.size w W) => ref_rightMod m W (hm.below hW (Nat.le_refl _))
  rw [h5.right] at cR
  have hal := fun o => (Below.refl w.heap.size w).alloc (Nat.le_refl _) o
  have hr := h5.right
  unfold rightMod at hr
  simp only [Bool.and_eq_true, decide_eq_true_eq] at hr
  obtain ⟨hfew, r1, r2, r3, r4, r5, r6⟩ := hr
  obtain ⟨few1, few2, few3, few4, few5, few6, few7⟩ := hfew
  obtain ⟨tp, tc, types, fp, fc, funcs, mp, mc, memory, gp, gc, globals, ep, ec, exports, start, dp, dc, data⟩ := m
  simp only [MoV.val] at *
  have hT := hm.types
  have hTi := hm.typesIn
  have hF := hm.funcs
  have hFi := hm.funcsIn
  have hcode := h5.code
  have hnames := h5.names
  have htexts := h5.texts
  have hMe := hm.memory
  have hG := hm.globals
  have hGi := hm.globalsIn
  have hE := hm.exports
  have hEi := hm.exportsIn
  have hD := hm.data
  have hDi := hm.dataIn
  have hst := hm.startIn
  obtain ⟨R, hR⟩ : ∃ R, R = ans5 ⟨tp, tc, types, fp, fc, funcs, mp, mc, memory, gp, gc, globals, ep, ec, exports, start, dp, dc, data⟩ := ⟨_, rfl⟩
  rw [← hR]
  unfold ans5 mod5 at hR
  rw [h5.right] at hR
  have HR := Lib.hid hR
  simp only at hD hDi hE hEi hG hGi hMe hst hnames htexts
  clear hm h5 hR
  obtain ⟨nt, hnt⟩ : ∃ n, types.length = n := ⟨_, rfl⟩
  rw [hnt] at few1 cR ⊢
  have HNT := Lib.hid hnt
  clear hnt
  obtain ⟨nf, hnf⟩ : ∃ n, funcs.length = n := ⟨_, rfl⟩
  rw [hnf] at few2 cR ⊢
  have HNF := Lib.hid hnf
  clear hnf
  obtain ⟨nm, hnm⟩ : ∃ n, memory.length = n := ⟨_, rfl⟩
  rw [hnm] at few3 cR ⊢
  have HNM := Lib.hid hnm
  clear hnm
  obtain ⟨ng, hng⟩ : ∃ n, globals.length = n := ⟨_, rfl⟩
  rw [hng] at few4 cR ⊢
  have HNG := Lib.hid hng
  clear hng
  obtain ⟨ne, hne⟩ : ∃ n, exports.length = n := ⟨_, rfl⟩
  rw [hne] at few5 cR ⊢
  have HNE := Lib.hid hne
  clear hne
  obtain ⟨nd, hnd⟩ : ∃ n, data.length = n := ⟨_, rfl⟩
  rw [hnd] at few6 cR ⊢
  have HND := Lib.hid hnd
  clear hnd
  go_enter Tryz.func10, Tryz.ntmps10
  go_wp2_with (go_at_call 21; refine (cR _ (hal _)).mono ?_; rintro e w1 ⟨rfl, hb1⟩; obtain ⟨hbox, hB1⟩ := box7E hb1; clear hb1 cR)
  go_loopw [5, 6] (fun s i wr => ∃ (k : Nat) (d : List UInt8), k ≤ nt ∧ i = .int .i64 k ∧ s = .string (bs d) ∧ d.length ≤ 4300 * k ∧ Hid (d = (types.take k).flatMap ty5) ∧ Below w1.heap.size w1 wr) (fun _ i _ => nt - (intOf i).toNat)
  case atStart => exact ⟨0, [], by omega, rfl, rfl, by simp, Lib.hid (by simp), Below.refl _ _⟩
  case round =>
    obtain ⟨k, d, hk, rfl, rfl, hd, HD, hB⟩ := hrel
    have hx := (hB.block _ (heap_inE hbox)).trans hbox
    have q0 : wr.cell? ⟨w.heap.size, 0, none⟩ = some (.slice tp nt tc) := by simp [World.cell?, hx]
    by_cases hlt : k < nt
    · as_aux_lemma =>
        have hle : k < types.length := by have := HNT.out; omega
        have hBw := hB1.trans (hB.mono hB1.size)
        have hr := hT.below hBw (Nat.le_refl _)
        obtain ⟨b, o, hp1, hb1, e0⟩ := hr k hle 0 _ rfl
        subst hp1
        have e1 := hr.cell hle 1 rfl
        have ht := hTi _ (List.getElem_mem hle)
        have hrt := List.all_eq_true.1 r1 _ (List.getElem_mem hle)
        have HX : Hid (types.take (k + 1) = types.take k ++ [types[k]]) := Lib.hid (List.take_succ_eq_append_getElem hle)
        have hlen := ty5_len hrt
        generalize types[k] = x at *
        obtain ⟨xp, xr⟩ := x
        unfold rightTy at hrt
        simp only [Bool.and_eq_true] at hrt
        have h1 := vtypes_len hrt.1
        have h2 := vtypes_len hrt.2
        simp only [bs_len] at h1 h2
        have c1 := fun W => ref5_text xp (by omega) W
        have c2 := fun W => ref5_text xr (by omega) W
        have z1 := txt5_len (s := xp.data.toList) (by rw [bs_len]; omega)
        have z2 := txt5_len (s := xr.data.toList) (by rw [bs_len]; omega)
        rw [bs_len] at z1 z2
        have s0 : ¬ 9223372036854775807 < (bs d).size + 1 := by rw [bs_size]; omega
        have s1 : ¬ 9223372036854775807 < (bs d).size + 1 + (bs (txt5 xp.data.toList)).size := by rw [bs_size, bs_size]; omega
        have s2 : ¬ 9223372036854775807 < (bs d).size + 1 + (bs (txt5 xp.data.toList)).size + (bs (txt5 xr.data.toList)).size := by rw [bs_size, bs_size, bs_size]; omega
        simp only [Nat.add_zero] at e0
        clear hr hT hTi HNT hrt r1 hx
        have hBd := hB.drew
        go_wp2
        go_region_held3 (fun W => W.cell? ⟨w.heap.size, 0, none⟩ = some (.slice (some ⟨b, o, none⟩) nt tc) ∧ W.cell? ⟨b, o + k * 2, none⟩ = some (.string xp) ∧ W.cell? ⟨b, o + k * 2 + 1, none⟩ = some (.string xr))
          (first | (with_reducible exact keep_3 hb3 (by assumption)) | (with_reducible exact keep_3 hb2 (by assumption)) | go_keep)
          (first
            | (go_at_call 22; (with_reducible refine (c1 _).mono ?_); rintro e w2 ⟨rfl, hb2⟩; have hB2 := hBd.trans (hb2.mono hBd.size))
            | (go_at_call 22; (with_reducible refine (c2 _).mono ?_); rintro e w3 ⟨rfl, hb3⟩; have hB3 := hB2.trans (hb3.mono hB2.size)))
        all_goals
          go_wp2
          go_roundw
          case rel => exact ⟨k + 1, d ++ ty5 ⟨xp, xr⟩, by omega, by simp, congrArg Value.string (by rw [show (⟨#[96]⟩ : ByteArray) = bs [96] from rfl, bs_app, bs_app, bs_app]; simp [ty5]), by rw [List.length_append]; omega, Lib.hid (by rw [HD.out, HX.out, List.flatMap_append]; simp), hB3⟩
          case measure => simp [intOf]; omega
    · obtain rfl : nt = k := by omega
      have HTY : Hid (d = types.flatMap ty5) := Lib.hid (by rw [HD.out, List.take_of_length_le (Nat.le_of_eq HNT.out)])
      have hBw := hB1.trans (hB.mono hB1.size)
      have hx := (hB.block _ (heap_inE hbox)).trans hbox
      have hBase := hBw
      clear hT hTi r1 HD
      go_wp2
      clear q0
      go_loopw [7, 8, 9] (fun sf sc i wr => ∃ (q : Nat) (df dco : List UInt8), q ≤ nf ∧ i = .int .i64 q ∧ sf = .string (bs df) ∧ sc = .string (bs dco) ∧ df.length ≤ 5 * q ∧ dco.length ≤ 30000000000 * q ∧ Hid (df = (funcs.take q).flatMap (fun f => putU f.type) ∧ dco = (funcs.take q).flatMap code5) ∧ Below w.heap.size w wr ∧ wr.heap[w.heap.size]? = some (.cells #[.slice tp nt tc, .slice fp nf fc, .slice mp nm mc, .slice gp ng gc, .slice ep ne ec, .int .i64 start, .slice dp nd dc] 29)) (fun _ _ i _ => nf - (intOf i).toNat)
      case atStart => exact ⟨0, [], [], by omega, rfl, rfl, rfl, by simp, by simp, Lib.hid ⟨by simp, by simp⟩, hBase, hx⟩
      case round =>
        clear hB hBw hBase hx
        obtain ⟨q, df, dco, hq, rfl, rfl, rfl, hdf, hdc, HD2, hB2, hx2⟩ := hrel
        have q1 : wr.cell? ⟨w.heap.size, 1, none⟩ = some (.slice fp nf fc) := by simp [World.cell?, hx2]
        by_cases hlt2 : q < nf
        · as_aux_lemma =>
            have hle : q < funcs.length := by have := HNF.out; omega
            have hr := hF.below hB2 (Nat.le_refl _)
            obtain ⟨fb, fo, hp1, hb1, e0⟩ := hr q hle 0 _ rfl
            subst hp1
            have e1 := hr.cell hle 1 rfl
            have e2 := hr.cell hle 2 rfl
            have hf := hFi _ (List.getElem_mem hle)
            have hrf := List.all_eq_true.1 r2 _ (List.getElem_mem hle)
            have hcl := hcode _ (List.getElem_mem hle)
            have HX : Hid (funcs.take (q + 1) = funcs.take q ++ [funcs[q]]) := Lib.hid (List.take_succ_eq_append_getElem hle)
            generalize funcs[q] = f at *
            obtain ⟨ft, flc, cp, cc, fcode⟩ := f
            unfold rightFn at hrf
            simp only [Bool.and_eq_true] at hrf
            obtain ⟨ra, ⟨rb, rc⟩, rd⟩ := hrf
            have hft : 0 ≤ ft ∧ ft < 4294967296 := by simpa [word4] using rb
            have c1 := fun W => ref5_num ft (by omega) (by omega) W
            have hl1 := putU_small hft.1 hft.2
            have s1 : ¬ 9223372036854775807 < (bs df).size + (bs (putU ft)).size := by rw [bs_size, bs_size]; omega
            simp only [Nat.add_zero] at e0
            obtain ⟨nc, hnc⟩ : ∃ n, fcode.length = n := ⟨_, rfl⟩
            have HNC := Lib.hid hnc
            simp only at e2
            rw [hnc] at hcl e2
            clear hr hF hFi hcode r2 HNF hnc rb rd
            go_wp2_with (go_at_call 23; refine (c1 _).mono ?_; rintro e w2 ⟨rfl, hb2⟩; have hB3 := hB2.trans (hb2.mono hB2.size); have hx3 := (hb2.block _ (heap_inE hx2)).trans hx2; have k1 := cell_belowE q1 hb2; have k2 := cell_belowE e2 hb2; have k3 := cell_belowE e1 hb2; clear q1 e0 e1 e2)
            have hSw := hB3.size
            obtain ⟨i0, hi, hz0, hz1, hz2⟩ := info_parts Tryz.info5
            go_loopw [10, 11] (fun v i wz => ∃ (j : Nat) (e : List UInt8) (vv : Value), vv = v ∧ j ≤ nc ∧ i = .int .i64 j ∧ wz.ownsRow w2.heap.size 5 1 vv e.length (e.map fun b => Value.int .u8 (b.toNat : Int)) ∧ e.length ≤ 20500 * j ∧ Hid (e = (fcode.take j).flatMap ins5) ∧ Below w2.heap.size w2 wz) (fun _ i _ => nc - (intOf i).toNat)
            case atStart => exact ⟨0, [], _, rfl, by omega, rfl, ⟨rfl, .inl ⟨rfl, rfl⟩⟩, by simp, Lib.hid (by simp), Below.refl _ _⟩
            case round =>
              obtain ⟨j, e, vv, rfl, hj, rfl, hown, he, HE, hB4⟩ := hrel
              have hx4 := (hB4.block _ (heap_inE hx3)).trans hx3
              have m1 := cell_belowE k1 hB4
              have m2 := cell_belowE k2 hB4
              have m3 := cell_belowE k3 hB4
              have hB5 := hB3.trans (hB4.mono hB3.size)
              by_cases hj2 : j < nc
              · as_aux_lemma =>
                  have hle2 : j < fcode.length := by have := HNC.out; omega
                  have hrC := hf.1.1.below hB5 (Nat.le_refl _)
                  obtain ⟨cb, co, hcp, hcb, z0⟩ := hrC j hle2 0 _ rfl
                  subst hcp
                  have z1 := hrC.cell hle2 1 rfl
                  have z2 := hrC.cell hle2 2 rfl
                  have z3 := hrC.cell hle2 3 rfl
                  have hxi := hf.1.2.1 _ (List.getElem_mem hle2)
                  have hri := List.all_eq_true.1 ra _ (List.getElem_mem hle2)
                  have HX2 : Hid (fcode.take (j + 1) = fcode.take j ++ [fcode[j]]) := Lib.hid (List.take_succ_eq_append_getElem hle2)
                  generalize fcode[j] = x at *
                  have hil := ins5_len hri hxi.2.2.2.1
                  have cI := ref5_ins x _ (hxi.below hB5 (Nat.le_refl _))
                  rw [hri] at cI
                  obtain ⟨l5, hl5⟩ : ∃ l5, l5 = ins5 x := ⟨_, rfl⟩
                  rw [← hl5] at cI hil
                  have HL5 := Lib.hid hl5
                  obtain ⟨op, a, b, lp, lc, ls⟩ := x
                  simp only [InsV.val, Nat.add_zero] at cI z0 z1 z2 z3
                  generalize ls.length = nl at *
                  have hsz : (bs l5).size ≤ 20500 := by rw [bs_size]; exact hil
                  clear hl5 hrC hf hri hxi ra hx4 HNC
                  go_wp2_with (first
                    | (go_at_call 12; refine cI.mono ?_; rintro e w3 ⟨rfl, hb3⟩; have hB6 := hB4.trans (hb3.mono hB4.size); have hown3 := own_below hown hb3; have hs3 := hb3.size)
                    | (at_builtin; refine Go.Lib.wpList_append_own_string _ rfl (.tmp 97) (.tmp 98) 56 9 rfl w2.heap.size 5 i0 Tryz.underlying56 Tryz.underlying9 hi hz0 hz1 hz2 _ e.length _ rfl hown3 (bs l5) rfl (by unfold maxLen; omega) (by omega) (by have := hB6.size; omega) ?_))
                  intro v' w4 hown' hgrow _
                  have hel : e.length + (bs l5).size = (e ++ l5).length := by rw [bs_size, List.length_append]
                  rw [strCells_bs, ← List.map_append, hel] at hown'
                  have hB7 : Below w2.heap.size w2 w4 := hB6.grown hgrow hB6.size (fun g hg => (own_ge5 hown3 g hg).1)
                  have HE2 : Hid (e ++ l5 = (fcode.take (j + 1)).flatMap ins5) := Lib.hid (by rw [HX2.out, List.flatMap_append, ← HE.out, HL5.out]; simp)
                  have he2 : (e ++ l5).length ≤ 20500 * (j + 1) := by rw [List.length_append]; rw [bs_size] at hsz; omega
                  clear hgrow hel HE HX2 HL5 hown3 hown
                  go_wp2
                  go_roundw
                  case rel => exact ⟨j + 1, e ++ l5, _, rfl, by omega, by simp, hown', he2, HE2, hB7⟩
                  case measure => simp [intOf]; omega
              · as_aux_lemma =>
                  obtain rfl : j = nc := by omega
                  have HEC : Hid (e = fcode.flatMap ins5) := Lib.hid (by rw [HE.out, List.take_of_length_le (Nat.le_of_eq HNC.out)])
                  have hfl := vtypes_len rc
                  rw [bs_len] at hfl
                  have c7 := fun W => ref5_runs flc (by omega) W
                  have hrl := runs5_len (s := flc.data.toList) (by rw [bs_len]; omega)
                  rw [bs_len] at hrl
                  have hd8 : (bs (runs5 flc.data.toList) ++ bs e).data.toList = runs5 flc.data.toList ++ e := by rw [bs_app]; simp [bs]
                  have c8 := fun W => ref5_text (bs (runs5 flc.data.toList) ++ bs e) (by rw [bs_app, bs_size, List.length_append]; omega) W
                  rw [hd8] at c8
                  have hz8 := txt5_len (s := runs5 flc.data.toList ++ e) (by rw [List.length_append]; omega)
                  rw [List.length_append] at hz8
                  have s7 : ¬ 9223372036854775807 < (bs (runs5 flc.data.toList)).size + (bs e).size := by rw [bs_size, bs_size]; omega
                  have s8 : ¬ 9223372036854775807 < (bs dco).size + (bs (txt5 (runs5 flc.data.toList ++ e))).size := by rw [bs_size, bs_size]; omega
                  have hcv := fun W (h : Below wr.heap.size wr W) => show _ = Result.ok (Value.string (bs e)) W from own_string (P := Tryz.prog) W 56 9 5 w2.heap.size 5 _ e Tryz.underlying56 Tryz.underlying5 Tryz.underlying9 (own_below hown h)
                  have hBq : Below wr.heap.size wr wr.drew := (Below.refl _ _).drew
                  have hcv0 := hcv wr.drew hBq
                  have HL8 : Hid ((dco ++ txt5 (runs5 flc.data.toList ++ e)).length ≤ 30000000000 * (q + 1)) := Lib.hid (by rw [List.length_append]; omega)
                  have HL7 : Hid ((df ++ putU ft).length ≤ 5 * (q + 1)) := Lib.hid (by rw [List.length_append]; omega)
                  have HD3 : Hid (df ++ putU ft = (funcs.take (q + 1)).flatMap (fun f => putU f.type) ∧ dco ++ txt5 (runs5 flc.data.toList ++ e) = (funcs.take (q + 1)).flatMap code5) := Lib.hid ⟨by rw [HX.out, List.flatMap_append, ← HD2.out.1]; simp, by rw [HX.out, List.flatMap_append, ← HD2.out.2, HEC.out]; simp [code5]⟩
                  have hBd := hB4.drew
                  have hx5 := hx4
                  clear hx4 hf ra rc HNC HE HEC HX HD2 hfl hrl hd8 hz8 he hdf hdc hown
                  go_wp2
                  go_region_held3 (fun W => W.cell? ⟨w.heap.size, 1, none⟩ = some (.slice (some ⟨fb, fo, none⟩) nf fc) ∧ W.cell? ⟨fb, fo + q * 3 + 1, none⟩ = some (.string flc) ∧ (convert 56 9 vv).run Tryz.prog W = Result.ok (Value.string (bs e)) W)
                    (first | (with_reducible exact ⟨m16, m36, hcv6⟩) | (with_reducible exact ⟨m15, m35, hcv5⟩) | (exact ⟨m1, m3, hcv0⟩) | go_keep)
                    (first
                      | (go_at_call 24; (with_reducible refine (c7 _).mono ?_); rintro e w5 ⟨rfl, hb5⟩; have hB5' := hBd.trans (hb5.mono hBd.size); have m15 := cell_belowE (W := wr.drew) m1 hb5; have m35 := cell_belowE (W := wr.drew) m3 hb5; have hcv5 := hcv w5 (hBq.trans (hb5.mono hBq.size)))
                      | (go_at_call 22; (with_reducible refine (c8 _).mono ?_); rintro e w6 ⟨rfl, hb6⟩; have hB6' := hB5'.trans (hb6.mono hB5'.size); have m16 := cell_belowE m15 hb6; have m36 := cell_belowE m35 hb6; have hcv6 := hcv w6 ((hBq.trans (hb5.mono hBq.size)).trans (hb6.mono (Nat.le_trans hBq.size hb5.size)))))
                  all_goals
                    go_wp2
                    go_roundw
                    case rel => exact ⟨q + 1, df ++ putU ft, dco ++ txt5 (runs5 flc.data.toList ++ e), by omega, by first | rfl | simp, congrArg Value.string (bs_app _ _), congrArg Value.string (bs_app _ _), HL7.out, HL8.out, HD3, hB3.trans (hB6'.mono hB3.size), (hB6'.block _ (heap_inE hx3)).trans hx3⟩
                    case measure => simp [intOf]; omega
        · obtain rfl : nf = q := by omega
          have HFD : Hid (df = funcs.flatMap (fun f => putU f.type) ∧ dco = funcs.flatMap code5) := Lib.hid (by
            have := HD2.out
            rwa [List.take_of_length_le (Nat.le_of_eq HNF.out)] at this)
          clear hF hFi hcode r2 HD2
          go_wp2
          go_loopw [14, 15] (fun s i wr => ∃ (j : Nat) (d : List UInt8), j ≤ nm ∧ i = .int .i64 j ∧ s = .string (bs d) ∧ d.length ≤ 11 * j ∧ Hid (d = (memory.take j).flatMap mem5) ∧ Below w.heap.size w wr ∧ wr.heap[w.heap.size]? = some (.cells #[.slice tp nt tc, .slice fp nf fc, .slice mp nm mc, .slice gp ng gc, .slice ep ne ec, .int .i64 start, .slice dp nd dc] 29)) (fun _ i _ => nm - (intOf i).toNat)
          case atStart => exact ⟨0, [], by omega, rfl, rfl, by simp, Lib.hid (by simp), (by assumption), (by assumption)⟩
          case round =>
            obtain ⟨j, dmemory, hj, rfl, rfl, hdmemory, HDmemory, hBmemory, hxmemory⟩ := hrel
            have q0 : wr.cell? ⟨w.heap.size, 2, none⟩ = some (.slice mp nm mc) := by simp [World.cell?, hxmemory]
            by_cases hlt : j < nm
            · as_aux_lemma =>
                have hle : j < memory.length := by have := HNM.out; omega
                have hr := hMe.below hBmemory (Nat.le_refl _)
                obtain ⟨b, o, hp1, hb1, e0⟩ := hr j hle 0 _ rfl
                subst hp1
                have e1 := hr.cell hle 1 rfl
                have hrm := List.all_eq_true.1 r3 _ (List.getElem_mem hle)
                have HX : Hid (memory.take (j + 1) = memory.take j ++ [memory[j]]) := Lib.hid (List.take_succ_eq_append_getElem hle)
                generalize memory[j] = x at *
                obtain ⟨xa, xb⟩ := x
                simp only [Nat.add_zero] at e0
                unfold rightMem word4 at hrm
                simp only [Bool.and_eq_true, Bool.or_eq_true, decide_eq_true_eq] at hrm
                have c1 := fun W => ref5_num xa (by omega) (by omega) W
                have l1 := putU_small (n := xa) (by omega) (by omega)
                have s1 : ¬ 9223372036854775807 < (bs dmemory).size + 1 := by rw [bs_size]; omega
                have s2 : ¬ 9223372036854775807 < (bs dmemory).size + 1 + (bs (putU xa)).size := by rw [bs_size, bs_size]; omega
                have hq := after_box hBmemory hxmemory (.cells #[.int .i64 xa, .int .i64 xb] 68)
                clear hr hMe hxmemory
                by_cases hm1 : xb = -1
                · subst hm1
                  have hl5 : (mem5 ⟨xa, -1⟩).length ≤ 11 := by unfold mem5; rw [if_pos rfl, List.length_append]; simp; omega
                  have he5 : mem5 ⟨xa, -1⟩ = [0] ++ putU xa := by unfold mem5; rw [if_pos rfl]
                  have HE5 := Lib.hid he5
                  clear he5 hrm
                  go_wp2_with (go_at_call 23; (with_reducible refine (c1 _).mono ?_); rintro e w2 ⟨rfl, hb2⟩; obtain ⟨hB2, hx2⟩ := hq.2 hb2)
                  go_roundw
                  case rel => exact ⟨j + 1, dmemory ++ mem5 ⟨xa, -1⟩, by omega, by simp, congrArg Value.string (by rw [show (⟨#[0]⟩ : ByteArray) = bs [0] from rfl, bs_app, bs_app, HE5.out]; simp), by rw [List.length_append]; omega, Lib.hid (by rw [HDmemory.out, HX.out, List.flatMap_append]; simp), hB2, hx2⟩
                  case measure => simp [intOf]; omega
                · have hm2 : (xb == -1) = false := beq_eq_false_iff_ne.2 hm1
                  have c2 := fun W => ref5_num xb (by omega) (by omega) W
                  have l2 := putU_small (n := xb) (by omega) (by omega)
                  have s3 : ¬ 9223372036854775807 < (bs dmemory).size + 1 + (bs (putU xa)).size + (bs (putU xb)).size := by rw [bs_size, bs_size, bs_size]; omega
                  have hl5 : (mem5 ⟨xa, xb⟩).length ≤ 11 := by unfold mem5; rw [if_neg hm1, List.length_append, List.length_append]; simp; omega
                  have he5 : mem5 ⟨xa, xb⟩ = [1] ++ putU xa ++ putU xb := by unfold mem5; rw [if_neg hm1]
                  have HE5 := Lib.hid he5
                  obtain ⟨hq0, hq2⟩ := hq
                  clear he5 hrm
                  go_wp2
                  generalize wr.alloc (.cells #[.int .i64 xa, .int .i64 xb] 68) = wa at *
                  have f0 : wa.cell? ⟨wr.heap.size, 0, none⟩ = some (.int .i64 xa) := by simp [World.cell?, hq0]
                  have f1 : wa.cell? ⟨wr.heap.size, 1, none⟩ = some (.int .i64 xb) := by simp [World.cell?, hq0]
                  go_region_held3 (fun W => W.cell? ⟨wr.heap.size, 0, none⟩ = some (.int .i64 xa) ∧ W.cell? ⟨wr.heap.size, 1, none⟩ = some (.int .i64 xb))
                    (first | (with_reducible exact keep_c2 hb4 (by assumption)) | (with_reducible exact keep_c2 hb3 (by assumption)) | go_keep)
                    (first
                      | (go_at_call 23; (with_reducible refine (c1 _).mono ?_); rintro e w3 ⟨rfl, hb3⟩)
                      | (go_at_call 23; (with_reducible refine (c2 _).mono ?_); rintro e w4 ⟨rfl, hb4⟩; obtain ⟨hB4, hx4⟩ := hq2 ((Below.refl _ wa).drew.trans (bel_t hb3 hb4))))
                  all_goals
                    go_wp2
                    go_roundw
                    case rel => exact ⟨j + 1, dmemory ++ mem5 ⟨xa, xb⟩, by omega, by simp, congrArg Value.string (by rw [show (⟨#[1]⟩ : ByteArray) = bs [1] from rfl, bs_app, bs_app, bs_app, HE5.out]; simp), by rw [List.length_append]; omega, Lib.hid (by rw [HDmemory.out, HX.out, List.flatMap_append]; simp), hB4, hx4⟩
                    case measure => simp [intOf]; omega
            · obtain rfl : nm = j := by omega
              have HFmemory : Hid (dmemory = memory.flatMap mem5) := Lib.hid (by have := HDmemory.out; rwa [List.take_of_length_le (Nat.le_of_eq HNM.out)] at this)
              have hdmemory' := hdmemory
              clear hMe r3 HDmemory
              go_wp2
              clear hlt hj q0
              go_loopw [17, 18] (fun s i wr => ∃ (j : Nat) (d : List UInt8), j ≤ ng ∧ i = .int .i64 j ∧ s = .string (bs d) ∧ d.length ≤ 20 * j ∧ Hid (d = (globals.take j).flatMap glob5) ∧ Below w.heap.size w wr ∧ wr.heap[w.heap.size]? = some (.cells #[.slice tp nt tc, .slice fp nf fc, .slice mp nm mc, .slice gp ng gc, .slice ep ne ec, .int .i64 start, .slice dp nd dc] 29)) (fun _ i _ => ng - (intOf i).toNat)
              case atStart => exact ⟨0, [], by omega, rfl, rfl, by simp, Lib.hid (by simp), hBmemory, hxmemory⟩
              case round =>
                obtain ⟨j, dglobals, hj, rfl, rfl, hdglobals, HDglobals, hBglobals, hxglobals⟩ := hrel
                have q0 : wr.cell? ⟨w.heap.size, 3, none⟩ = some (.slice gp ng gc) := by simp [World.cell?, hxglobals]
                by_cases hlt : j < ng
                · as_aux_lemma =>
                    have hle : j < globals.length := by have := HNG.out; omega
                    have hr := hG.below hBglobals (Nat.le_refl _)
                    obtain ⟨b, o, hp1, hb1, e0⟩ := hr j hle 0 _ rfl
                    subst hp1
                    have e1 := hr.cell hle 1 rfl
                    have e2 := hr.cell hle 2 rfl
                    have hrm := List.all_eq_true.1 r4 _ (List.getElem_mem hle)
                    have hin := hGi _ (List.getElem_mem hle)
                    have HX : Hid (globals.take (j + 1) = globals.take j ++ [globals[j]]) := Lib.hid (List.take_succ_eq_append_getElem hle)
                    generalize globals[j] = x at *
                    obtain ⟨xa, xm, xb⟩ := x
                    simp only [Nat.add_zero] at e0 hin
                    have ht : xa = 126 ∨ xa = 127 := by unfold rightGlob at hrm; simp only [Bool.and_eq_true, Bool.or_eq_true, decide_eq_true_eq] at hrm; omega
                    have hb6 : -9223372036854775808 ≤ xb ∧ xb ≤ 9223372036854775807 := hin.2
                    have c1 := fun W => ref5_one xa (by omega) (by omega) W
                    have c2 := fun W => ref5_const xa xb ht hb6.1 hb6.2 W
                    have l2 : (const5 xa xb).length ≤ 12 := by have := const5_len (k := xa) hb6.1 hb6.2; omega
                    have l1 := one5_len xa
                    have s1 : ¬ 9223372036854775807 < (bs dglobals).size + (bs (one5 xa)).size := by rw [bs_size, bs_size]; omega
                    have s2 : ¬ 9223372036854775807 < (bs dglobals).size + (bs (one5 xa)).size + 1 := by rw [bs_size, bs_size]; omega
                    have s3 : ¬ 9223372036854775807 < (bs dglobals).size + (bs (one5 xa)).size + 1 + (bs (const5 xa xb)).size := by rw [bs_size, bs_size, bs_size]; omega
                    have hq := after_box hBglobals hxglobals (.cells #[.int .i64 xa, .bool xm, .int .i64 xb] 70)
                    have hl5 : (glob5 ⟨xa, xm, xb⟩).length ≤ 20 := by unfold glob5; rw [List.length_append, List.length_append]; simp only [List.length_singleton]; omega
                    have HE5 : Hid (glob5 ⟨xa, xm, xb⟩ = one5 xa ++ [if xm then 1 else 0] ++ const5 xa xb) := Lib.hid rfl
                    clear hr hG hGi hrm hin hxglobals
                    cases xm
                    all_goals
                      go_wp2
                      generalize hwa : wr.alloc (.cells #[.int .i64 xa, .bool _, .int .i64 xb] 70) = wa at *
                      obtain ⟨hq0, hq2⟩ := hq
                      have f0 : wa.cell? ⟨wr.heap.size, 0, none⟩ = some (.int .i64 xa) := by simp [World.cell?, hq0]
                      have f1 : wa.cell? ⟨wr.heap.size, 2, none⟩ = some (.int .i64 xb) := by simp [World.cell?, hq0]
                      clear hwa hq0
                      go_region_held3 (fun W => W.cell? ⟨wr.heap.size, 0, none⟩ = some (.int .i64 xa) ∧ W.cell? ⟨wr.heap.size, 2, none⟩ = some (.int .i64 xb))
                        (first | (with_reducible exact keep_c2 hb4 (by assumption)) | (with_reducible exact keep_c2 hb3 (by assumption)) | go_keep)
                        (first
                          | (go_at_call 25; (with_reducible refine (c1 _).mono ?_); rintro e w3 ⟨rfl, hb3⟩)
                          | (go_at_call 26; (with_reducible refine (c2 _).mono ?_); rintro e w4 ⟨rfl, hb4⟩; obtain ⟨hB4, hx4⟩ := hq2 ((Below.refl _ wa).drew.trans (bel_t hb3 hb4))))
                      all_goals
                        go_wp2
                        go_roundw
                        case rel => exact ⟨j + 1, dglobals ++ glob5 ⟨xa, _, xb⟩, by omega, by simp, congrArg Value.string (by (first | rw [show (⟨#[0]⟩ : ByteArray) = bs [0] from rfl] | rw [show (⟨#[1]⟩ : ByteArray) = bs [1] from rfl]); rw [bs_app, bs_app, bs_app, HE5.out]; simp), by rw [List.length_append]; omega, Lib.hid (by rw [HDglobals.out, HX.out, List.flatMap_append]; simp), hB4, hx4⟩
                        case measure => simp [intOf]; omega
                · obtain rfl : ng = j := by omega
                  have HFglobals : Hid (dglobals = globals.flatMap glob5) := Lib.hid (by have := HDglobals.out; rwa [List.take_of_length_le (Nat.le_of_eq HNG.out)] at this)
                  have hdglobals' := hdglobals
                  clear hG r4 hGi HDglobals
                  go_wp2
                  clear hlt hj q0
                  go_loopw [21, 22] (fun s i wr => ∃ (j : Nat) (d : List UInt8), j ≤ ne ∧ i = .int .i64 j ∧ s = .string (bs d) ∧ d.length ≤ 140737488351300 * j ∧ Hid (d = (exports.take j).flatMap exp5) ∧ Below w.heap.size w wr ∧ wr.heap[w.heap.size]? = some (.cells #[.slice tp nt tc, .slice fp nf fc, .slice mp nm mc, .slice gp ng gc, .slice ep ne ec, .int .i64 start, .slice dp nd dc] 29)) (fun _ i _ => ne - (intOf i).toNat)
                  case atStart => exact ⟨0, [], by omega, rfl, rfl, by simp, Lib.hid (by simp), hBglobals, hxglobals⟩
                  case round =>
                    obtain ⟨j, dexports, hj, rfl, rfl, hdexports, HDexports, hBexports, hxexports⟩ := hrel
                    have q0 : wr.cell? ⟨w.heap.size, 4, none⟩ = some (.slice ep ne ec) := by simp [World.cell?, hxexports]
                    by_cases hlt : j < ne
                    · as_aux_lemma =>
                        have hle : j < exports.length := by have := HNE.out; omega
                        have hr := hE.below hBexports (Nat.le_refl _)
                        obtain ⟨b, o, hp1, hb1, e0⟩ := hr j hle 0 _ rfl
                        subst hp1
                        have e1 := hr.cell hle 1 rfl
                        have e2 := hr.cell hle 2 rfl
                        have hrm := List.all_eq_true.1 r5 _ (List.getElem_mem hle)
                        have hnm := hnames _ (List.getElem_mem hle)
                        have hin := hEi _ (List.getElem_mem hle)
                        have HX : Hid (exports.take (j + 1) = exports.take j ++ [exports[j]]) := Lib.hid (List.take_succ_eq_append_getElem hle)
                        generalize exports[j] = x at *
                        obtain ⟨xn, xk, xi⟩ := x
                        simp only [Nat.add_zero] at e0 hin hnm
                        unfold rightExp word4 at hrm
                        simp only [Bool.and_eq_true, decide_eq_true_eq] at hrm
                        have c1 := fun W => ref5_text xn (by omega) W
                        have c2 := fun W => ref5_one xk (by omega) (by omega) W
                        have c3 := fun W => ref5_num xi (by omega) (by omega) W
                        have l1 := txt5_len (s := xn.data.toList) (by rw [bs_len]; omega)
                        rw [bs_len] at l1
                        have l2 := one5_len xk
                        have l3 := putU_small (n := xi) (by omega) (by omega)
                        have s1 : ¬ 9223372036854775807 < (bs dexports).size + (bs (txt5 xn.data.toList)).size := by rw [bs_size, bs_size]; omega
                        have s2 : ¬ 9223372036854775807 < (bs dexports).size + (bs (txt5 xn.data.toList)).size + (bs (one5 xk)).size := by rw [bs_size, bs_size, bs_size]; omega
                        have s3 : ¬ 9223372036854775807 < (bs dexports).size + (bs (txt5 xn.data.toList)).size + (bs (one5 xk)).size + (bs (putU xi)).size := by rw [bs_size, bs_size, bs_size, bs_size]; omega
                        have hq := after_box hBexports hxexports (.cells #[.string xn, .int .i64 xk, .int .i64 xi] 48)
                        have hl5 : (exp5 ⟨xn, xk, xi⟩).length ≤ 140737488351300 := by unfold exp5; simp only [List.length_append]; omega
                        have HE5 : Hid (exp5 ⟨xn, xk, xi⟩ = txt5 xn.data.toList ++ one5 xk ++ putU xi) := Lib.hid rfl
                        clear hr hE hEi hrm hin hnames hxexports
                        go_wp2
                        generalize hwa : wr.alloc (.cells #[.string xn, .int .i64 xk, .int .i64 xi] 48) = wa at *
                        obtain ⟨hq0, hq2⟩ := hq
                        have f0 : wa.cell? ⟨wr.heap.size, 0, none⟩ = some (.string xn) := by simp [World.cell?, hq0]
                        have f1 : wa.cell? ⟨wr.heap.size, 1, none⟩ = some (.int .i64 xk) := by simp [World.cell?, hq0]
                        have f2 : wa.cell? ⟨wr.heap.size, 2, none⟩ = some (.int .i64 xi) := by simp [World.cell?, hq0]
                        clear hwa hq0
                        go_region_held3 (fun W => W.cell? ⟨wr.heap.size, 0, none⟩ = some (.string xn) ∧ W.cell? ⟨wr.heap.size, 1, none⟩ = some (.int .i64 xk) ∧ W.cell? ⟨wr.heap.size, 2, none⟩ = some (.int .i64 xi))
                          (first | (with_reducible exact keep_3 hb5 (by assumption)) | (with_reducible exact keep_3 hb4 (by assumption)) | (with_reducible exact keep_3 hb3 (by assumption)) | go_keep)
                          (first
                            | (go_at_call 22; (with_reducible refine (c1 _).mono ?_); rintro e w3 ⟨rfl, hb3⟩)
                            | (go_at_call 25; (with_reducible refine (c2 _).mono ?_); rintro e w4 ⟨rfl, hb4⟩)
                            | (go_at_call 23; (with_reducible refine (c3 _).mono ?_); rintro e w5 ⟨rfl, hb5⟩; obtain ⟨hB4, hx4⟩ := hq2 ((Below.refl _ wa).drew.trans (bel_t hb3 (bel_t hb4 hb5)))))
                        all_goals
                          go_wp2
                          go_roundw
                          case rel => exact ⟨j + 1, dexports ++ exp5 ⟨xn, xk, xi⟩, by omega, by simp, congrArg Value.string (by rw [bs_app, bs_app, bs_app, HE5.out]; simp), by rw [List.length_append]; omega, Lib.hid (by rw [HDexports.out, HX.out, List.flatMap_append]; simp), hB4, hx4⟩
                          case measure => simp [intOf]; omega
                    · obtain rfl : ne = j := by omega
                      have HFexports : Hid (dexports = exports.flatMap exp5) := Lib.hid (by have := HDexports.out; rwa [List.take_of_length_le (Nat.le_of_eq HNE.out)] at this)
                      have hdexports' := hdexports
                      clear hE r5 hEi HDexports
                      have q5 : wr.cell? ⟨w.heap.size, 5, none⟩ = some (.int .i64 start) := by simp [World.cell?, hxexports]
                      have hst2 : start = -1 ∨ (0 ≤ start ∧ start < 4294967296) := by have := few7; unfold word4 at this; simpa only [decide_eq_true_eq] using this
                      have hstl := start5_len hst2
                      go_upto_if 198 with fail
                      go_cut [1, 5, 7, 8, 14, 17, 21, 24] from 25 (fun a1 a5 a7 a8 a14 a17 a21 a24 W => a1 = .pointer (some ⟨w.heap.size, 0, none⟩) ∧ a5 = .string (bs d) ∧ a7 = .string (bs df) ∧ a8 = .string (bs dco) ∧ a14 = .string (bs dmemory) ∧ a17 = .string (bs dglobals) ∧ a21 = .string (bs dexports) ∧ a24 = .string (bs (start5 start)) ∧ Below w.heap.size w W ∧ W.heap[w.heap.size]? = some (.cells #[.slice tp nt tc, .slice fp nf fc, .slice mp nm mc, .slice gp ng gc, .slice ep ne ec, .int .i64 start, .slice dp nd dc] 29))
                      case first =>
                        as_aux_lemma =>
                          by_cases hs1 : start = -1
                          · have hs2 : (start != -1) = false := by simpa using hs1
                            go_wp2
                            go_meet
                            exact ⟨rfl, rfl, rfl, rfl, rfl, rfl, rfl, by unfold start5; rw [if_pos hs1]; rfl, hBexports, hxexports⟩
                          · have hs2 : (start != -1) = true := by simpa using hs1
                            have c1 := fun W => ref5_one 8 (by omega) (by omega) W
                            have c2 := fun W => ref5_num start (by omega) (by omega) W
                            have l2 := putU_small (n := start) (by omega) (by omega)
                            have hdt : (bs (putU start)).data.toList = putU start := by simp [bs]
                            have c3 := fun W => ref5_text (bs (putU start)) (by rw [bs_size]; omega) W
                            rw [hdt] at c3
                            have l3 := txt5_len (s := putU start) (by omega)
                            have s1 : ¬ 9223372036854775807 < (bs (one5 8)).size + (bs (txt5 (putU start))).size := by rw [bs_size, bs_size, one5_len]; omega
                            clear hdt
                            have hBd := hBexports.drew
                            go_wp2
                            go_region_held3 (fun W => W.cell? ⟨w.heap.size, 5, none⟩ = some (.int .i64 start))
                              (first | (with_reducible exact cell_belowE (by assumption) hb5) | (with_reducible exact cell_belowE (by assumption) hb4) | (with_reducible exact cell_belowE (by assumption) hb3) | go_keep)
                              (first
                                | (go_at_call 25; (with_reducible refine (c1 _).mono ?_); rintro e w3 ⟨rfl, hb3⟩)
                                | (go_at_call 23; (with_reducible refine (c2 _).mono ?_); rintro e w4 ⟨rfl, hb4⟩)
                                | (go_at_call 22; (with_reducible refine (c3 _).mono ?_); rintro e w5 ⟨rfl, hb5⟩; have hB5 := (Below.refl _ wr).drew.trans (bel_t hb3 (bel_t hb4 hb5))))
                            all_goals
                              go_wp2
                              go_meet
                              exact ⟨rfl, rfl, rfl, rfl, rfl, rfl, rfl, by unfold start5; rw [if_neg hs1, bs_app], hBexports.trans (hB5.mono hBexports.size), (hB5.block _ (heap_inE hxexports)).trans hxexports⟩
                      case rest =>
                        obtain ⟨rfl, rfl, rfl, rfl, rfl, rfl, rfl, rfl, hBs, hxs⟩ := hcut
                        go_wp2
                        go_loopw [25, 26] (fun s i wr => ∃ (j : Nat) (d : List UInt8), j ≤ nd ∧ i = .int .i64 j ∧ s = .string (bs d) ∧ d.length ≤ 140737488351300 * j ∧ Hid (d = (data.take j).flatMap dat5) ∧ Below w.heap.size w wr ∧ wr.heap[w.heap.size]? = some (.cells #[.slice tp nt tc, .slice fp nf fc, .slice mp nm mc, .slice gp ng gc, .slice ep ne ec, .int .i64 start, .slice dp nd dc] 29)) (fun _ i _ => nd - (intOf i).toNat)
                        case atStart => exact ⟨0, [], by omega, rfl, rfl, by simp, Lib.hid (by simp), hBs, hxs⟩
                        case round =>
                          obtain ⟨j, ddata, hj, rfl, rfl, hddata, HDdata, hBdata, hxdata⟩ := hrel
                          have q0 : wr.cell? ⟨w.heap.size, 6, none⟩ = some (.slice dp nd dc) := by simp [World.cell?, hxdata]
                          by_cases hlt : j < nd
                          · as_aux_lemma =>
                              have hle : j < data.length := by have := HND.out; omega
                              have hr := hD.below hBdata (Nat.le_refl _)
                              obtain ⟨b, o, hp1, hb1, e0⟩ := hr j hle 0 _ rfl
                              subst hp1
                              have e1 := hr.cell hle 1 rfl
                              have hrm := List.all_eq_true.1 r6 _ (List.getElem_mem hle)
                              have hnm := htexts _ (List.getElem_mem hle)
                              have hin := hDi _ (List.getElem_mem hle)
                              have HX : Hid (data.take (j + 1) = data.take j ++ [data[j]]) := Lib.hid (List.take_succ_eq_append_getElem hle)
                              generalize data[j] = x at *
                              obtain ⟨xo, xs⟩ := x
                              simp only [Nat.add_zero] at e0 hin hnm
                              have hb6 : -9223372036854775808 ≤ xo ∧ xo ≤ 9223372036854775807 := hin.1
                              have c1 := fun W => ref5_const 127 xo (.inr rfl) hb6.1 hb6.2 W
                              have c2 := fun W => ref5_text xs (by omega) W
                              have l1 : (const5 127 xo).length ≤ 12 := by have := const5_len (k := 127) hb6.1 hb6.2; omega
                              have l2 := txt5_len (s := xs.data.toList) (by rw [bs_len]; omega)
                              rw [bs_len] at l2
                              have s1 : ¬ 9223372036854775807 < (bs ddata).size + 1 := by rw [bs_size]; omega
                              have s2 : ¬ 9223372036854775807 < (bs ddata).size + 1 + (bs (const5 127 xo)).size := by rw [bs_size, bs_size]; omega
                              have s3 : ¬ 9223372036854775807 < (bs ddata).size + 1 + (bs (const5 127 xo)).size + (bs (txt5 xs.data.toList)).size := by rw [bs_size, bs_size, bs_size]; omega
                              have hl5 : (dat5 ⟨xo, xs⟩).length ≤ 140737488351300 := by unfold dat5; simp only [List.length_append, List.length_singleton]; omega
                              have HE5 : Hid (dat5 ⟨xo, xs⟩ = [0] ++ const5 127 xo ++ txt5 xs.data.toList) := Lib.hid rfl
                              have hBd := hBdata.drew
                              clear hr hD hDi hrm hin htexts
                              go_wp2
                              go_region_held3 (fun W => W.cell? ⟨w.heap.size, 6, none⟩ = some (.slice (some ⟨b, o, none⟩) nd dc) ∧ W.cell? ⟨b, o + j * 2, none⟩ = some (.int .i64 xo) ∧ W.cell? ⟨b, o + j * 2 + 1, none⟩ = some (.string xs))
                                (first | (with_reducible exact keep_3 hb4 (by assumption)) | (with_reducible exact keep_3 hb3 (by assumption)) | go_keep)
                                (first
                                  | (go_at_call 26; (with_reducible refine (c1 _).mono ?_); rintro e w3 ⟨rfl, hb3⟩)
                                  | (go_at_call 22; (with_reducible refine (c2 _).mono ?_); rintro e w4 ⟨rfl, hb4⟩; have hB4 := (Below.refl _ wr).drew.trans (bel_t hb3 hb4)))
                              all_goals
                                go_wp2
                                go_roundw
                                case rel => exact ⟨j + 1, ddata ++ dat5 ⟨xo, xs⟩, by omega, by simp, congrArg Value.string (by rw [show (⟨#[0]⟩ : ByteArray) = bs [0] from rfl, bs_app, bs_app, bs_app, HE5.out]; simp), by rw [List.length_append]; omega, Lib.hid (by rw [HDdata.out, HX.out, List.flatMap_append]; simp), hBdata.trans (hB4.mono hBdata.size), (hB4.block _ (heap_inE hxdata)).trans hxdata⟩
                                case measure => simp [intOf]; omega
                          · obtain rfl : nd = j := by omega
                            have HFdata : Hid (ddata = data.flatMap dat5) := Lib.hid (by have := HDdata.out; rwa [List.take_of_length_le (Nat.le_of_eq HND.out)] at this)
                            have hddata' := hddata
                            clear hD r6 hDi HDdata
                            go_wp2
                            clear hlt hj q0
                            have c0 := fun W => ref5_section 1 (by omega) nt (by omega) d (by omega) W
                            have L0 := sect5_len (id := 1) (n := nt) (s := d) (by omega) (by omega)
                            have c1 := fun W => ref5_section 3 (by omega) nf (by omega) df (by omega) W
                            have L1 := sect5_len (id := 3) (n := nf) (s := df) (by omega) (by omega)
                            have c2 := fun W => ref5_section 5 (by omega) nm (by omega) dmemory (by omega) W
                            have L2 := sect5_len (id := 5) (n := nm) (s := dmemory) (by omega) (by omega)
                            have c3 := fun W => ref5_section 6 (by omega) ng (by omega) dglobals (by omega) W
                            have L3 := sect5_len (id := 6) (n := ng) (s := dglobals) (by omega) (by omega)
                            have c4 := fun W => ref5_section 7 (by omega) ne (by omega) dexports (by omega) W
                            have L4 := sect5_len (id := 7) (n := ne) (s := dexports) (by omega) (by omega)
                            have c5 := fun W => ref5_section 10 (by omega) nf (by omega) dco (by omega) W
                            have L5 := sect5_len (id := 10) (n := nf) (s := dco) (by omega) (by omega)
                            have c6 := fun W => ref5_section 11 (by omega) nd (by omega) ddata (by omega) W
                            have L6 := sect5_len (id := 11) (n := nd) (s := ddata) (by omega) (by omega)
                            have LS := hstl
                            generalize hS0 : sect5 1 nt d = S0 at c0 L0
                            generalize hS1 : sect5 3 nf df = S1 at c1 L1
                            generalize hS2 : sect5 5 nm dmemory = S2 at c2 L2
                            generalize hS3 : sect5 6 ng dglobals = S3 at c3 L3
                            generalize hS4 : sect5 7 ne dexports = S4 at c4 L4
                            generalize hS5 : sect5 10 nf dco = S5 at c5 L5
                            generalize hS6 : sect5 11 nd ddata = S6 at c6 L6
                            generalize hS7 : start5 start = S7 at *
                            have s0 : ¬ 9223372036854775807 < 8 + (bs S0).size := by simp only [bs_size]; omega
                            have s1 : ¬ 9223372036854775807 < 8 + (bs S0).size + (bs S1).size := by simp only [bs_size]; omega
                            have s2 : ¬ 9223372036854775807 < 8 + (bs S0).size + (bs S1).size + (bs S2).size := by simp only [bs_size]; omega
                            have s3 : ¬ 9223372036854775807 < 8 + (bs S0).size + (bs S1).size + (bs S2).size + (bs S3).size := by simp only [bs_size]; omega
                            have s4 : ¬ 9223372036854775807 < 8 + (bs S0).size + (bs S1).size + (bs S2).size + (bs S3).size + (bs S4).size := by simp only [bs_size]; omega
                            have s5 : ¬ 9223372036854775807 < 8 + (bs S0).size + (bs S1).size + (bs S2).size + (bs S3).size + (bs S4).size + (bs S7).size := by simp only [bs_size]; omega
                            have s6 : ¬ 9223372036854775807 < 8 + (bs S0).size + (bs S1).size + (bs S2).size + (bs S3).size + (bs S4).size + (bs S7).size + (bs S5).size := by simp only [bs_size]; omega
                            have s7 : ¬ 9223372036854775807 < 8 + (bs S0).size + (bs S1).size + (bs S2).size + (bs S3).size + (bs S4).size + (bs S7).size + (bs S5).size + (bs S6).size := by simp only [bs_size]; omega
                            have q0 : wr.cell? ⟨w.heap.size, 0, none⟩ = some (.slice tp nt tc) := by simp [World.cell?, hxdata]
                            have q1 : wr.cell? ⟨w.heap.size, 1, none⟩ = some (.slice fp nf fc) := by simp [World.cell?, hxdata]
                            have q2 : wr.cell? ⟨w.heap.size, 2, none⟩ = some (.slice mp nm mc) := by simp [World.cell?, hxdata]
                            have q3 : wr.cell? ⟨w.heap.size, 3, none⟩ = some (.slice gp ng gc) := by simp [World.cell?, hxdata]
                            have q4 : wr.cell? ⟨w.heap.size, 4, none⟩ = some (.slice ep ne ec) := by simp [World.cell?, hxdata]
                            have q6 : wr.cell? ⟨w.heap.size, 6, none⟩ = some (.slice dp nd dc) := by simp [World.cell?, hxdata]
                            have hRR : R = if 1048576 < ([0, 97, 115, 109, 1, 0, 0, 0] ++ S0 ++ S1 ++ S2 ++ S3 ++ S4 ++ S7 ++ S5 ++ S6).length then ([], 5) else ([0, 97, 115, 109, 1, 0, 0, 0] ++ S0 ++ S1 ++ S2 ++ S3 ++ S4 ++ S7 ++ S5 ++ S6, 0) := by
                              have h := HR.out
                              simp only [if_true] at h
                              rw [HNT.out, HNF.out, HNM.out, HNG.out, HNE.out, HND.out, ← HTY.out, ← HFD.out.1, ← HFD.out.2, ← HFmemory.out, ← HFglobals.out, ← HFexports.out, ← HFdata.out, hS0, hS1, hS2, hS3, hS4, hS5, hS6] at h
                              exact h
                            have HRR := Lib.hid hRR
                            clear hRR HR HNT HNF HNM HNG HNE HND HTY HFD HFmemory HFglobals HFexports HFdata hS0 hS1 hS2 hS3 hS4 hS5 hS6 hS7
                            go_upto_region 53 with fail
                            go_cut [27] from 28 (fun a27 W => a27 = .string (bs ([0, 97, 115, 109, 1, 0, 0, 0] ++ S0 ++ S1 ++ S2 ++ S3 ++ S4 ++ S7 ++ S5 ++ S6)) ∧ Below w.heap.size w W)
                            case first =>
                              as_aux_lemma =>
                                have hBd := hBdata.drew
                                go_region_held3 (fun W => W.cell? ⟨w.heap.size, 0, none⟩ = some (.slice tp nt tc) ∧ W.cell? ⟨w.heap.size, 1, none⟩ = some (.slice fp nf fc) ∧ W.cell? ⟨w.heap.size, 2, none⟩ = some (.slice mp nm mc) ∧ W.cell? ⟨w.heap.size, 3, none⟩ = some (.slice gp ng gc) ∧ W.cell? ⟨w.heap.size, 4, none⟩ = some (.slice ep ne ec) ∧ W.cell? ⟨w.heap.size, 6, none⟩ = some (.slice dp nd dc))
                                  (first | (with_reducible exact keep_c6 hb9 (by assumption)) | (with_reducible exact keep_c6 hb8 (by assumption)) | (with_reducible exact keep_c6 hb7 (by assumption)) | (with_reducible exact keep_c6 hb6 (by assumption)) | (with_reducible exact keep_c6 hb5 (by assumption)) | (with_reducible exact keep_c6 hb4 (by assumption)) | (with_reducible exact keep_c6 hb3 (by assumption)) | go_keep)
                                  (first
                                    | (go_at_call 27; (with_reducible refine (c0 _).mono ?_); rintro e w3 ⟨rfl, hb3⟩)
                                    | (go_at_call 27; (with_reducible refine (c1 _).mono ?_); rintro e w4 ⟨rfl, hb4⟩)
                                    | (go_at_call 27; (with_reducible refine (c2 _).mono ?_); rintro e w5 ⟨rfl, hb5⟩)
                                    | (go_at_call 27; (with_reducible refine (c3 _).mono ?_); rintro e w6 ⟨rfl, hb6⟩)
                                    | (go_at_call 27; (with_reducible refine (c4 _).mono ?_); rintro e w7 ⟨rfl, hb7⟩)
                                    | (go_at_call 27; (with_reducible refine (c5 _).mono ?_); rintro e w8 ⟨rfl, hb8⟩)
                                    | (go_at_call 27; (with_reducible refine (c6 _).mono ?_); rintro e w9 ⟨rfl, hb9⟩; have hB9 := (Below.refl _ wr).drew.trans (bel_t hb3 (bel_t hb4 (bel_t hb5 (bel_t hb6 (bel_t hb7 (bel_t hb8 hb9))))))))
                                all_goals
                                  go_wp2_with fail
                                  go_meet
                                  exact ⟨congrArg Value.string (by rw [show (⟨#[0, 97, 115, 109, 1, 0, 0, 0]⟩ : ByteArray) = bs [0, 97, 115, 109, 1, 0, 0, 0] from rfl]; simp only [bs_app]), hBdata.trans (hB9.mono hBdata.size)⟩
                            case rest =>
                              obtain ⟨rfl, hBz⟩ := hcut
                              generalize [0, 97, 115, 109, 1, 0, 0, 0] ++ S0 ++ S1 ++ S2 ++ S3 ++ S4 ++ S7 ++ S5 ++ S6 = Z at *
                              by_cases hz : 1048576 < Z.length
                              · have hz1 : (1048576 : Int) < ((bs Z).size : Nat) := by rw [bs_size]; omega
                                have hRz := HRR.out
                                rw [if_pos hz] at hRz
                                have HRz := Lib.hid hRz
                                clear HRR hRz
                                go_wp2
                                go_ret2
                                exact ⟨by rw [HRz.out]; rfl, hBz⟩
                              · have hz1 : ¬ (1048576 : Int) < ((bs Z).size : Nat) := by rw [bs_size]; omega
                                have hRz := HRR.out
                                rw [if_neg hz] at hRz
                                have HRz := Lib.hid hRz
                                clear HRR hRz
                                go_wp2
                                go_ret2
                                exact ⟨by rw [HRz.out]; rfl, hBz⟩
end Go.Proofs.YtieogmalgmgkeaaGreatDoor
