/-
  Package dec's body: a function's code, walked. Contracts that the proofs call; no statement is proved here.
-/
import Derived.Test.YthfipknfdnfalaaGreatDoorKaDecLoc
import Derived.Deep.LoopGhost
namespace Go.Proofs.YthfipknfdnfalaaGreatDoor
open Go.RowKit
set_option linter.unusedVariables false
theorem nestR_at (r : RV) (q : List Int) (c : Int) : (nestR r q c).s = r.s ∧ (nestR r q c).pos = r.pos ∧ ((nestR r q c).e = 0 → r.e = 0) := by
  unfold nestR
  split
  · exact ⟨rfl, rfl, fun h => absurd h (bad_e (by decide))⟩
  · exact ⟨rfl, rfl, id⟩
theorem nestQ_len (q : List Int) (c : Int) : (nestQ q c).length ≤ q.length + 1 := by
  unfold nestQ
  split
  · simp
  · split
    · simp
    · split
      · simp; omega
      · omega
theorem insrow_one (x : InsV) : ∀ u ∈ x.row, u.oneCell' = true := by intro u hu; simp [InsV.row] at hu; rcases hu with rfl | rfl | rfl | rfl <;> rfl
set_option maxRecDepth 100000 in
set_option maxHeartbeats 8000000 in
theorem body_reads {w0 : World} (hLaid : Laid w0) {B M : Nat} {T : TypeId} {rest : List Value} {r : RV} {w : World} (h : RdAt w0 B M T rest r w) (hsz : r.s.size ≤ 1048576) :
    Calls Tryz.prog 287 #[.pointer (some ⟨B, 0, none⟩)] w (DidBody w0 B M T rest r w) := by
  obtain ⟨i0, hi, hz0, hz1, hz2⟩ := info_parts info_instr
  have hS := BodyMem.start h
  have hG := Lib.hid (Going.start r)
  obtain ⟨n0, hn0⟩ : ∃ n0, n0 = r.s.size + 1 := ⟨_, rfl⟩
  clear h
  go_enter Tryz.func287, Tryz.ntmps287
  go_wp2
  go_loopg [3, 4] n0 (fun gg v o wr => ∃ (rk : RV) (l : List InsV) (q : List Int), BodyMem w0 w B M T rest rk v o l l q wr ∧ Hid (Going r rk (l.map InsV.bare) q) ∧ rk.s = r.s ∧ (rk.e = 0 → r.s.size + 1 ≤ gg + rk.pos ∧ l.length ≤ rk.pos) ∧ l.length ≤ 1048577 ∧ q.length ≤ l.length + 1)
  case atStart => exact ⟨r, [], [2], hS, hG, rfl, fun _ => ⟨by omega, Nat.zero_le _⟩, by simp, by simp⟩
  case round =>
    clear hS hG
    obtain ⟨rk, l, q, hS, hG, hrs, he, hl, hq⟩ := hrel
    obtain ⟨vp, vc, rfl⟩ := own_any6 hS.own
    obtain ⟨op, oc, rfl⟩ := own_any6 hS.opn
    obtain ⟨x0, x1, x2, x3, y0, y1, y2, y3⟩ := hS.rd.reads
    by_cases hq0 : q = []
    · subst hq0
      have hdone := hG.out.done (.inl rfl)
      have HD := Lib.hid hdone
      clear hdone he
      go_wp2
      go_ret
      exact ⟨l, rk, _, rfl, HD.out, hS.rd, hS.mov, hS.own, hS.ins, hl⟩
    have hql : (0 : Int) < (q.length : Int) := by have := List.length_pos_iff.2 hq0; omega
    by_cases he0 : rk.e = 0
    · obtain ⟨hm1, hm2⟩ := he he0
      have hpos := hS.rd.pos
      rw [hrs] at hpos
      have c1 := instr_reads hLaid hS.rd
      rw [he0] at x2
      have HE := Lib.hid he0
      have HQ := Lib.hid hq0
      clear he he0 hq0
      go_wp2_with fail
      refine c1.mono ?_
      rintro e w1 ⟨x, r1, rfl, g1, h1, m1, new1⟩
      have hS1 := hS.instr m1 h1 new1
      have HG1 := Lib.hid g1
      clear c1 hS x0 x1 x2 x3 y0 y1 y2 y3 g1 h1 m1 new1
      have hlv : ∀ g, (Value.slice vp l.length vc).ownBlock = some g → g < w1.heap.size := fun g hg => (own_lt6 hS1.own g hg).2
      have m2 : Mov B M w1 ((w1.alloc (.cells x.row.toArray 46)).alloc (.cells x.row.toArray 46)) := ((Mov.refl B M w1).alloc _).alloc _
      have hS3 := hS1.call m2 ((hS1.rd.alloc (.cells x.row.toArray 46)).alloc (.cells x.row.toArray 46))
      have hb3 : ((w1.alloc (.cells x.row.toArray 46)).alloc (.cells x.row.toArray 46)).heap[w1.heap.size]? = some (.cells x.row.toArray 46) := (Below.heap_alloc _ _ _ (by simp)).trans (heap_alloc_new w1 _)
      have hc3 : ∀ j u, x.row[j]? = some u → ((w1.alloc (.cells x.row.toArray 46)).alloc (.cells x.row.toArray 46)).cell? ((⟨w1.heap.size + 1, 0, none⟩ : Addr).add j) = some u := by
        have := cells_new6 (w1.alloc (.cells x.row.toArray 46)) x.row 46
        rwa [show (w1.alloc (.cells x.row.toArray 46)).heap.size = w1.heap.size + 1 by simp] at this
      have hsz3 : w.heap.size ≤ ((w1.alloc (.cells x.row.toArray 46)).alloc (.cells x.row.toArray 46)).heap.size := hS3.mov.size
      have hl3 : w1.heap.size < ((w1.alloc (.cells x.row.toArray 46)).alloc (.cells x.row.toArray 46)).heap.size := in_heap6 hb3
      have hz3 : ((w1.alloc (.cells x.row.toArray 46)).alloc (.cells x.row.toArray 46)).heap.size = w1.heap.size + 1 + 1 := by simp
      clear m2 hS1
      unfold InsV.val
      unfold InsV.row at hS3 hb3 hc3 hsz3 hl3 hz3
      dsimp only [List.toArray] at hS3 hb3 hc3 hsz3 hl3 hz3
      have HZ := Lib.hid hz3
      clear hz3
      go_wp2_with (at_builtin; refine wpList_append_own_at _ rfl (.tmp 19) (.tmp 21) 68 rfl w.heap.size 46 i0 (.agg #[.int .i64 0, .int .i64 0, .int .i64 0, .slice none 0 0]) 4 48 Tryz.underlying68 hi hz0 hz1 hz2 rfl (by decide) (.slice vp l.length vc) l.length (l.flatMap InsV.row) rfl hS3.own ⟨w1.heap.size + 1, 0, none⟩ 1 1 x.row rfl rfl hc3 (insrow_one x) (by unfold maxLen; omega) (by omega) hsz3 ?_)
      intro v' w4 hown4 hg4 _ hv4
      rw [← HZ.out] at hv4
      have hS4 := hS3.more hown4 hg4 hv4
      have hb4 := (hg4.block w1.heap.size hl3 (fun e => by have := hlv w1.heap.size e.symm; omega)).trans hb3
      obtain ⟨z0, z1, z2, z3, z4, _⟩ := (box_at hb4).2.2.2.2
      clear z1 z2 z3 z4 hS3 hc3 hb3 hown4 hg4 hv4 hlv hb4
      have c2 := nest_reads hS4.rd w.heap.size q HQ.out (.slice op q.length oc) hS4.opn x.op (by omega) hS4.hB hS4.hM hS4.mov.size hS4.hw
      go_wp2_with fail
      refine c2.mono ?_
      rintro e w5 ⟨o', rfl, hn⟩
      have hS5 := hS4.nest rfl hn
      clear hS4 c2 hn
      obtain ⟨t1, t2, t3⟩ := nestR_at r1 q x.op
      have t4 := nestQ_len q x.op
      have HT3 := Lib.hid t3
      have hrs1 : r1.s = r.s := HG1.out.1.trans hrs
      have hll : (l ++ [x]).length = l.length + 1 := by simp
      have HLL := Lib.hid hll
      have HRS := Lib.hid hrs1
      have HS5 := Lib.hid hS5
      have HT := Lib.hid (And.intro t1 t2)
      have hG5 : Going r (nestR r1 q x.op) ((l ++ [x]).map InsV.bare) (nestQ q x.op) := by
        rw [List.map_append]
        exact hG.out.step HE.out HQ.out HG1.out
      have HG5 := Lib.hid hG5
      clear t1 t2 t3 hrs1 hll hS5 hG5
      go_wp2_with fail
      go_roundg (gk - 1)
      case rel =>
        refine ⟨nestR r1 q x.op, l ++ [x], nestQ q x.op, HS5.out, HG5, HT.out.1.trans HRS.out, fun h0 => ?_, by rw [HLL.out]; omega, by rw [HLL.out]; omega⟩
        have h1 := HG1.out.eats HE.out (HT3.out h0)
        rw [HLL.out, HT.out.2]
        omega
      case measure => omega
    · have hz : (rk.e == 0) = false := beq_eq_false_iff_ne.2 he0
      have hdone := hG.out.done (.inr he0)
      have HD := Lib.hid hdone
      clear hdone he he0 hq0
      go_wp2
      go_ret
      exact ⟨l, rk, _, rfl, HD.out, hS.rd, hS.mov, hS.own, hS.ins, hl⟩
end Go.Proofs.YthfipknfdnfalaaGreatDoor
namespace Go.Proofs.YthfipknfdnfalaaGreatDoor
open Go.RowKit
set_option linter.unusedVariables false
theorem Pr.and_and {α β γ : Type} (p : Pr α) (f : α → Pr β) (g : β → Pr γ) : (p.and f).and g = p.and fun x => (f x).and g := by
  funext l
  unfold Pr.and
  cases p l with
  | ok v r => rfl
  | bad e => rfl
theorem pCodeIn_eq : pCodeIn = pLocAll.and fun ls => (body []).and fun c => .val (ls, c) := by
  unfold pLocAll
  rw [Pr.and_and]
  rfl
structure FnOwn (base : Nat) (w : World) (f : FnV) : Prop where
  own : w.ownsRow base 46 4 (.slice f.cp f.code.length f.cc) f.code.length (f.code.flatMap InsV.row)
  ins : ∀ x ∈ f.code, InsOwn base w x
  len : f.code.length ≤ 1048577
  loc : f.locals.size ≤ 16384
  type : inI64 f.type
theorem FnOwn.keep {base : Nat} {w w' : World} {f : FnV} (h : FnOwn base w f) (hk : ∀ g, base ≤ g → g < w.heap.size → w'.heap[g]? = w.heap[g]?) : FnOwn base w' f :=
  ⟨own_same h.own fun g hg => hk g (own_lt6 h.own g hg).1 (own_lt6 h.own g hg).2, fun x hx => (h.ins x hx).same fun g hg => hk g ((h.ins x hx).lt g hg).1 ((h.ins x hx).lt g hg).2, h.len, h.loc, h.type⟩
theorem FnOwn.down {base b2 : Nat} {w : World} {f : FnV} (h : FnOwn base w f) (hb : b2 ≤ base) : FnOwn b2 w f := ⟨own_down h.own hb, fun x hx => (h.ins x hx).down hb, h.len, h.loc, h.type⟩
theorem FnOwn.mov {base B M : Nat} {w w' : World} {f : FnV} (h : FnOwn base w f) (hm : Mov B M w w') (hB : B < base) (hM : M < base) : FnOwn base w' f := h.keep fun g hg hl => hm.block g hl (by omega) (by omega)
def InCode (rest : List Value) (F : Nat) (rest' : List Value) (W W1 : World) (x : List UInt8 × List InsV) : Prop :=
  rest' = rest ∧ ∃ f : FnV, f.bare = fnOf x ∧ W1.heap[F]? = some (.cells f.row.toArray 70) ∧ FnOwn W.heap.size W1 f
theorem MovF.setF6 {B M F : Nat} {w w' : World} (h : MovF B M F w w') (j : Nat) (v : Value) : MovF B M F w (w'.setCell ⟨F, j, none⟩ v) :=
  h.trans ⟨rfl, rfl, rfl, by simp [World.setCell], fun k _ _ _ h1 => Below.heap_setCell _ _ _ _ h1⟩
set_option maxRecDepth 100000 in
set_option maxHeartbeats 8000000 in
theorem code_in6 {w0 : World} (hLaid : Laid w0) {B M F pr : Nat} {T : TypeId} {rest : List Value} {w : World} (hpr : w.heap[pr]? = some (.cells #[.pointer (some ⟨B, 0, none⟩)] 199)) (hF : w.heap[F]? = some (.cells #[.int .i64 0, .string ⟨#[]⟩, .slice none 0 0] 70))
    (p1 : pr ≠ B) (p2 : pr ≠ M) (f1 : F ≠ B) (f2 : F ≠ M) (hw : w0.heap.size ≤ F) (N : Nat) (hN : N ≤ 1048576) :
    Within w0 B M F T rest w N 285 #[.pointer (some ⟨pr, 0, none⟩), .pointer (some ⟨F, 0, none⟩)] pCodeIn (InCode rest F) := by
  rw [pCodeIn_eq]
  intro r2 W h hm hsz
  have hprW := (hm.block _ (in_heap6 hpr) p1 p2).trans hpr
  have hFW := (hm.block _ (in_heap6 hF) f1 f2).trans hF
  have hpF : pr ≠ F := fun e => by rw [e, hFW] at hprW; cases hprW
  have c1 := locals_reads w0 B M T rest r2 W h
  have x0 : W.cell? ⟨pr, 0, none⟩ = some (.pointer (some ⟨B, 0, none⟩)) := by simp [World.cell?, hprW]
  clear hpr hF hm
  go_enter Tryz.func285, Tryz.ntmps285
  go_wp2_with fail
  refine c1.mono ?_
  rintro e w1 ⟨ls, r3, rfl, g1, h1, m1, hls⟩
  have hpr1 := (m1.block _ (in_heap6 hprW) p1 p2).trans hprW
  have hF1 := (m1.block _ (in_heap6 hFW) f1 f2).trans hFW
  have y1 : w1.frozen? ⟨F, 1, none⟩ = false := by simp [World.frozen?, hF1]
  have z1 : w1.cell? ⟨F, 1, none⟩ = some (.string ⟨#[]⟩) := by simp [World.cell?, hF1]
  have hs2 : (w1.setCell ⟨F, 1, none⟩ (.string (bs ls))).heap[F]? = some (.cells #[.int .i64 0, .string (bs ls), .slice none 0 0] 70) := heap_setCell_same w1 F 1 _ _ _ hF1
  have hpr2 : (w1.setCell ⟨F, 1, none⟩ (.string (bs ls))).heap[pr]? = some (.cells #[.pointer (some ⟨B, 0, none⟩)] 199) := (Below.heap_setCell _ _ _ _ hpF).trans hpr1
  have h2 := h1.other 1 (.string (bs ls)) f1 f2 hw
  have m2 := (m1.on F).setF6 1 (.string (bs ls))
  have x2 : (w1.setCell ⟨F, 1, none⟩ (.string (bs ls))).cell? ⟨pr, 0, none⟩ = some (.pointer (some ⟨B, 0, none⟩)) := by simp [World.cell?, hpr2]
  have hsz1 : W.heap.size ≤ (w1.setCell ⟨F, 1, none⟩ (.string (bs ls))).heap.size := m2.size
  have hFlt : F < W.heap.size := in_heap6 hFW
  have c2 := body_reads hLaid h2 (by rw [g1.1]; omega)
  have HG := Lib.hid g1
  clear c1 h hprW hFW x0 hpr1 hF1 h1 m1 g1 hpr2
  dsimp only [valStr]
  go_wp2_with fail
  refine c2.mono ?_
  rintro e w2 ⟨l, r4, v, rfl, g2, h4, m4, hown, hins, hlen⟩
  have hF4 := (m4.block _ (in_heap6 hs2) f1 f2).trans hs2
  have y2 : w2.frozen? ⟨F, 2, none⟩ = false := by simp [World.frozen?, hF4]
  have z2 : w2.cell? ⟨F, 2, none⟩ = some (.slice none 0 0) := by simp [World.cell?, hF4]
  obtain ⟨vp, vc, rfl⟩ := own_any6 hown
  have hs5 : (w2.setCell ⟨F, 2, none⟩ (.slice vp l.length vc)).heap[F]? = some (.cells #[.int .i64 0, .string (bs ls), .slice vp l.length vc] 70) := heap_setCell_same w2 F 2 _ _ _ hF4
  have h5 := h4.other 2 (.slice vp l.length vc) f1 f2 hw
  have m5 := (m2.trans (m4.on F)).setF6 2 (.slice vp l.length vc)
  have hfn : FnOwn W.heap.size w2 ⟨0, bs ls, vp, vc, l⟩ := ⟨own_down hown hsz1, fun x hx => (hins x hx).down hsz1, hlen, by show (bs ls).size ≤ 16384; rw [bs_len6]; exact hls, ⟨by show (-9223372036854775808 : Int) ≤ 0; decide, by show (0 : Int) ≤ 9223372036854775807; decide⟩⟩
  have hfn5 : FnOwn W.heap.size (w2.setCell ⟨F, 2, none⟩ (.slice vp l.length vc)) ⟨0, bs ls, vp, vc, l⟩ := hfn.keep fun g hg hl => Below.heap_setCell _ _ _ _ (by show g ≠ F; omega)
  have hgot : Got (pLocAll.and fun ls => (body []).and fun c => .val (ls, c)) r2 r4 (ls, l.map InsV.bare) := HG.out.and (g2.map (fun c => (ls, c)))
  have HGT := Lib.hid hgot
  clear c2 h2 m2 x2 hs2 hown hins hfn g2 h4 m4 HG hgot
  go_wp2
  go_end0
  exact ⟨(ls, l.map InsV.bare), r4, rest, rfl, HGT.out, h5, m5, rfl, ⟨0, bs ls, vp, vc, l⟩, rfl, hs5, hfn5⟩
def DidFn (w0 : World) (B M : Nat) (T : TypeId) (rest : List Value) (r : RV) (w : World) (P : Pr FnV) (e : Ending) (w' : World) : Prop :=
  ∃ (f : FnV) (r' : RV), e = .returned f.val ∧ Got P r r' f.bare ∧ RdAt w0 B M T rest r' w' ∧ Mov B M w w' ∧ FnOwn w.heap.size w' f
theorem enters_code1 : ∀ args w, (callFunc 285 args).run Tryz.prog w = .ok (.enter 285 args) w := enters_of Tryz.func285 (by kernel_rfl) rfl
set_option maxRecDepth 100000 in
set_option maxHeartbeats 8000000 in
theorem code_reads {w0 : World} (hLaid : Laid w0) {B M : Nat} {T : TypeId} {rest : List Value} {r : RV} {w : World} (h : RdAt w0 B M T rest r w) (hsz : r.s.size ≤ 1048576) :
    Calls Tryz.prog 216 #[.pointer (some ⟨B, 0, none⟩)] w (DidFn w0 B M T rest r w pCode) := by
  have hlt := h.lt
  have hBl := hlt.1
  have hMl := hlt.2
  have hw0 := h.below.size
  obtain ⟨wa, hwa⟩ : ∃ wa, wa = w.alloc (.cells #[.pointer (some ⟨B, 0, none⟩)] 199) := ⟨_, rfl⟩
  obtain ⟨wb, hwb⟩ : ∃ wb, wb = wa.alloc (.cells #[.int .i64 0, .string ⟨#[]⟩, .slice none 0 0] 70) := ⟨_, rfl⟩
  obtain ⟨wc, hwc⟩ : ∃ wc, wc = wb.alloc (.cells #[.int .i64 0, .string ⟨#[]⟩, .slice none 0 0] 70) := ⟨_, rfl⟩
  have sa : wa.heap.size = w.heap.size + 1 := by rw [hwa]; simp
  have sb : wb.heap.size = w.heap.size + 2 := by rw [hwb]; simp [sa]
  have sc : wc.heap.size = w.heap.size + 3 := by rw [hwc]; simp [sb]
  have hpa : wa.heap[w.heap.size]? = some (.cells #[.pointer (some ⟨B, 0, none⟩)] 199) := by rw [hwa]; exact heap_alloc_new w _
  have hpb : wb.heap[w.heap.size]? = some (.cells #[.pointer (some ⟨B, 0, none⟩)] 199) := by rw [hwb]; exact (Below.heap_alloc _ _ _ (by omega)).trans hpa
  have hpc : wc.heap[w.heap.size]? = some (.cells #[.pointer (some ⟨B, 0, none⟩)] 199) := by rw [hwc]; exact (Below.heap_alloc _ _ _ (by omega)).trans hpb
  have hrb : wb.heap[w.heap.size + 1]? = some (.cells #[.int .i64 0, .string ⟨#[]⟩, .slice none 0 0] 70) := by rw [hwb, ← sa]; exact heap_alloc_new wa _
  have hrc : wc.heap[w.heap.size + 1]? = some (.cells #[.int .i64 0, .string ⟨#[]⟩, .slice none 0 0] 70) := by rw [hwc]; exact (Below.heap_alloc _ _ _ (by omega)).trans hrb
  have hfc : wc.heap[w.heap.size + 1 + 1]? = some (.cells #[.int .i64 0, .string ⟨#[]⟩, .slice none 0 0] 70) := by rw [hwc, show w.heap.size + 1 + 1 = wb.heap.size by omega]; exact heap_alloc_new wb _
  have hc : RdAt w0 B M T rest r wc := by rw [hwc, hwb, hwa]; exact ((h.alloc _).alloc _).alloc _
  have mc : Mov B M w wc := by rw [hwc, hwb, hwa]; exact (((Mov.refl B M w).alloc _).alloc _).alloc _
  have x0 : wc.cell? ⟨w.heap.size, 0, none⟩ = some (.pointer (some ⟨B, 0, none⟩)) := by simp [World.cell?, hpc]
  have c1 := whole_of hc 285 #[.pointer (some ⟨w.heap.size, 0, none⟩), .pointer (some ⟨w.heap.size + 1 + 1, 0, none⟩)] enters_code1 (code_in6 hLaid (rest := rest) hpc hfc (by omega) (by omega) (by omega) (by omega) (by omega) _ hsz)
  have HW := Lib.hid (And.intro hwa (And.intro hwb hwc))
  have HS := Lib.hid (And.intro sa (And.intro sb sc))
  clear h hlt hpa hpb hrb hc hwa hwb hwc sa sb
  go_enter Tryz.func216, Tryz.ntmps216
  go_wp2_with fail
  obtain ⟨e1, e2, e3⟩ := HW.out
  rw [← e1, ← e2, ← e3]
  clear e1 e2 e3 HW
  refine c1.mono ?_
  rintro e w1 ⟨x, r1, rest', W, W1, rfl, g1, h1, mW, mF, ⟨rfl, f, hfb, hF1, hown⟩, m1⟩
  have n1 : w.heap.size + 1 ≠ B := by omega
  have n2 : w.heap.size + 1 ≠ M := by omega
  have n3 : w.heap.size + 1 + 1 ≠ B := by omega
  have n4 : w.heap.size + 1 + 1 ≠ M := by omega
  have hrW := (mW.block _ (in_heap6 hrc) n1 n2).trans hrc
  have hr1 := (mF.block _ (in_heap6 hrW) n1 n2 (by omega)).trans hrW
  have hr2 := (m1.block _ (in_heap6 hr1) n1 n2).trans hr1
  have hF2 := (m1.block _ (in_heap6 hF1) n3 n4).trans hF1
  have hWs : w.heap.size + 3 ≤ W.heap.size := by have := mW.size; omega
  have hown2 : FnOwn W.heap.size w1 f := hown.mov m1 (by omega) (by omega)
  have hgot : Got pCode r r1 f.bare := by rw [hfb]; exact g1.map fnOf
  have HGT := Lib.hid hgot
  have mm : Mov B M w w1 := ((((mc.trans mW).on (w.heap.size + 1 + 1)).trans mF).new (by omega)).trans m1
  obtain ⟨ft, fl, fp, fc, fcode⟩ := f
  unfold FnV.row at hF2
  dsimp only [List.toArray] at hF2
  have c0 : w1.cell? ⟨w.heap.size + 1 + 1, 0, none⟩ = some (.int .i64 ft) := by simp [World.cell?, hF2]
  have c2 : w1.cell? ⟨w.heap.size + 1 + 1, 1, none⟩ = some (.string fl) := by simp [World.cell?, hF2]
  have c3 : w1.cell? ⟨w.heap.size + 1 + 1, 2, none⟩ = some (.slice fp fcode.length fc) := by simp [World.cell?, hF2]
  have d0 : w1.cell? ⟨w.heap.size + 1, 0, none⟩ = some (.int .i64 0) := by simp [World.cell?, hr2]
  have d1 : w1.cell? ⟨w.heap.size + 1, 1, none⟩ = some (.string ⟨#[]⟩) := by simp [World.cell?, hr2]
  have d2 : w1.cell? ⟨w.heap.size + 1, 2, none⟩ = some (.slice none 0 0) := by simp [World.cell?, hr2]
  have e0 : w1.frozen? ⟨w.heap.size + 1, 0, none⟩ = false := by simp [World.frozen?, hr2]
  have e1 : w1.frozen? ⟨w.heap.size + 1, 1, none⟩ = false := by simp [World.frozen?, hr2]
  have e2 : w1.frozen? ⟨w.heap.size + 1, 2, none⟩ = false := by simp [World.frozen?, hr2]
  have hlt1 : w.heap.size + 1 < w1.heap.size := in_heap6 hr2
  clear c1 hrc hrW hr1 hF1 hF2 hown hgot g1 hfc hpc hfb mW mF m1 mc x0 hr2
  go_wp2
  refine bodyPost_ret (v := FnV.val ⟨ft, fl, fp, fc, fcode⟩) ?_ rfl ?_
  · rw [results_one_cell rfl]; simp [FnV.val]; go_simp
  · refine ⟨⟨ft, fl, fp, fc, fcode⟩, r1, rfl, HGT.out, ((h1.other 0 _ n1 n2 (by omega)).other 1 _ n1 n2 (by omega)).other 2 _ n1 n2 (by omega), ((mm.setNew 0 _ (by omega)).setNew 1 _ (by omega)).setNew 2 _ (by omega), ?_⟩
    exact (hown2.keep fun g hg hl => by rw [Below.heap_setCell _ _ _ _ (by show g ≠ w.heap.size + 1; omega), Below.heap_setCell _ _ _ _ (by show g ≠ w.heap.size + 1; omega), Below.heap_setCell _ _ _ _ (by show g ≠ w.heap.size + 1; omega)]).down (by omega)
end Go.Proofs.YthfipknfdnfalaaGreatDoor
namespace Go.Proofs.YthfipknfdnfalaaGreatDoor
open Go.RowKit
set_option linter.unusedVariables false
def FnV.has (f : FnV) (g : Nat) : Prop := (Value.slice f.cp f.code.length f.cc).ownBlock = some g ∨ ∃ x ∈ f.code, x.lab.ownBlock = some g
theorem FnOwn.lt {base : Nat} {w : World} {f : FnV} (h : FnOwn base w f) : ∀ g, f.has g → base ≤ g ∧ g < w.heap.size := fun g hg => by
  rcases hg with hg | ⟨x, hx, hg⟩
  · exact own_lt6 h.own g hg
  · exact (h.ins x hx).lt g hg
theorem FnOwn.same {base : Nat} {w w' : World} {f : FnV} (h : FnOwn base w f) (hk : ∀ g, f.has g → w'.heap[g]? = w.heap[g]?) : FnOwn base w' f :=
  ⟨own_same h.own fun g hg => hk g (.inl hg), fun x hx => (h.ins x hx).same fun g hg => hk g (.inr ⟨x, hx, hg⟩), h.len, h.loc, h.type⟩
def DidFns (w0 : World) (B M : Nat) (T : TypeId) (rest : List Value) (r : RV) (w : World) (P : Pr FnV) (e : Ending) (w' : World) : Prop :=
  ∃ (l : List FnV) (r' : RV) (v : Value), e = .returned v ∧ Got (pList P) r r' (l.map FnV.bare) ∧ RdAt w0 B M T rest r' w' ∧ Mov B M w w' ∧ w'.ownsRow w.heap.size 70 3 v l.length (l.flatMap FnV.row) ∧ (∀ f ∈ l, FnOwn w.heap.size w' f) ∧ l.length ≤ 4096
structure FnsMem (w0 w : World) (B M : Nat) (T : TypeId) (rest : List Value) (rk : RV) (v : Value) (fs l : List FnV) (W : World) : Prop where
  rd : RdAt w0 B M T rest rk W
  mov : Mov B M w W
  hB : B < w.heap.size
  hM : M < w.heap.size
  own : W.ownsRow w.heap.size 70 3 v l.length (l.flatMap FnV.row)
  fns : ∀ f ∈ fs, FnOwn w.heap.size W f
  far : ∀ f ∈ fs, ∀ g, f.has g → v.ownBlock ≠ some g
theorem FnsMem.call {w0 w : World} {B M : Nat} {T : TypeId} {rest : List Value} {rk r1 : RV} {v : Value} {fs l : List FnV} {W W1 : World} (h : FnsMem w0 w B M T rest rk v fs l W) (hm : Mov B M W W1) (hr : RdAt w0 B M T rest r1 W1) :
    FnsMem w0 w B M T rest r1 v fs l W1 :=
  ⟨hr, h.mov.trans hm, h.hB, h.hM, own_mov h.own hm h.hB h.hM, fun f hf => (h.fns f hf).mov hm h.hB h.hM, h.far⟩
theorem FnsMem.fn {w0 w : World} {B M : Nat} {T : TypeId} {rest : List Value} {rk r1 : RV} {v : Value} {fs l : List FnV} {W W1 : World} {f : FnV} (h : FnsMem w0 w B M T rest rk v fs l W) (hm : Mov B M W W1) (hr : RdAt w0 B M T rest r1 W1) (hf : FnOwn W.heap.size W1 f) :
    FnsMem w0 w B M T rest r1 v (fs ++ [f]) l W1 := by
  have h1 := h.call hm hr
  refine ⟨h1.rd, h1.mov, h1.hB, h1.hM, h1.own, fun y hy => ?_, fun y hy g hg => ?_⟩
  · rcases List.mem_append.1 hy with hy | hy
    · exact h1.fns y hy
    · rw [List.mem_singleton.1 hy]; exact hf.down h.mov.size
  · rcases List.mem_append.1 hy with hy | hy
    · exact h1.far y hy g hg
    · rw [List.mem_singleton.1 hy] at hg
      have := hf.lt g hg
      exact fun e => by have := own_lt6 h.own g e; omega
theorem FnsMem.more {w0 w : World} {B M : Nat} {T : TypeId} {rest : List Value} {rk : RV} {v v' : Value} {fs l : List FnV} {W W1 : World} {f : FnV} (h : FnsMem w0 w B M T rest rk v fs l W) (hown : W1.ownsRow w.heap.size 70 3 v' (l.length + 1) (l.flatMap FnV.row ++ f.row)) (hg : W.grownBy W1 v.ownBlock) (hv : v'.ownBlock = v.ownBlock ∨ v'.ownBlock = some W.heap.size) :
    FnsMem w0 w B M T rest rk v' fs (l ++ [f]) W1 := by
  have hge : ∀ k, v.ownBlock = some k → w.heap.size ≤ k := fun k hk => (own_lt6 h.own k hk).1
  have hB := h.hB
  have hM := h.hM
  refine ⟨h.rd.grown hg (fun k hk => by have := hge k hk; omega) (fun k hk => by have := hge k hk; omega), h.mov.grown hg hge, hB, hM, by rw [List.length_append, List.flatMap_append]; simpa using hown, fun y hy => (h.fns y hy).same fun g hg2 => ?_, fun y hy g hg2 e2 => ?_⟩
  · exact hg.block g ((h.fns y hy).lt g hg2).2 (fun e => h.far y hy g hg2 e.symm)
  · rcases hv with e | e
    · exact h.far y hy g hg2 (e ▸ e2)
    · rw [e] at e2; have := (h.fns y hy).lt g hg2; cases e2; omega
theorem FnsMem.start {w0 w : World} {B M : Nat} {T : TypeId} {rest : List Value} {rq : RV} {W : World} (h : RdAt w0 B M T rest rq W) (hm : Mov B M w W) (hB : B < w.heap.size) (hM : M < w.heap.size) : FnsMem w0 w B M T rest rq (.slice none 0 0) [] [] W :=
  ⟨h, hm, hB, hM, World.ownsRow_nil _ _ _ _, fun f hf => absurd hf List.not_mem_nil, fun f hf => absurd hf List.not_mem_nil⟩
theorem fnrow_one (f : FnV) : ∀ u ∈ f.row, u.oneCell' = true := by intro u hu; simp [FnV.row] at hu; rcases hu with rfl | rfl | rfl <;> rfl
theorem info_func : (Tryz.prog.info? 70).map (fun i => (i.zero, i.size, i.bytes)) = some (some (.agg #[.int .i64 0, .string ⟨#[]⟩, .slice none 0 0]), 3, 48) := by kernel_rfl
set_option maxRecDepth 100000 in
set_option maxHeartbeats 8000000 in
theorem list_fns {w0 : World} {g : Nat} {lb : Array Value} {P : Pr FnV} {N : Nat} (eg : ∀ args w, (callFunc g args).run Tryz.prog w = .ok (.enter g args) w)
    (hE : ∀ (B M : Nat) (T : TypeId) (rest : List Value) (r : RV) (W : World), RdAt w0 B M T rest r W → r.s.size ≤ N → Calls Tryz.prog g (#[.pointer (some ⟨B, 0, none⟩)] ++ lb) W (DidFn w0 B M T rest r W P))
    {B M : Nat} {T : TypeId} {rest : List Value} {r : RV} {w : World} (h : RdAt w0 B M T rest r w) (hN : r.s.size ≤ N) :
    Calls Tryz.prog 208 #[.pointer (some ⟨B, 0, none⟩), .func (.func g) #[] lb] w (DidFns w0 B M T rest r w P) := by
  have hlt := h.lt
  have hBl := hlt.1
  have hMl := hlt.2
  have c1 := number_reads w0 B M T rest r w h
  obtain ⟨i0, hi, hz0, hz1, hz2⟩ := info_parts info_func
  clear h hlt
  go_enter Tryz.func208, Tryz.ntmps208
  go_wp2_with (first
    | (go_at_call 150; (with_reducible refine c1.mono ?_); rintro e w1 ⟨n, r1, rfl, g1, h1, m1, ok1⟩; have c2 := fail_of h1 5; have ok0 := ok1.1; have ok2 := ok1.2; dsimp only [valInt])
    | (go_at_call 138; (with_reducible refine c2.mono ?_); rintro e w2 ⟨rfl, h2, m2⟩))
  · have hgt : 4096 < n := by assumption
    obtain ⟨rq, hq⟩ : ∃ rq, r1.bad 5 = rq := ⟨_, rfl⟩
    obtain ⟨hs, hm, hgm, hfew, hrs⟩ : RdAt w0 B M T rest rq w2 ∧ Mov B M w w2 ∧ Got pMany r rq n ∧ (rq.e = 0 → n ≤ 4096) ∧ rq.s = r.s := by
      rw [← hq]
      exact ⟨h2, m1.trans m2, (Got.many g1).1 hgt, fun e => absurd e (bad_e (by decide)), g1.1⟩
    clear hq h1 h2 m1 m2 g1 c2 c1 hgt
    have HG := Lib.hid hgm
    have HF := Lib.hid hfew
    have HR := Lib.hid hrs
    have hS0 := FnsMem.start hs hm hBl hMl
    clear hgm hfew hrs hs hm
    go_loopw [6, 14] (fun v i wr => ∃ (l : List FnV) (rk : RV), (l.length : Int) ≤ n ∧ l.length ≤ 4096 ∧ i = .int .i64 l.length ∧ FnsMem w0 w B M T rest rk v l l wr ∧ Hid (Got (pRep P l.length) rq rk (l.map FnV.bare))) (fun _ i _ => n.toNat - (intOf i).toNat)
    case atStart => exact ⟨[], rq, ok0, by simp, rfl, hS0, Lib.hid (Got.zero rq)⟩
    case round =>
      clear hS0
      obtain ⟨l, rk, hkn, hk4, rfl, hS, HK⟩ := hrel
      obtain ⟨vp, vc, rfl⟩ := own_any6 hS.own
      obtain ⟨x0, x1, x2, x3, y0, y1, y2, y3⟩ := hS.rd.reads
      by_cases hlt : (l.length : Int) < n
      · by_cases he : rk.e = 0
        · have hn4 : n ≤ 4096 := HF.out (by
            rcases HK.out.2 with ⟨a1, a2⟩ | ⟨a1, _⟩ | ⟨a1, _⟩
            · exact absurd (a2.symm.trans he) a1
            · exact a1
            · exact a1)
          exfalso; omega
        · have hq : (rk.e != 0) = true := by simpa using he
          have HGL := Lib.hid (show Got (pList P) r rk ([].map FnV.bare) from Got.list HG.out (HK.out.short (by omega) he []))
          go_wp2
          go_ret
          exact ⟨[], rk, _, rfl, HGL.out, hS.rd, hS.mov, World.ownsRow_nil _ _ _ _, fun f hf => absurd hf List.not_mem_nil, by simp⟩
      · have hkk : n.toNat = l.length := by omega
        have HGL := Lib.hid (show Got (pList P) r rk (l.map FnV.bare) from Got.list HG.out (by rw [hkk]; exact HK.out))
        have hnk : n = (l.length : Int) := by omega
        clear hlt
        go_wp2
        go_ret
        exact ⟨l, rk, _, rfl, HGL.out, hS.rd, hS.mov, hS.own, hS.fns, hk4⟩
  · have hle : n ≤ 4096 := by assumption
    obtain ⟨rq, hq⟩ : ∃ rq, r1 = rq := ⟨_, rfl⟩
    obtain ⟨hs, hm, hgm, hfew, hrs⟩ : RdAt w0 B M T rest rq w1 ∧ Mov B M w w1 ∧ Got pMany r rq n ∧ (rq.e = 0 → n ≤ 4096) ∧ rq.s = r.s := by
      rw [← hq]
      have hle' : ¬ 4096 < n := by omega
      exact ⟨h1, m1, (Got.many g1).2 hle', fun _ => by omega, g1.1⟩
    clear hq h1 m1 g1 c2 c1 hle
    have HG := Lib.hid hgm
    have HF := Lib.hid hfew
    have HR := Lib.hid hrs
    have hS0 := FnsMem.start hs hm hBl hMl
    clear hgm hfew hrs hs hm
    go_loopw [6, 14] (fun v i wr => ∃ (l : List FnV) (rk : RV), (l.length : Int) ≤ n ∧ l.length ≤ 4096 ∧ i = .int .i64 l.length ∧ FnsMem w0 w B M T rest rk v l l wr ∧ Hid (Got (pRep P l.length) rq rk (l.map FnV.bare))) (fun _ i _ => n.toNat - (intOf i).toNat)
    case atStart => exact ⟨[], rq, ok0, by simp, rfl, hS0, Lib.hid (Got.zero rq)⟩
    case round =>
      clear hS0
      obtain ⟨l, rk, hkn, hk4, rfl, hS, HK⟩ := hrel
      obtain ⟨vp, vc, rfl⟩ := own_any6 hS.own
      obtain ⟨x0, x1, x2, x3, y0, y1, y2, y3⟩ := hS.rd.reads
      by_cases hlt : (l.length : Int) < n
      · by_cases he : rk.e = 0
        · have hn4 : n ≤ 4096 := HF.out (by
            rcases HK.out.2 with ⟨a1, a2⟩ | ⟨a1, _⟩ | ⟨a1, _⟩
            · exact absurd (a2.symm.trans he) a1
            · exact a1
            · exact a1)
          rw [he] at x2
          have cq := hE B M T rest rk wr hS.rd (by rw [HK.out.1, HR.out]; exact hN)
          have HE := Lib.hid he
          clear he
          go_wp2_with fail
          refine cq.mono ?_
          rintro e w3 ⟨f, r3, rfl, g3, h3, m3, hf⟩
          have hS3 := (hS.fn m3 h3 hf).call ((Mov.refl B M w3).alloc (.cells f.row.toArray 70)) (h3.alloc (.cells f.row.toArray 70))
          have hz3 : (w3.alloc (.cells f.row.toArray 70)).heap.size = w3.heap.size + 1 := by simp
          have HZ := Lib.hid hz3
          have hc3 := cells_new6 w3 f.row 70
          have hsz3 := hS3.mov.size
          clear cq hS h3 m3 hf hz3
          unfold FnV.row at hS3 hc3 hsz3 HZ
          unfold FnV.val
          go_wp2_with (at_builtin; refine wpList_append_own_at _ rfl (.tmp 21) (.tmp 25) 29 rfl w.heap.size 70 i0 (.agg #[.int .i64 0, .string ⟨#[]⟩, .slice none 0 0]) 3 48 Tryz.underlying29 hi hz0 hz1 hz2 rfl (by decide) (.slice vp l.length vc) l.length (l.flatMap FnV.row) rfl hS3.own ⟨w3.heap.size, 0, none⟩ 1 1 f.row rfl rfl hc3 (fnrow_one f) (by unfold maxLen; omega) (by omega) hsz3 ?_)
          intro v' w4 hown4 hg4 _ hv4
          rw [← HZ.out] at hv4
          have hS4 := hS3.more hown4 hg4 hv4
          have HS4 := Lib.hid hS4
          have HK4 : Hid (Got (pRep P (l ++ [f]).length) rq r3 ((l ++ [f]).map FnV.bare)) := Lib.hid (by
            rw [List.map_append, List.length_append]
            exact Got.more HK.out g3 HE.out)
          have HL : Hid ((l ++ [f]).length = l.length + 1) := Lib.hid (by simp)
          clear hS3 hS4 hc3 hsz3 HZ g3 HK hown4 hg4 hv4 x0 x1 x2 x3 y0 y1 y2 y3
          go_wp2
          go_roundw
          case rel => exact ⟨l ++ [f], r3, by rw [HL.out]; omega, by rw [HL.out]; omega, by rw [HL.out]; go_num, HS4.out, HK4⟩
          case measure => simp [intOf]; omega
        · have hq : (rk.e != 0) = true := by simpa using he
          have HGL := Lib.hid (show Got (pList P) r rk ([].map FnV.bare) from Got.list HG.out (HK.out.short (by omega) he []))
          go_wp2
          go_ret
          exact ⟨[], rk, _, rfl, HGL.out, hS.rd, hS.mov, World.ownsRow_nil _ _ _ _, fun f hf => absurd hf List.not_mem_nil, by simp⟩
      · have hkk : n.toNat = l.length := by omega
        have HGL := Lib.hid (show Got (pList P) r rk (l.map FnV.bare) from Got.list HG.out (by rw [hkk]; exact HK.out))
        have hnk : n = (l.length : Int) := by omega
        clear hlt
        go_wp2
        go_ret
        exact ⟨l, rk, _, rfl, HGL.out, hS.rd, hS.mov, hS.own, hS.fns, hk4⟩
end Go.Proofs.YthfipknfdnfalaaGreatDoor
namespace Go.Proofs.YthfipknfdnfalaaGreatDoor
open Go.RowKit
set_option linter.unusedVariables false
def restOf (m : MoV) (last : Int) (cv : Value) : List Value := m.cells ++ [.int .i64 last, cv]
def ptsOf (m : MoV) (last : Int) (codes : List FnV) : Pts := ⟨m.types, m.funcs.map FnV.bare, m.memory, m.globals, m.exports, m.start, m.data, last, codes.map FnV.bare⟩
structure PtsMem (base B M : Nat) (m : MoV) (cv : Value) (codes : List FnV) (W : World) : Prop where
  hB : B < base
  hM : M < base
  types : W.ownsRow base 81 2 (.slice m.tp m.types.length m.tc) m.types.length (m.types.flatMap TyV.row)
  typesIn : ∀ x ∈ m.types, okTy W W x
  typesFew : m.types.length ≤ 4096
  memory : W.ownsRow base 78 2 (.slice m.mp m.memory.length m.mc) m.memory.length (m.memory.flatMap MemV.row)
  memoryIn : ∀ x ∈ m.memory, okMem W W x
  memoryFew : m.memory.length ≤ 4096
  globals : W.ownsRow base 91 3 (.slice m.gp m.globals.length m.gc) m.globals.length (m.globals.flatMap GlobV.row)
  globalsIn : ∀ x ∈ m.globals, okGlob W W x
  globalsFew : m.globals.length ≤ 4096
  exports : W.ownsRow base 76 3 (.slice m.ep m.exports.length m.ec) m.exports.length (m.exports.flatMap ExpV.row)
  exportsIn : ∀ x ∈ m.exports, okExp W W x
  exportsFew : m.exports.length ≤ 4096
  data : W.ownsRow base 94 2 (.slice m.dp m.data.length m.dc) m.data.length (m.data.flatMap DatV.row)
  dataIn : ∀ x ∈ m.data, okDat W W x
  dataFew : m.data.length ≤ 4096
  funcs : W.ownsRow base 70 3 (.slice m.fp m.funcs.length m.fc) m.funcs.length (m.funcs.flatMap FnV.row)
  funcsIn : ∀ f ∈ m.funcs, FnOwn base W f
  funcsFew : m.funcs.length ≤ 4096
  startIn : inI64 m.start
  rows : W.ownsRow base 70 3 cv codes.length (codes.flatMap FnV.row)
  codesIn : ∀ f ∈ codes, FnOwn base W f
  codesFew : codes.length ≤ 4096
  far : ∀ g, (Value.slice m.fp m.funcs.length m.fc).ownBlock = some g → cv.ownBlock ≠ some g ∧ ∀ c ∈ codes, ¬ c.has g
theorem PtsMem.mov {base B M : Nat} {m : MoV} {cv : Value} {codes : List FnV} {W W1 : World} (h : PtsMem base B M m cv codes W) (hm : Mov B M W W1) : PtsMem base B M m cv codes W1 :=
  { hB := h.hB
    hM := h.hM
    types := own_mov h.types hm h.hB h.hM
    typesIn := h.typesIn
    typesFew := h.typesFew
    memory := own_mov h.memory hm h.hB h.hM
    memoryIn := h.memoryIn
    memoryFew := h.memoryFew
    globals := own_mov h.globals hm h.hB h.hM
    globalsIn := h.globalsIn
    globalsFew := h.globalsFew
    exports := own_mov h.exports hm h.hB h.hM
    exportsIn := h.exportsIn
    exportsFew := h.exportsFew
    data := own_mov h.data hm h.hB h.hM
    dataIn := h.dataIn
    dataFew := h.dataFew
    funcs := own_mov h.funcs hm h.hB h.hM
    funcsIn := fun f hf => (h.funcsIn f hf).mov hm h.hB h.hM
    funcsFew := h.funcsFew
    startIn := h.startIn
    rows := own_mov h.rows hm h.hB h.hM
    codesIn := fun f hf => (h.codesIn f hf).mov hm h.hB h.hM
    codesFew := h.codesFew
    far := h.far }
def MoV.with_types (m : MoV) (p : Option Addr) (c : Nat) (l : List TyV) : MoV := { m with tp := p, tc := c, types := l }
theorem PtsMem.set_types {base B M b2 : Nat} {m : MoV} {cv : Value} {codes : List FnV} {W : World} (h : PtsMem base B M m cv codes W) {p : Option Addr} {c : Nat} {l : List TyV} (hb : base ≤ b2) (ho : W.ownsRow b2 81 2 (.slice p l.length c) l.length (l.flatMap TyV.row)) (hi : ∀ x ∈ l, okTy W W x) (hl : l.length ≤ 4096) : PtsMem base B M (m.with_types p c l) cv codes W :=
  { hB := h.hB
    hM := h.hM
    types := own_down ho hb
    typesIn := hi
    typesFew := hl
    memory := h.memory
    memoryIn := h.memoryIn
    memoryFew := h.memoryFew
    globals := h.globals
    globalsIn := h.globalsIn
    globalsFew := h.globalsFew
    exports := h.exports
    exportsIn := h.exportsIn
    exportsFew := h.exportsFew
    data := h.data
    dataIn := h.dataIn
    dataFew := h.dataFew
    funcs := h.funcs
    funcsIn := h.funcsIn
    funcsFew := h.funcsFew
    startIn := h.startIn
    rows := h.rows
    codesIn := h.codesIn
    codesFew := h.codesFew
    far := h.far }
def MoV.with_memory (m : MoV) (p : Option Addr) (c : Nat) (l : List MemV) : MoV := { m with mp := p, mc := c, memory := l }
theorem PtsMem.set_memory {base B M b2 : Nat} {m : MoV} {cv : Value} {codes : List FnV} {W : World} (h : PtsMem base B M m cv codes W) {p : Option Addr} {c : Nat} {l : List MemV} (hb : base ≤ b2) (ho : W.ownsRow b2 78 2 (.slice p l.length c) l.length (l.flatMap MemV.row)) (hi : ∀ x ∈ l, okMem W W x) (hl : l.length ≤ 4096) : PtsMem base B M (m.with_memory p c l) cv codes W :=
  { hB := h.hB
    hM := h.hM
    types := h.types
    typesIn := h.typesIn
    typesFew := h.typesFew
    memory := own_down ho hb
    memoryIn := hi
    memoryFew := hl
    globals := h.globals
    globalsIn := h.globalsIn
    globalsFew := h.globalsFew
    exports := h.exports
    exportsIn := h.exportsIn
    exportsFew := h.exportsFew
    data := h.data
    dataIn := h.dataIn
    dataFew := h.dataFew
    funcs := h.funcs
    funcsIn := h.funcsIn
    funcsFew := h.funcsFew
    startIn := h.startIn
    rows := h.rows
    codesIn := h.codesIn
    codesFew := h.codesFew
    far := h.far }
def MoV.with_globals (m : MoV) (p : Option Addr) (c : Nat) (l : List GlobV) : MoV := { m with gp := p, gc := c, globals := l }
theorem PtsMem.set_globals {base B M b2 : Nat} {m : MoV} {cv : Value} {codes : List FnV} {W : World} (h : PtsMem base B M m cv codes W) {p : Option Addr} {c : Nat} {l : List GlobV} (hb : base ≤ b2) (ho : W.ownsRow b2 91 3 (.slice p l.length c) l.length (l.flatMap GlobV.row)) (hi : ∀ x ∈ l, okGlob W W x) (hl : l.length ≤ 4096) : PtsMem base B M (m.with_globals p c l) cv codes W :=
  { hB := h.hB
    hM := h.hM
    types := h.types
    typesIn := h.typesIn
    typesFew := h.typesFew
    memory := h.memory
    memoryIn := h.memoryIn
    memoryFew := h.memoryFew
    globals := own_down ho hb
    globalsIn := hi
    globalsFew := hl
    exports := h.exports
    exportsIn := h.exportsIn
    exportsFew := h.exportsFew
    data := h.data
    dataIn := h.dataIn
    dataFew := h.dataFew
    funcs := h.funcs
    funcsIn := h.funcsIn
    funcsFew := h.funcsFew
    startIn := h.startIn
    rows := h.rows
    codesIn := h.codesIn
    codesFew := h.codesFew
    far := h.far }
def MoV.with_exports (m : MoV) (p : Option Addr) (c : Nat) (l : List ExpV) : MoV := { m with ep := p, ec := c, exports := l }
theorem PtsMem.set_exports {base B M b2 : Nat} {m : MoV} {cv : Value} {codes : List FnV} {W : World} (h : PtsMem base B M m cv codes W) {p : Option Addr} {c : Nat} {l : List ExpV} (hb : base ≤ b2) (ho : W.ownsRow b2 76 3 (.slice p l.length c) l.length (l.flatMap ExpV.row)) (hi : ∀ x ∈ l, okExp W W x) (hl : l.length ≤ 4096) : PtsMem base B M (m.with_exports p c l) cv codes W :=
  { hB := h.hB
    hM := h.hM
    types := h.types
    typesIn := h.typesIn
    typesFew := h.typesFew
    memory := h.memory
    memoryIn := h.memoryIn
    memoryFew := h.memoryFew
    globals := h.globals
    globalsIn := h.globalsIn
    globalsFew := h.globalsFew
    exports := own_down ho hb
    exportsIn := hi
    exportsFew := hl
    data := h.data
    dataIn := h.dataIn
    dataFew := h.dataFew
    funcs := h.funcs
    funcsIn := h.funcsIn
    funcsFew := h.funcsFew
    startIn := h.startIn
    rows := h.rows
    codesIn := h.codesIn
    codesFew := h.codesFew
    far := h.far }
def MoV.with_data (m : MoV) (p : Option Addr) (c : Nat) (l : List DatV) : MoV := { m with dp := p, dc := c, data := l }
theorem PtsMem.set_data {base B M b2 : Nat} {m : MoV} {cv : Value} {codes : List FnV} {W : World} (h : PtsMem base B M m cv codes W) {p : Option Addr} {c : Nat} {l : List DatV} (hb : base ≤ b2) (ho : W.ownsRow b2 94 2 (.slice p l.length c) l.length (l.flatMap DatV.row)) (hi : ∀ x ∈ l, okDat W W x) (hl : l.length ≤ 4096) : PtsMem base B M (m.with_data p c l) cv codes W :=
  { hB := h.hB
    hM := h.hM
    types := h.types
    typesIn := h.typesIn
    typesFew := h.typesFew
    memory := h.memory
    memoryIn := h.memoryIn
    memoryFew := h.memoryFew
    globals := h.globals
    globalsIn := h.globalsIn
    globalsFew := h.globalsFew
    exports := h.exports
    exportsIn := h.exportsIn
    exportsFew := h.exportsFew
    data := own_down ho hb
    dataIn := hi
    dataFew := hl
    funcs := h.funcs
    funcsIn := h.funcsIn
    funcsFew := h.funcsFew
    startIn := h.startIn
    rows := h.rows
    codesIn := h.codesIn
    codesFew := h.codesFew
    far := h.far }
def MoV.with_funcs (m : MoV) (p : Option Addr) (c : Nat) (l : List FnV) : MoV := { m with fp := p, fc := c, funcs := l }
def MoV.with_start (m : MoV) (n : Int) : MoV := { m with start := n }
theorem PtsMem.set_start {base B M : Nat} {m : MoV} {cv : Value} {codes : List FnV} {W : World} (h : PtsMem base B M m cv codes W) {n : Int} (hn : inI64 n) : PtsMem base B M (m.with_start n) cv codes W :=
  { hB := h.hB
    hM := h.hM
    types := h.types
    typesIn := h.typesIn
    typesFew := h.typesFew
    memory := h.memory
    memoryIn := h.memoryIn
    memoryFew := h.memoryFew
    globals := h.globals
    globalsIn := h.globalsIn
    globalsFew := h.globalsFew
    exports := h.exports
    exportsIn := h.exportsIn
    exportsFew := h.exportsFew
    data := h.data
    dataIn := h.dataIn
    dataFew := h.dataFew
    funcs := h.funcs
    funcsIn := h.funcsIn
    funcsFew := h.funcsFew
    startIn := hn
    rows := h.rows
    codesIn := h.codesIn
    codesFew := h.codesFew
    far := h.far }
theorem PtsMem.set_funcs {base B M : Nat} {m : MoV} {cv : Value} {codes : List FnV} {W0 W : World} (h0 : PtsMem base B M m cv codes W0) (h : PtsMem base B M m cv codes W) {p : Option Addr} {c : Nat} {l : List FnV} (hb : base ≤ W0.heap.size) (ho : W.ownsRow W0.heap.size 70 3 (.slice p l.length c) l.length (l.flatMap FnV.row)) (hi : ∀ x ∈ l, FnOwn W0.heap.size W x) (hl : l.length ≤ 4096) : PtsMem base B M (m.with_funcs p c l) cv codes W :=
  { hB := h.hB
    hM := h.hM
    types := h.types
    typesIn := h.typesIn
    typesFew := h.typesFew
    memory := h.memory
    memoryIn := h.memoryIn
    memoryFew := h.memoryFew
    globals := h.globals
    globalsIn := h.globalsIn
    globalsFew := h.globalsFew
    exports := h.exports
    exportsIn := h.exportsIn
    exportsFew := h.exportsFew
    data := h.data
    dataIn := h.dataIn
    dataFew := h.dataFew
    funcs := own_down ho hb
    funcsIn := fun f hf => (hi f hf).down hb
    funcsFew := hl
    startIn := h.startIn
    rows := h.rows
    codesIn := h.codesIn
    codesFew := h.codesFew
    far := fun g hg => by
      have h1 := own_lt6 ho g hg
      exact ⟨fun e => by have := own_lt6 h0.rows g e; omega, fun x hx e => by have := (h0.codesIn x hx).lt g e; omega⟩ }
theorem PtsMem.set_codes {base B M : Nat} {m : MoV} {cv cv' : Value} {codes l : List FnV} {W0 W : World} (h0 : PtsMem base B M m cv codes W0) (h : PtsMem base B M m cv codes W) (hb : base ≤ W0.heap.size) (ho : W.ownsRow W0.heap.size 70 3 cv' l.length (l.flatMap FnV.row)) (hi : ∀ x ∈ l, FnOwn W0.heap.size W x) (hl : l.length ≤ 4096) : PtsMem base B M m cv' l W :=
  { hB := h.hB
    hM := h.hM
    types := h.types
    typesIn := h.typesIn
    typesFew := h.typesFew
    memory := h.memory
    memoryIn := h.memoryIn
    memoryFew := h.memoryFew
    globals := h.globals
    globalsIn := h.globalsIn
    globalsFew := h.globalsFew
    exports := h.exports
    exportsIn := h.exportsIn
    exportsFew := h.exportsFew
    data := h.data
    dataIn := h.dataIn
    dataFew := h.dataFew
    funcs := h.funcs
    funcsIn := h.funcsIn
    funcsFew := h.funcsFew
    startIn := h.startIn
    rows := own_down ho hb
    codesIn := fun f hf => (hi f hf).down hb
    codesFew := hl
    far := fun g hg => by
      have h1 := own_lt6 h0.funcs g hg
      exact ⟨fun e => by have := own_lt6 ho g e; omega, fun x hx e => by have := (hi x hx).lt g e; omega⟩ }
theorem RdAt.setRest {w0 : World} {B M : Nat} {T : TypeId} {rest rest' : List Value} {r : RV} {w : World} (h : RdAt w0 B M T rest r w) (j : Nat) (v : Value) (he : rest' = rest.set j v) : RdAt w0 B M T rest' r (w.setCell ⟨B, 4 + j, none⟩ v) := by
  obtain ⟨D, hD⟩ := h.infos
  subst he
  refine ⟨((Mov.refl B M w).set _ _).below h.below h.hB h.hM, ?_, ⟨D, hD.same (Below.heap_setCell _ _ _ _ h.ne)⟩, h.ne, h.hB, h.hM, h.size, h.pos⟩
  rw [heap_setCell_same w B (4 + j) _ _ v h.box]
  congr 2
  apply Array.ext'
  simp [RV.cells, Nat.add_comm 4 j]
theorem restOf_cells (m : MoV) (last : Int) (cv : Value) {w0 : World} {B M : Nat} {T : TypeId} {r : RV} {w : World} (h : RdAt w0 B M T (restOf m last cv) r w) :
    (w.cell? ⟨B, 5, none⟩ = some (.slice m.fp m.funcs.length m.fc) ∧ w.cell? ⟨B, 11, none⟩ = some (.int .i64 last) ∧ w.cell? ⟨B, 12, none⟩ = some cv) ∧ ∀ j, w.frozen? ⟨B, j, none⟩ = false := by
  have c : ∀ j, w.cell? ⟨B, j, none⟩ = (r.cells M ++ restOf m last cv)[j]? := fun j => by rw [World.cell?, h.box]; simp
  exact ⟨⟨c 5, c 11, c 12⟩, fun j => by simp [World.frozen?, h.box]⟩
theorem restOf_all (m : MoV) (last : Int) (cv : Value) {w0 : World} {B M : Nat} {T : TypeId} {r : RV} {w : World} (h : RdAt w0 B M T (restOf m last cv) r w) :
    ∀ j, j < 13 → ∃ v, w.cell? ⟨B, j, none⟩ = some v := fun j hj => by
  have c : w.cell? ⟨B, j, none⟩ = (r.cells M ++ restOf m last cv)[j]? := by rw [World.cell?, h.box]; simp
  have hl : (r.cells M ++ restOf m last cv).length = 13 := rfl
  exact ⟨_, c.trans (List.getElem?_eq_getElem (by omega))⟩
def DidPart (w0 : World) (base B M : Nat) (T : TypeId) (last : Int) (r : RV) (w : World) (P : Pr Pts) (e : Ending) (w' : World) : Prop :=
  ∃ (m' : MoV) (cv' : Value) (codes' : List FnV) (r' : RV), e = .returned (.tuple #[]) ∧ Got P r r' (ptsOf m' last codes') ∧ RdAt w0 B M T (restOf m' last cv') r' w' ∧ Mov B M w w' ∧ PtsMem base B M m' cv' codes' w'
end Go.Proofs.YthfipknfdnfalaaGreatDoor
