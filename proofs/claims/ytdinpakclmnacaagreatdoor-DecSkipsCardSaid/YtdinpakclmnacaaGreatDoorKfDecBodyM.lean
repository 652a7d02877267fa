/-
  Facts and contracts that the proof calls.
-/
import Derived.Test.YtdinpakclmnacaaGreatDoorKfDecThings
import Derived.Test.YtdinpakclmnacaaGreatDoorKfFnMap
namespace Go.Proofs.YtdinpakclmnacaaGreatDoor
set_option maxRecDepth 100000
set_option maxHeartbeats 16000000
open Go.RowKit
set_option linter.unusedVariables false
def InsOwn (base : Nat) (w : World) (x : InsV) : Prop :=
  w.ownsRow base 3 1 (.slice x.lp x.ls.length x.lc) x.ls.length (x.ls.flatMap rowInt) ∧ x.ls.length ≤ 4096 ∧ (∀ n ∈ x.ls, 0 ≤ n ∧ n < 4294967296) ∧ inI64 x.op ∧ inI64 x.a ∧ inI64 x.b
def InsV.lab (x : InsV) : Value := .slice x.lp x.ls.length x.lc
theorem InsOwn.same {base : Nat} {w w' : World} {x : InsV} (h : InsOwn base w x) (hm : ∀ g, x.lab.ownBlock = some g → w'.heap[g]? = w.heap[g]?) : InsOwn base w' x := ⟨own_same h.1 hm, h.2⟩
theorem InsOwn.lt {base : Nat} {w : World} {x : InsV} (h : InsOwn base w x) : ∀ g, x.lab.ownBlock = some g → base ≤ g ∧ g < w.heap.size := fun g hg => own_lt6 h.1 g hg
theorem InsOwn.down {base b2 : Nat} {w : World} {x : InsV} (h : InsOwn base w x) (hb : b2 ≤ base) : InsOwn b2 w x := ⟨own_down h.1 hb, h.2⟩
structure BodyMem (w0 w : World) (B M : Nat) (T : TypeId) (rest : List Value) (rk : RV) (v o : Value) (xs l : List InsV) (q : List Int) (W : World) : Prop where
  rd : RdAt w0 B M T rest rk W
  mov : Mov B M w W
  hB : B < w.heap.size
  hM : M < w.heap.size
  hw : w0.heap.size ≤ w.heap.size
  own : W.ownsRow w.heap.size 46 4 v l.length (l.flatMap InsV.row)
  opn : W.ownsRow w.heap.size 5 1 o q.length (openB q)
  far : ∀ g, v.ownBlock = some g → o.ownBlock ≠ some g
  ins : ∀ x ∈ xs, InsOwn w.heap.size W x
  lab : ∀ x ∈ xs, ∀ g, x.lab.ownBlock = some g → v.ownBlock ≠ some g ∧ o.ownBlock ≠ some g
theorem BodyMem.call {w0 w : World} {B M : Nat} {T : TypeId} {rest : List Value} {rk r1 : RV} {v o : Value} {xs l : List InsV} {q : List Int} {W W1 : World} (h : BodyMem w0 w B M T rest rk v o xs l q W) (hm : Mov B M W W1) (hr : RdAt w0 B M T rest r1 W1) :
    BodyMem w0 w B M T rest r1 v o xs l q W1 :=
  ⟨hr, h.mov.trans hm, h.hB, h.hM, h.hw, own_mov h.own hm h.hB h.hM, own_mov h.opn hm h.hB h.hM, h.far, fun x hx => (h.ins x hx).same fun g hg => by have := (h.ins x hx).lt g hg; have := h.hB; have := h.hM; exact hm.block g (by omega) (by omega) (by omega), h.lab⟩
theorem BodyMem.instr {w0 w : World} {B M : Nat} {T : TypeId} {rest : List Value} {rk r1 : RV} {v o : Value} {xs l : List InsV} {q : List Int} {W W1 : World} {x : InsV} (h : BodyMem w0 w B M T rest rk v o xs l q W) (hm : Mov B M W W1) (hr : RdAt w0 B M T rest r1 W1) (hx : InsNew W W1 x) :
    BodyMem w0 w B M T rest r1 v o (xs ++ [x]) l q W1 := by
  have h1 := h.call hm hr
  have hs := h.mov.size
  have hx' : InsOwn W.heap.size W1 x := hx
  refine ⟨h1.rd, h1.mov, h1.hB, h1.hM, h1.hw, h1.own, h1.opn, h1.far, fun y hy => ?_, fun y hy g hg => ?_⟩
  · rcases List.mem_append.1 hy with hy | hy
    · exact h1.ins y hy
    · rw [List.mem_singleton.1 hy]; exact hx'.down hs
  · rcases List.mem_append.1 hy with hy | hy
    · exact h1.lab y hy g hg
    · rw [List.mem_singleton.1 hy] at hg
      have := hx'.lt g hg
      exact ⟨fun e => by have := own_lt6 h.own g e; omega, fun e => by have := own_lt6 h.opn g e; omega⟩
theorem BodyMem.more {w0 w : World} {B M : Nat} {T : TypeId} {rest : List Value} {rk : RV} {v v' o : Value} {xs l : List InsV} {q : List Int} {W W1 : World} {x : InsV} (h : BodyMem w0 w B M T rest rk v o xs l q W) (hown : W1.ownsRow w.heap.size 46 4 v' (l.length + 1) (l.flatMap InsV.row ++ x.row)) (hg : W.grownBy W1 v.ownBlock) (hv : v'.ownBlock = v.ownBlock ∨ v'.ownBlock = some W.heap.size) :
    BodyMem w0 w B M T rest rk v' o xs (l ++ [x]) q W1 := by
  have hge : ∀ k, v.ownBlock = some k → w.heap.size ≤ k := fun k hk => (own_lt6 h.own k hk).1
  have hB := h.hB
  have hM := h.hM
  refine ⟨h.rd.grown hg (fun k hk => by have := hge k hk; omega) (fun k hk => by have := hge k hk; omega), h.mov.grown hg hge, hB, hM, h.hw, by rw [List.length_append, List.flatMap_append]; simpa using hown, h.opn.kept hg ?_, fun g hg2 hg3 => ?_, fun y hy => (h.ins y hy).same fun g hg2 => ?_, fun y hy g hg2 => ?_⟩
  · cases ho : o.ownBlock with
    | none => exact .inl rfl
    | some g => exact .inr fun e => h.far g e.symm ho
  · rcases hv with e | e
    · exact h.far g (e ▸ hg2) hg3
    · rw [e] at hg2; have := own_lt6 h.opn g hg3; cases hg2; omega
  · exact hg.block g ((h.ins y hy).lt g hg2).2 (fun e => (h.lab y hy g hg2).1 e.symm)
  · refine ⟨fun e2 => ?_, (h.lab y hy g hg2).2⟩
    rcases hv with e | e
    · exact (h.lab y hy g hg2).1 (e ▸ e2)
    · rw [e] at e2; have := (h.ins y hy).lt g hg2; cases e2; omega
theorem BodyMem.nest {w0 w : World} {B M : Nat} {T : TypeId} {rest : List Value} {rk r1 : RV} {v o o' : Value} {xs l : List InsV} {q q' : List Int} {W W1 : World} {base : Nat} (h : BodyMem w0 w B M T rest rk v o xs l q W) (hb : base = w.heap.size) (hn : NestSt w0 B M T rest base o r1 q' W W1 o') :
    BodyMem w0 w B M T rest r1 v o' xs l q' W1 := by
  subst hb
  have hB := h.hB
  have hM := h.hM
  have hs := h.mov.size
  have hk : ∀ k, w.heap.size ≤ k → k < W.heap.size → o.ownBlock ≠ some k → W1.heap[k]? = W.heap[k]? := fun k h1 h2 h3 => hn.block k h2 (by omega) (by omega) h3
  refine ⟨hn.rd, ⟨hn.os.trans h.mov.os, hn.tape.trans h.mov.tape, hn.output.trans h.mov.output, Nat.le_trans hs hn.size, fun k h1 h2 h3 => (hn.block k (by omega) h2 h3 (fun e => by have := own_lt6 h.opn k e; omega)).trans (h.mov.block k h1 h2 h3)⟩, hB, hM, h.hw,
    own_same h.own fun g hg => hk g (own_lt6 h.own g hg).1 (own_lt6 h.own g hg).2 (h.far g hg), hn.own, fun g hg hg2 => ?_, fun y hy => (h.ins y hy).same fun g hg => hk g ((h.ins y hy).lt g hg).1 ((h.ins y hy).lt g hg).2 (h.lab y hy g hg).2, fun y hy g hg => ⟨(h.lab y hy g hg).1, fun e => ?_⟩⟩
  · rcases hn.at' g hg2 with e | e
    · exact h.far g hg e
    · have := own_lt6 h.own g hg; omega
  · rcases hn.at' g e with e | e
    · exact (h.lab y hy g hg).2 e
    · have := (h.ins y hy).lt g hg; omega
theorem BodyMem.start {w0 w : World} {B M : Nat} {T : TypeId} {rest : List Value} {r : RV} (h : RdAt w0 B M T rest r w) :
    BodyMem w0 w B M T rest r (.slice none 0 0) (.slice (some ⟨w.heap.size, 0, none⟩) 1 1) [] [] [2] (w.alloc (.cells #[.int .u8 2] 5)) :=
  { rd := h.alloc _
    mov := (Mov.refl B M w).alloc _
    hB := h.lt.1
    hM := h.lt.2
    hw := h.below.size
    own := World.ownsRow_nil _ _ _ _
    opn := ⟨rfl, .inr ⟨w.heap.size, 1, #[.int .u8 2], rfl, Nat.le_refl _, heap_alloc_new w _, Nat.le_refl _, by unfold maxLen; omega, rfl, rfl⟩⟩
    far := fun g hg => by cases hg
    ins := fun x hx => absurd hx List.not_mem_nil
    lab := fun x hx => absurd hx List.not_mem_nil }
def DidBody (w0 : World) (B M : Nat) (T : TypeId) (rest : List Value) (r : RV) (w : World) (e : Ending) (w' : World) : Prop :=
  ∃ (l : List InsV) (r' : RV) (v : Value), e = .returned v ∧ Got (body []) r r' (l.map InsV.bare) ∧ RdAt w0 B M T rest r' w' ∧ Mov B M w w' ∧ w'.ownsRow w.heap.size 46 4 v l.length (l.flatMap InsV.row) ∧ (∀ x ∈ l, InsOwn w.heap.size w' x) ∧ l.length ≤ 1048577
theorem info_instr : (Tryz.prog.info? 46).map (fun i => (i.zero, i.size, i.bytes)) = some (some (.agg #[.int .i64 0, .int .i64 0, .int .i64 0, .slice none 0 0]), 4, 48) := by kernel_rfl
theorem nestR_at (r : RV) (q : List Int) (c : Int) : (nestR r q c).s = r.s ∧ (nestR r q c).pos = r.pos ∧ ((nestR r q c).e = 0 → r.e = 0) := by
  unfold nestR
  split
  · exact ⟨rfl, rfl, fun h => absurd h (bad_e (by decide))⟩
  · exact ⟨rfl, rfl, id⟩
theorem nestQ_len (q : List Int) (c : Int) : (nestQ q c).length ≤ q.length + 1 := by
  unfold nestQ
  split
  · simp
  · split
    · simp
    · split
      · simp; omega
      · omega
theorem insrow_one (x : InsV) : ∀ u ∈ x.row, u.oneCell' = true := by intro u hu; simp [InsV.row] at hu; rcases hu with rfl | rfl | rfl | rfl <;> rfl
theorem body_reads {w0 : World} (hLaid : Laid w0) {B M : Nat} {T : TypeId} {rest : List Value} {r : RV} {w : World} (h : RdAt w0 B M T rest r w) (hsz : r.s.size ≤ 1048576) :
    Calls Tryz.prog 233 #[.pointer (some ⟨B, 0, none⟩)] w (DidBody w0 B M T rest r w) := by
  obtain ⟨i0, hi, hz0, hz1, hz2⟩ := info_parts info_instr
  have hS := BodyMem.start h
  have hG := Lib.hid (Going.start r)
  obtain ⟨n0, hn0⟩ : ∃ n0, n0 = r.s.size + 1 := ⟨_, rfl⟩
  clear h
  go_enter Tryz.func233, Tryz.ntmps233
  go_wp2
  go_loopg [3, 4] n0 (fun gg v o wr => ∃ (rk : RV) (l : List InsV) (q : List Int), BodyMem w0 w B M T rest rk v o l l q wr ∧ Hid (Going r rk (l.map InsV.bare) q) ∧ rk.s = r.s ∧ (rk.e = 0 → r.s.size + 1 ≤ gg + rk.pos ∧ l.length ≤ rk.pos) ∧ l.length ≤ 1048577 ∧ q.length ≤ l.length + 1)
  case atStart => exact ⟨r, [], [2], hS, hG, rfl, fun _ => ⟨by omega, Nat.zero_le _⟩, by simp, by simp⟩
  case round =>
    clear hS hG
    obtain ⟨rk, l, q, hS, hG, hrs, he, hl, hq⟩ := hrel
    obtain ⟨vp, vc, rfl⟩ := own_any6 hS.own
    obtain ⟨op, oc, rfl⟩ := own_any6 hS.opn
    obtain ⟨x0, x1, x2, x3, y0, y1, y2, y3⟩ := hS.rd.reads
    by_cases hq0 : q = []
    · subst hq0
      have hdone := hG.out.done (.inl rfl)
      have HD := Lib.hid hdone
      clear hdone he
      go_wp2
      go_ret
      exact ⟨l, rk, _, rfl, HD.out, hS.rd, hS.mov, hS.own, hS.ins, hl⟩
    have hql : (0 : Int) < (q.length : Int) := by have := List.length_pos_iff.2 hq0; omega
    by_cases he0 : rk.e = 0
    · obtain ⟨hm1, hm2⟩ := he he0
      have hpos := hS.rd.pos
      rw [hrs] at hpos
      have c1 := instr_reads hLaid hS.rd
      rw [he0] at x2
      have HE := Lib.hid he0
      have HQ := Lib.hid hq0
      clear he he0 hq0
      go_wp2_with fail
      refine c1.mono ?_
      rintro e w1 ⟨x, r1, rfl, g1, h1, m1, new1⟩
      have hS1 := hS.instr m1 h1 new1
      have HG1 := Lib.hid g1
      clear c1 hS x0 x1 x2 x3 y0 y1 y2 y3 g1 h1 m1 new1
      have hlv : ∀ g, (Value.slice vp l.length vc).ownBlock = some g → g < w1.heap.size := fun g hg => (own_lt6 hS1.own g hg).2
      have m2 : Mov B M w1 ((w1.alloc (.cells x.row.toArray 46)).alloc (.cells x.row.toArray 46)) := ((Mov.refl B M w1).alloc _).alloc _
      have hS3 := hS1.call m2 ((hS1.rd.alloc (.cells x.row.toArray 46)).alloc (.cells x.row.toArray 46))
      have hb3 : ((w1.alloc (.cells x.row.toArray 46)).alloc (.cells x.row.toArray 46)).heap[w1.heap.size]? = some (.cells x.row.toArray 46) := (Below.heap_alloc _ _ _ (by simp)).trans (heap_alloc_new w1 _)
      have hc3 : ∀ j u, x.row[j]? = some u → ((w1.alloc (.cells x.row.toArray 46)).alloc (.cells x.row.toArray 46)).cell? ((⟨w1.heap.size + 1, 0, none⟩ : Addr).add j) = some u := by
        have := cells_new6 (w1.alloc (.cells x.row.toArray 46)) x.row 46
        rwa [show (w1.alloc (.cells x.row.toArray 46)).heap.size = w1.heap.size + 1 by simp] at this
      have hsz3 : w.heap.size ≤ ((w1.alloc (.cells x.row.toArray 46)).alloc (.cells x.row.toArray 46)).heap.size := hS3.mov.size
      have hl3 : w1.heap.size < ((w1.alloc (.cells x.row.toArray 46)).alloc (.cells x.row.toArray 46)).heap.size := in_heap6 hb3
      have hz3 : ((w1.alloc (.cells x.row.toArray 46)).alloc (.cells x.row.toArray 46)).heap.size = w1.heap.size + 1 + 1 := by simp
      clear m2 hS1
      unfold InsV.val
      unfold InsV.row at hS3 hb3 hc3 hsz3 hl3 hz3
      dsimp only [List.toArray] at hS3 hb3 hc3 hsz3 hl3 hz3
      have HZ := Lib.hid hz3
      clear hz3
      go_wp2_with (at_builtin; refine wpList_append_own_at _ rfl (.tmp 19) (.tmp 21) 70 rfl w.heap.size 46 i0 (.agg #[.int .i64 0, .int .i64 0, .int .i64 0, .slice none 0 0]) 4 48 Tryz.underlying70 hi hz0 hz1 hz2 rfl (by decide) (.slice vp l.length vc) l.length (l.flatMap InsV.row) rfl hS3.own ⟨w1.heap.size + 1, 0, none⟩ 1 1 x.row rfl rfl hc3 (insrow_one x) (by unfold maxLen; omega) (by omega) hsz3 ?_)
      intro v' w4 hown4 hg4 _ hv4
      rw [← HZ.out] at hv4
      have hS4 := hS3.more hown4 hg4 hv4
      have hb4 := (hg4.block w1.heap.size hl3 (fun e => by have := hlv w1.heap.size e.symm; omega)).trans hb3
      obtain ⟨z0, z1, z2, z3, z4, _⟩ := (box_at hb4).2.2.2.2
      clear z1 z2 z3 z4 hS3 hc3 hb3 hown4 hg4 hv4 hlv hb4
      have c2 := nest_reads hS4.rd w.heap.size q HQ.out (.slice op q.length oc) hS4.opn x.op (by omega) hS4.hB hS4.hM hS4.mov.size hS4.hw
      go_wp2_with fail
      refine c2.mono ?_
      rintro e w5 ⟨o', rfl, hn⟩
      have hS5 := hS4.nest rfl hn
      clear hS4 c2 hn
      obtain ⟨t1, t2, t3⟩ := nestR_at r1 q x.op
      have t4 := nestQ_len q x.op
      have HT3 := Lib.hid t3
      have hrs1 : r1.s = r.s := HG1.out.1.trans hrs
      have hll : (l ++ [x]).length = l.length + 1 := by simp
      have HLL := Lib.hid hll
      have HRS := Lib.hid hrs1
      have HS5 := Lib.hid hS5
      have HT := Lib.hid (And.intro t1 t2)
      have hG5 : Going r (nestR r1 q x.op) ((l ++ [x]).map InsV.bare) (nestQ q x.op) := by
        rw [List.map_append]
        exact hG.out.step HE.out HQ.out HG1.out
      have HG5 := Lib.hid hG5
      clear t1 t2 t3 hrs1 hll hS5 hG5
      go_wp2_with fail
      go_roundg (gk - 1)
      case rel =>
        refine ⟨nestR r1 q x.op, l ++ [x], nestQ q x.op, HS5.out, HG5, HT.out.1.trans HRS.out, fun h0 => ?_, by rw [HLL.out]; omega, by rw [HLL.out]; omega⟩
        have h1 := HG1.out.eats HE.out (HT3.out h0)
        rw [HLL.out, HT.out.2]
        omega
      case measure => omega
    · have hz : (rk.e == 0) = false := beq_eq_false_iff_ne.2 he0
      have hdone := hG.out.done (.inr he0)
      have HD := Lib.hid hdone
      clear hdone he he0 hq0
      go_wp2
      go_ret
      exact ⟨l, rk, _, rfl, HD.out, hS.rd, hS.mov, hS.own, hS.ins, hl⟩
theorem Pr.and_and {α β γ : Type} (p : Pr α) (f : α → Pr β) (g : β → Pr γ) : (p.and f).and g = p.and fun x => (f x).and g := by
  funext l
  unfold Pr.and
  cases p l with
  | ok v r => rfl
  | bad e => rfl
theorem pCodeIn_eq : pCodeIn = pLocAll.and fun ls => (body []).and fun c => .val (ls, c) := by
  unfold pLocAll
  rw [Pr.and_and]
  rfl
structure FnOwn (base : Nat) (w : World) (f : FnV) : Prop where
  own : w.ownsRow base 46 4 (.slice f.cp f.code.length f.cc) f.code.length (f.code.flatMap InsV.row)
  ins : ∀ x ∈ f.code, InsOwn base w x
  len : f.code.length ≤ 1048577
  loc : f.locals.size ≤ 16384
  type : inI64 f.type
theorem FnOwn.keep {base : Nat} {w w' : World} {f : FnV} (h : FnOwn base w f) (hk : ∀ g, base ≤ g → g < w.heap.size → w'.heap[g]? = w.heap[g]?) : FnOwn base w' f :=
  ⟨own_same h.own fun g hg => hk g (own_lt6 h.own g hg).1 (own_lt6 h.own g hg).2, fun x hx => (h.ins x hx).same fun g hg => hk g ((h.ins x hx).lt g hg).1 ((h.ins x hx).lt g hg).2, h.len, h.loc, h.type⟩
theorem FnOwn.down {base b2 : Nat} {w : World} {f : FnV} (h : FnOwn base w f) (hb : b2 ≤ base) : FnOwn b2 w f := ⟨own_down h.own hb, fun x hx => (h.ins x hx).down hb, h.len, h.loc, h.type⟩
theorem FnOwn.mov {base B M : Nat} {w w' : World} {f : FnV} (h : FnOwn base w f) (hm : Mov B M w w') (hB : B < base) (hM : M < base) : FnOwn base w' f := h.keep fun g hg hl => hm.block g hl (by omega) (by omega)
def InCode (rest : List Value) (F : Nat) (rest' : List Value) (W W1 : World) (x : List UInt8 × List InsV) : Prop :=
  rest' = rest ∧ ∃ f : FnV, f.bare = fnOf x ∧ W1.heap[F]? = some (.cells f.row.toArray 72) ∧ FnOwn W.heap.size W1 f
theorem MovF.setF6 {B M F : Nat} {w w' : World} (h : MovF B M F w w') (j : Nat) (v : Value) : MovF B M F w (w'.setCell ⟨F, j, none⟩ v) :=
  h.trans ⟨rfl, rfl, rfl, by simp [World.setCell], fun k _ _ _ h1 => Below.heap_setCell _ _ _ _ h1⟩
theorem code_in6 {w0 : World} (hLaid : Laid w0) {B M F pr : Nat} {T : TypeId} {rest : List Value} {w : World} (hpr : w.heap[pr]? = some (.cells #[.pointer (some ⟨B, 0, none⟩)] 176)) (hF : w.heap[F]? = some (.cells #[.int .i64 0, .string ⟨#[]⟩, .slice none 0 0] 72))
    (p1 : pr ≠ B) (p2 : pr ≠ M) (f1 : F ≠ B) (f2 : F ≠ M) (hw : w0.heap.size ≤ F) (N : Nat) (hN : N ≤ 1048576) :
    Within w0 B M F T rest w N 231 #[.pointer (some ⟨pr, 0, none⟩), .pointer (some ⟨F, 0, none⟩)] pCodeIn (InCode rest F) := by
  rw [pCodeIn_eq]
  intro r2 W h hm hsz
  have hprW := (hm.block _ (in_heap6 hpr) p1 p2).trans hpr
  have hFW := (hm.block _ (in_heap6 hF) f1 f2).trans hF
  have hpF : pr ≠ F := fun e => by rw [e, hFW] at hprW; cases hprW
  have c1 := locals_reads w0 B M T rest r2 W h
  have x0 : W.cell? ⟨pr, 0, none⟩ = some (.pointer (some ⟨B, 0, none⟩)) := by simp [World.cell?, hprW]
  clear hpr hF hm
  go_enter Tryz.func231, Tryz.ntmps231
  go_wp2_with fail
  refine c1.mono ?_
  rintro e w1 ⟨ls, r3, rfl, g1, h1, m1, hls⟩
  have hpr1 := (m1.block _ (in_heap6 hprW) p1 p2).trans hprW
  have hF1 := (m1.block _ (in_heap6 hFW) f1 f2).trans hFW
  have y1 : w1.frozen? ⟨F, 1, none⟩ = false := by simp [World.frozen?, hF1]
  have z1 : w1.cell? ⟨F, 1, none⟩ = some (.string ⟨#[]⟩) := by simp [World.cell?, hF1]
  have hs2 : (w1.setCell ⟨F, 1, none⟩ (.string (bs ls))).heap[F]? = some (.cells #[.int .i64 0, .string (bs ls), .slice none 0 0] 72) := heap_setCell_same w1 F 1 _ _ _ hF1
  have hpr2 : (w1.setCell ⟨F, 1, none⟩ (.string (bs ls))).heap[pr]? = some (.cells #[.pointer (some ⟨B, 0, none⟩)] 176) := (Below.heap_setCell _ _ _ _ hpF).trans hpr1
  have h2 := h1.other 1 (.string (bs ls)) f1 f2 hw
  have m2 := (m1.on F).setF6 1 (.string (bs ls))
  have x2 : (w1.setCell ⟨F, 1, none⟩ (.string (bs ls))).cell? ⟨pr, 0, none⟩ = some (.pointer (some ⟨B, 0, none⟩)) := by simp [World.cell?, hpr2]
  have hsz1 : W.heap.size ≤ (w1.setCell ⟨F, 1, none⟩ (.string (bs ls))).heap.size := m2.size
  have hFlt : F < W.heap.size := in_heap6 hFW
  have c2 := body_reads hLaid h2 (by rw [g1.1]; omega)
  have HG := Lib.hid g1
  clear c1 h hprW hFW x0 hpr1 hF1 h1 m1 g1 hpr2
  dsimp only [valStr]
  go_wp2_with fail
  refine c2.mono ?_
  rintro e w2 ⟨l, r4, v, rfl, g2, h4, m4, hown, hins, hlen⟩
  have hF4 := (m4.block _ (in_heap6 hs2) f1 f2).trans hs2
  have y2 : w2.frozen? ⟨F, 2, none⟩ = false := by simp [World.frozen?, hF4]
  have z2 : w2.cell? ⟨F, 2, none⟩ = some (.slice none 0 0) := by simp [World.cell?, hF4]
  obtain ⟨vp, vc, rfl⟩ := own_any6 hown
  have hs5 : (w2.setCell ⟨F, 2, none⟩ (.slice vp l.length vc)).heap[F]? = some (.cells #[.int .i64 0, .string (bs ls), .slice vp l.length vc] 72) := heap_setCell_same w2 F 2 _ _ _ hF4
  have h5 := h4.other 2 (.slice vp l.length vc) f1 f2 hw
  have m5 := (m2.trans (m4.on F)).setF6 2 (.slice vp l.length vc)
  have hfn : FnOwn W.heap.size w2 ⟨0, bs ls, vp, vc, l⟩ := ⟨own_down hown hsz1, fun x hx => (hins x hx).down hsz1, hlen, by show (bs ls).size ≤ 16384; rw [bs_len6]; exact hls, ⟨by show (-9223372036854775808 : Int) ≤ 0; decide, by show (0 : Int) ≤ 9223372036854775807; decide⟩⟩
  have hfn5 : FnOwn W.heap.size (w2.setCell ⟨F, 2, none⟩ (.slice vp l.length vc)) ⟨0, bs ls, vp, vc, l⟩ := hfn.keep fun g hg hl => Below.heap_setCell _ _ _ _ (by show g ≠ F; omega)
  have hgot : Got (pLocAll.and fun ls => (body []).and fun c => .val (ls, c)) r2 r4 (ls, l.map InsV.bare) := HG.out.and (g2.map (fun c => (ls, c)))
  have HGT := Lib.hid hgot
  clear c2 h2 m2 x2 hs2 hown hins hfn g2 h4 m4 HG hgot
  go_wp2
  go_end0
  exact ⟨(ls, l.map InsV.bare), r4, rest, rfl, HGT.out, h5, m5, rfl, ⟨0, bs ls, vp, vc, l⟩, rfl, hs5, hfn5⟩
def DidFn (w0 : World) (B M : Nat) (T : TypeId) (rest : List Value) (r : RV) (w : World) (P : Pr FnV) (e : Ending) (w' : World) : Prop :=
  ∃ (f : FnV) (r' : RV), e = .returned f.val ∧ Got P r r' f.bare ∧ RdAt w0 B M T rest r' w' ∧ Mov B M w w' ∧ FnOwn w.heap.size w' f
theorem enters_code1 : ∀ args w, (callFunc 231 args).run Tryz.prog w = .ok (.enter 231 args) w := enters_of Tryz.func231 (by kernel_rfl) rfl
theorem code_reads {w0 : World} (hLaid : Laid w0) {B M : Nat} {T : TypeId} {rest : List Value} {r : RV} {w : World} (h : RdAt w0 B M T rest r w) (hsz : r.s.size ≤ 1048576) :
    Calls Tryz.prog 181 #[.pointer (some ⟨B, 0, none⟩)] w (DidFn w0 B M T rest r w pCode) := by
  have hlt := h.lt
  have hBl := hlt.1
  have hMl := hlt.2
  have hw0 := h.below.size
  obtain ⟨wa, hwa⟩ : ∃ wa, wa = w.alloc (.cells #[.pointer (some ⟨B, 0, none⟩)] 176) := ⟨_, rfl⟩
  obtain ⟨wb, hwb⟩ : ∃ wb, wb = wa.alloc (.cells #[.int .i64 0, .string ⟨#[]⟩, .slice none 0 0] 72) := ⟨_, rfl⟩
  obtain ⟨wc, hwc⟩ : ∃ wc, wc = wb.alloc (.cells #[.int .i64 0, .string ⟨#[]⟩, .slice none 0 0] 72) := ⟨_, rfl⟩
  have sa : wa.heap.size = w.heap.size + 1 := by rw [hwa]; simp
  have sb : wb.heap.size = w.heap.size + 2 := by rw [hwb]; simp [sa]
  have sc : wc.heap.size = w.heap.size + 3 := by rw [hwc]; simp [sb]
  have hpa : wa.heap[w.heap.size]? = some (.cells #[.pointer (some ⟨B, 0, none⟩)] 176) := by rw [hwa]; exact heap_alloc_new w _
  have hpb : wb.heap[w.heap.size]? = some (.cells #[.pointer (some ⟨B, 0, none⟩)] 176) := by rw [hwb]; exact (Below.heap_alloc _ _ _ (by omega)).trans hpa
  have hpc : wc.heap[w.heap.size]? = some (.cells #[.pointer (some ⟨B, 0, none⟩)] 176) := by rw [hwc]; exact (Below.heap_alloc _ _ _ (by omega)).trans hpb
  have hrb : wb.heap[w.heap.size + 1]? = some (.cells #[.int .i64 0, .string ⟨#[]⟩, .slice none 0 0] 72) := by rw [hwb, ← sa]; exact heap_alloc_new wa _
  have hrc : wc.heap[w.heap.size + 1]? = some (.cells #[.int .i64 0, .string ⟨#[]⟩, .slice none 0 0] 72) := by rw [hwc]; exact (Below.heap_alloc _ _ _ (by omega)).trans hrb
  have hfc : wc.heap[w.heap.size + 1 + 1]? = some (.cells #[.int .i64 0, .string ⟨#[]⟩, .slice none 0 0] 72) := by rw [hwc, show w.heap.size + 1 + 1 = wb.heap.size by omega]; exact heap_alloc_new wb _
  have hc : RdAt w0 B M T rest r wc := by rw [hwc, hwb, hwa]; exact ((h.alloc _).alloc _).alloc _
  have mc : Mov B M w wc := by rw [hwc, hwb, hwa]; exact (((Mov.refl B M w).alloc _).alloc _).alloc _
  have x0 : wc.cell? ⟨w.heap.size, 0, none⟩ = some (.pointer (some ⟨B, 0, none⟩)) := by simp [World.cell?, hpc]
  have c1 := whole_of hc 231 #[.pointer (some ⟨w.heap.size, 0, none⟩), .pointer (some ⟨w.heap.size + 1 + 1, 0, none⟩)] enters_code1 (code_in6 hLaid (rest := rest) hpc hfc (by omega) (by omega) (by omega) (by omega) (by omega) _ hsz)
  have HW := Lib.hid (And.intro hwa (And.intro hwb hwc))
  have HS := Lib.hid (And.intro sa (And.intro sb sc))
  clear h hlt hpa hpb hrb hc hwa hwb hwc sa sb
  go_enter Tryz.func181, Tryz.ntmps181
  go_wp2_with fail
  obtain ⟨e1, e2, e3⟩ := HW.out
  rw [← e1, ← e2, ← e3]
  clear e1 e2 e3 HW
  refine c1.mono ?_
  rintro e w1 ⟨x, r1, rest', W, W1, rfl, g1, h1, mW, mF, ⟨rfl, f, hfb, hF1, hown⟩, m1⟩
  have n1 : w.heap.size + 1 ≠ B := by omega
  have n2 : w.heap.size + 1 ≠ M := by omega
  have n3 : w.heap.size + 1 + 1 ≠ B := by omega
  have n4 : w.heap.size + 1 + 1 ≠ M := by omega
  have hrW := (mW.block _ (in_heap6 hrc) n1 n2).trans hrc
  have hr1 := (mF.block _ (in_heap6 hrW) n1 n2 (by omega)).trans hrW
  have hr2 := (m1.block _ (in_heap6 hr1) n1 n2).trans hr1
  have hF2 := (m1.block _ (in_heap6 hF1) n3 n4).trans hF1
  have hWs : w.heap.size + 3 ≤ W.heap.size := by have := mW.size; omega
  have hown2 : FnOwn W.heap.size w1 f := hown.mov m1 (by omega) (by omega)
  have hgot : Got pCode r r1 f.bare := by rw [hfb]; exact g1.map fnOf
  have HGT := Lib.hid hgot
  have mm : Mov B M w w1 := ((((mc.trans mW).on (w.heap.size + 1 + 1)).trans mF).new (by omega)).trans m1
  obtain ⟨ft, fl, fp, fc, fcode⟩ := f
  unfold FnV.row at hF2
  dsimp only [List.toArray] at hF2
  have c0 : w1.cell? ⟨w.heap.size + 1 + 1, 0, none⟩ = some (.int .i64 ft) := by simp [World.cell?, hF2]
  have c2 : w1.cell? ⟨w.heap.size + 1 + 1, 1, none⟩ = some (.string fl) := by simp [World.cell?, hF2]
  have c3 : w1.cell? ⟨w.heap.size + 1 + 1, 2, none⟩ = some (.slice fp fcode.length fc) := by simp [World.cell?, hF2]
  have d0 : w1.cell? ⟨w.heap.size + 1, 0, none⟩ = some (.int .i64 0) := by simp [World.cell?, hr2]
  have d1 : w1.cell? ⟨w.heap.size + 1, 1, none⟩ = some (.string ⟨#[]⟩) := by simp [World.cell?, hr2]
  have d2 : w1.cell? ⟨w.heap.size + 1, 2, none⟩ = some (.slice none 0 0) := by simp [World.cell?, hr2]
  have e0 : w1.frozen? ⟨w.heap.size + 1, 0, none⟩ = false := by simp [World.frozen?, hr2]
  have e1 : w1.frozen? ⟨w.heap.size + 1, 1, none⟩ = false := by simp [World.frozen?, hr2]
  have e2 : w1.frozen? ⟨w.heap.size + 1, 2, none⟩ = false := by simp [World.frozen?, hr2]
  have hlt1 : w.heap.size + 1 < w1.heap.size := in_heap6 hr2
  clear c1 hrc hrW hr1 hF1 hF2 hown hgot g1 hfc hpc hfb mW mF m1 mc x0 hr2
  go_wp2
  refine bodyPost_ret (v := FnV.val ⟨ft, fl, fp, fc, fcode⟩) ?_ rfl ?_
  · rw [results_one_cell rfl]; simp [FnV.val]; go_simp
  · refine ⟨⟨ft, fl, fp, fc, fcode⟩, r1, rfl, HGT.out, ((h1.other 0 _ n1 n2 (by omega)).other 1 _ n1 n2 (by omega)).other 2 _ n1 n2 (by omega), ((mm.setNew 0 _ (by omega)).setNew 1 _ (by omega)).setNew 2 _ (by omega), ?_⟩
    exact (hown2.keep fun g hg hl => by rw [Below.heap_setCell _ _ _ _ (by show g ≠ w.heap.size + 1; omega), Below.heap_setCell _ _ _ _ (by show g ≠ w.heap.size + 1; omega), Below.heap_setCell _ _ _ _ (by show g ≠ w.heap.size + 1; omega)]).down (by omega)
def FnV.has (f : FnV) (g : Nat) : Prop := (Value.slice f.cp f.code.length f.cc).ownBlock = some g ∨ ∃ x ∈ f.code, x.lab.ownBlock = some g
theorem FnOwn.lt {base : Nat} {w : World} {f : FnV} (h : FnOwn base w f) : ∀ g, f.has g → base ≤ g ∧ g < w.heap.size := fun g hg => by
  rcases hg with hg | ⟨x, hx, hg⟩
  · exact own_lt6 h.own g hg
  · exact (h.ins x hx).lt g hg
theorem FnOwn.same {base : Nat} {w w' : World} {f : FnV} (h : FnOwn base w f) (hk : ∀ g, f.has g → w'.heap[g]? = w.heap[g]?) : FnOwn base w' f :=
  ⟨own_same h.own fun g hg => hk g (.inl hg), fun x hx => (h.ins x hx).same fun g hg => hk g (.inr ⟨x, hx, hg⟩), h.len, h.loc, h.type⟩
def DidFns (w0 : World) (B M : Nat) (T : TypeId) (rest : List Value) (r : RV) (w : World) (P : Pr FnV) (e : Ending) (w' : World) : Prop :=
  ∃ (l : List FnV) (r' : RV) (v : Value), e = .returned v ∧ Got (pList P) r r' (l.map FnV.bare) ∧ RdAt w0 B M T rest r' w' ∧ Mov B M w w' ∧ w'.ownsRow w.heap.size 72 3 v l.length (l.flatMap FnV.row) ∧ (∀ f ∈ l, FnOwn w.heap.size w' f) ∧ l.length ≤ 4096
structure FnsMem (w0 w : World) (B M : Nat) (T : TypeId) (rest : List Value) (rk : RV) (v : Value) (fs l : List FnV) (W : World) : Prop where
  rd : RdAt w0 B M T rest rk W
  mov : Mov B M w W
  hB : B < w.heap.size
  hM : M < w.heap.size
  own : W.ownsRow w.heap.size 72 3 v l.length (l.flatMap FnV.row)
  fns : ∀ f ∈ fs, FnOwn w.heap.size W f
  far : ∀ f ∈ fs, ∀ g, f.has g → v.ownBlock ≠ some g
theorem FnsMem.call {w0 w : World} {B M : Nat} {T : TypeId} {rest : List Value} {rk r1 : RV} {v : Value} {fs l : List FnV} {W W1 : World} (h : FnsMem w0 w B M T rest rk v fs l W) (hm : Mov B M W W1) (hr : RdAt w0 B M T rest r1 W1) :
    FnsMem w0 w B M T rest r1 v fs l W1 :=
  ⟨hr, h.mov.trans hm, h.hB, h.hM, own_mov h.own hm h.hB h.hM, fun f hf => (h.fns f hf).mov hm h.hB h.hM, h.far⟩
theorem FnsMem.fn {w0 w : World} {B M : Nat} {T : TypeId} {rest : List Value} {rk r1 : RV} {v : Value} {fs l : List FnV} {W W1 : World} {f : FnV} (h : FnsMem w0 w B M T rest rk v fs l W) (hm : Mov B M W W1) (hr : RdAt w0 B M T rest r1 W1) (hf : FnOwn W.heap.size W1 f) :
    FnsMem w0 w B M T rest r1 v (fs ++ [f]) l W1 := by
  have h1 := h.call hm hr
  refine ⟨h1.rd, h1.mov, h1.hB, h1.hM, h1.own, fun y hy => ?_, fun y hy g hg => ?_⟩
  · rcases List.mem_append.1 hy with hy | hy
    · exact h1.fns y hy
    · rw [List.mem_singleton.1 hy]; exact hf.down h.mov.size
  · rcases List.mem_append.1 hy with hy | hy
    · exact h1.far y hy g hg
    · rw [List.mem_singleton.1 hy] at hg
      have := hf.lt g hg
      exact fun e => by have := own_lt6 h.own g e; omega
theorem FnsMem.more {w0 w : World} {B M : Nat} {T : TypeId} {rest : List Value} {rk : RV} {v v' : Value} {fs l : List FnV} {W W1 : World} {f : FnV} (h : FnsMem w0 w B M T rest rk v fs l W) (hown : W1.ownsRow w.heap.size 72 3 v' (l.length + 1) (l.flatMap FnV.row ++ f.row)) (hg : W.grownBy W1 v.ownBlock) (hv : v'.ownBlock = v.ownBlock ∨ v'.ownBlock = some W.heap.size) :
    FnsMem w0 w B M T rest rk v' fs (l ++ [f]) W1 := by
  have hge : ∀ k, v.ownBlock = some k → w.heap.size ≤ k := fun k hk => (own_lt6 h.own k hk).1
  have hB := h.hB
  have hM := h.hM
  refine ⟨h.rd.grown hg (fun k hk => by have := hge k hk; omega) (fun k hk => by have := hge k hk; omega), h.mov.grown hg hge, hB, hM, by rw [List.length_append, List.flatMap_append]; simpa using hown, fun y hy => (h.fns y hy).same fun g hg2 => ?_, fun y hy g hg2 e2 => ?_⟩
  · exact hg.block g ((h.fns y hy).lt g hg2).2 (fun e => h.far y hy g hg2 e.symm)
  · rcases hv with e | e
    · exact h.far y hy g hg2 (e ▸ e2)
    · rw [e] at e2; have := (h.fns y hy).lt g hg2; cases e2; omega
theorem FnsMem.start {w0 w : World} {B M : Nat} {T : TypeId} {rest : List Value} {rq : RV} {W : World} (h : RdAt w0 B M T rest rq W) (hm : Mov B M w W) (hB : B < w.heap.size) (hM : M < w.heap.size) : FnsMem w0 w B M T rest rq (.slice none 0 0) [] [] W :=
  ⟨h, hm, hB, hM, World.ownsRow_nil _ _ _ _, fun f hf => absurd hf List.not_mem_nil, fun f hf => absurd hf List.not_mem_nil⟩
theorem fnrow_one (f : FnV) : ∀ u ∈ f.row, u.oneCell' = true := by intro u hu; simp [FnV.row] at hu; rcases hu with rfl | rfl | rfl <;> rfl
theorem info_func : (Tryz.prog.info? 72).map (fun i => (i.zero, i.size, i.bytes)) = some (some (.agg #[.int .i64 0, .string ⟨#[]⟩, .slice none 0 0]), 3, 48) := by kernel_rfl
theorem list_fns {w0 : World} {g : Nat} {lb : Array Value} {P : Pr FnV} {N : Nat} (eg : ∀ args w, (callFunc g args).run Tryz.prog w = .ok (.enter g args) w)
    (hE : ∀ (B M : Nat) (T : TypeId) (rest : List Value) (r : RV) (W : World), RdAt w0 B M T rest r W → r.s.size ≤ N → Calls Tryz.prog g (#[.pointer (some ⟨B, 0, none⟩)] ++ lb) W (DidFn w0 B M T rest r W P))
    {B M : Nat} {T : TypeId} {rest : List Value} {r : RV} {w : World} (h : RdAt w0 B M T rest r w) (hN : r.s.size ≤ N) :
    Calls Tryz.prog 173 #[.pointer (some ⟨B, 0, none⟩), .func (.func g) #[] lb] w (DidFns w0 B M T rest r w P) := by
  have hlt := h.lt
  have hBl := hlt.1
  have hMl := hlt.2
  have c1 := number_reads w0 B M T rest r w h
  obtain ⟨i0, hi, hz0, hz1, hz2⟩ := info_parts info_func
  clear h hlt
  go_enter Tryz.func173, Tryz.ntmps173
  go_wp2_with (first
    | (go_at_call 127; (with_reducible refine c1.mono ?_); rintro e w1 ⟨n, r1, rfl, g1, h1, m1, ok1⟩; have c2 := fail_of h1 5; have ok0 := ok1.1; have ok2 := ok1.2; dsimp only [valInt])
    | (go_at_call 115; (with_reducible refine c2.mono ?_); rintro e w2 ⟨rfl, h2, m2⟩))
  · have hgt : 4096 < n := by assumption
    obtain ⟨rq, hq⟩ : ∃ rq, r1.bad 5 = rq := ⟨_, rfl⟩
    obtain ⟨hs, hm, hgm, hfew, hrs⟩ : RdAt w0 B M T rest rq w2 ∧ Mov B M w w2 ∧ Got pMany r rq n ∧ (rq.e = 0 → n ≤ 4096) ∧ rq.s = r.s := by
      rw [← hq]
      exact ⟨h2, m1.trans m2, (Got.many g1).1 hgt, fun e => absurd e (bad_e (by decide)), g1.1⟩
    clear hq h1 h2 m1 m2 g1 c2 c1 hgt
    have HG := Lib.hid hgm
    have HF := Lib.hid hfew
    have HR := Lib.hid hrs
    have hS0 := FnsMem.start hs hm hBl hMl
    clear hgm hfew hrs hs hm
    go_loopw [6, 14] (fun v i wr => ∃ (l : List FnV) (rk : RV), (l.length : Int) ≤ n ∧ l.length ≤ 4096 ∧ i = .int .i64 l.length ∧ FnsMem w0 w B M T rest rk v l l wr ∧ Hid (Got (pRep P l.length) rq rk (l.map FnV.bare))) (fun _ i _ => n.toNat - (intOf i).toNat)
    case atStart => exact ⟨[], rq, ok0, by simp, rfl, hS0, Lib.hid (Got.zero rq)⟩
    case round =>
      clear hS0
      obtain ⟨l, rk, hkn, hk4, rfl, hS, HK⟩ := hrel
      obtain ⟨vp, vc, rfl⟩ := own_any6 hS.own
      obtain ⟨x0, x1, x2, x3, y0, y1, y2, y3⟩ := hS.rd.reads
      by_cases hlt : (l.length : Int) < n
      · by_cases he : rk.e = 0
        · have hn4 : n ≤ 4096 := HF.out (by
            rcases HK.out.2 with ⟨a1, a2⟩ | ⟨a1, _⟩ | ⟨a1, _⟩
            · exact absurd (a2.symm.trans he) a1
            · exact a1
            · exact a1)
          exfalso; omega
        · have hq : (rk.e != 0) = true := by simpa using he
          have HGL := Lib.hid (show Got (pList P) r rk ([].map FnV.bare) from Got.list HG.out (HK.out.short (by omega) he []))
          go_wp2
          go_ret
          exact ⟨[], rk, _, rfl, HGL.out, hS.rd, hS.mov, World.ownsRow_nil _ _ _ _, fun f hf => absurd hf List.not_mem_nil, by simp⟩
      · have hkk : n.toNat = l.length := by omega
        have HGL := Lib.hid (show Got (pList P) r rk (l.map FnV.bare) from Got.list HG.out (by rw [hkk]; exact HK.out))
        have hnk : n = (l.length : Int) := by omega
        clear hlt
        go_wp2
        go_ret
        exact ⟨l, rk, _, rfl, HGL.out, hS.rd, hS.mov, hS.own, hS.fns, hk4⟩
  · have hle : n ≤ 4096 := by assumption
    obtain ⟨rq, hq⟩ : ∃ rq, r1 = rq := ⟨_, rfl⟩
    obtain ⟨hs, hm, hgm, hfew, hrs⟩ : RdAt w0 B M T rest rq w1 ∧ Mov B M w w1 ∧ Got pMany r rq n ∧ (rq.e = 0 → n ≤ 4096) ∧ rq.s = r.s := by
      rw [← hq]
      have hle' : ¬ 4096 < n := by omega
      exact ⟨h1, m1, (Got.many g1).2 hle', fun _ => by omega, g1.1⟩
    clear hq h1 m1 g1 c2 c1 hle
    have HG := Lib.hid hgm
    have HF := Lib.hid hfew
    have HR := Lib.hid hrs
    have hS0 := FnsMem.start hs hm hBl hMl
    clear hgm hfew hrs hs hm
    go_loopw [6, 14] (fun v i wr => ∃ (l : List FnV) (rk : RV), (l.length : Int) ≤ n ∧ l.length ≤ 4096 ∧ i = .int .i64 l.length ∧ FnsMem w0 w B M T rest rk v l l wr ∧ Hid (Got (pRep P l.length) rq rk (l.map FnV.bare))) (fun _ i _ => n.toNat - (intOf i).toNat)
    case atStart => exact ⟨[], rq, ok0, by simp, rfl, hS0, Lib.hid (Got.zero rq)⟩
    case round =>
      clear hS0
      obtain ⟨l, rk, hkn, hk4, rfl, hS, HK⟩ := hrel
      obtain ⟨vp, vc, rfl⟩ := own_any6 hS.own
      obtain ⟨x0, x1, x2, x3, y0, y1, y2, y3⟩ := hS.rd.reads
      by_cases hlt : (l.length : Int) < n
      · by_cases he : rk.e = 0
        · have hn4 : n ≤ 4096 := HF.out (by
            rcases HK.out.2 with ⟨a1, a2⟩ | ⟨a1, _⟩ | ⟨a1, _⟩
            · exact absurd (a2.symm.trans he) a1
            · exact a1
            · exact a1)
          rw [he] at x2
          have cq := hE B M T rest rk wr hS.rd (by rw [HK.out.1, HR.out]; exact hN)
          have HE := Lib.hid he
          clear he
          go_wp2_with fail
          refine cq.mono ?_
          rintro e w3 ⟨f, r3, rfl, g3, h3, m3, hf⟩
          have hS3 := (hS.fn m3 h3 hf).call ((Mov.refl B M w3).alloc (.cells f.row.toArray 72)) (h3.alloc (.cells f.row.toArray 72))
          have hz3 : (w3.alloc (.cells f.row.toArray 72)).heap.size = w3.heap.size + 1 := by simp
          have HZ := Lib.hid hz3
          have hc3 := cells_new6 w3 f.row 72
          have hsz3 := hS3.mov.size
          clear cq hS h3 m3 hf hz3
          unfold FnV.row at hS3 hc3 hsz3 HZ
          unfold FnV.val
          go_wp2_with (at_builtin; refine wpList_append_own_at _ rfl (.tmp 21) (.tmp 25) 29 rfl w.heap.size 72 i0 (.agg #[.int .i64 0, .string ⟨#[]⟩, .slice none 0 0]) 3 48 Tryz.underlying29 hi hz0 hz1 hz2 rfl (by decide) (.slice vp l.length vc) l.length (l.flatMap FnV.row) rfl hS3.own ⟨w3.heap.size, 0, none⟩ 1 1 f.row rfl rfl hc3 (fnrow_one f) (by unfold maxLen; omega) (by omega) hsz3 ?_)
          intro v' w4 hown4 hg4 _ hv4
          rw [← HZ.out] at hv4
          have hS4 := hS3.more hown4 hg4 hv4
          have HS4 := Lib.hid hS4
          have HK4 : Hid (Got (pRep P (l ++ [f]).length) rq r3 ((l ++ [f]).map FnV.bare)) := Lib.hid (by
            rw [List.map_append, List.length_append]
            exact Got.more HK.out g3 HE.out)
          have HL : Hid ((l ++ [f]).length = l.length + 1) := Lib.hid (by simp)
          clear hS3 hS4 hc3 hsz3 HZ g3 HK hown4 hg4 hv4 x0 x1 x2 x3 y0 y1 y2 y3
          go_wp2
          go_roundw
          case rel => exact ⟨l ++ [f], r3, by rw [HL.out]; omega, by rw [HL.out]; omega, by rw [HL.out]; go_num, HS4.out, HK4⟩
          case measure => simp [intOf]; omega
        · have hq : (rk.e != 0) = true := by simpa using he
          have HGL := Lib.hid (show Got (pList P) r rk ([].map FnV.bare) from Got.list HG.out (HK.out.short (by omega) he []))
          go_wp2
          go_ret
          exact ⟨[], rk, _, rfl, HGL.out, hS.rd, hS.mov, World.ownsRow_nil _ _ _ _, fun f hf => absurd hf List.not_mem_nil, by simp⟩
      · have hkk : n.toNat = l.length := by omega
        have HGL := Lib.hid (show Got (pList P) r rk (l.map FnV.bare) from Got.list HG.out (by rw [hkk]; exact HK.out))
        have hnk : n = (l.length : Int) := by omega
        clear hlt
        go_wp2
        go_ret
        exact ⟨l, rk, _, rfl, HGL.out, hS.rd, hS.mov, hS.own, hS.fns, hk4⟩
def restOf (m : MoV) (last : Int) (cv : Value) : List Value := m.cells ++ [.int .i64 last, cv]
def ptsOf (m : MoV) (last : Int) (codes : List FnV) : Pts := ⟨m.types, m.funcs.map FnV.bare, m.memory, m.globals, m.exports, m.start, m.data, last, codes.map FnV.bare⟩
structure PtsMem (base B M : Nat) (m : MoV) (cv : Value) (codes : List FnV) (W : World) : Prop where
  hB : B < base
  hM : M < base
  types : W.ownsRow base 68 2 (.slice m.tp m.types.length m.tc) m.types.length (m.types.flatMap TyV.row)
  typesIn : ∀ x ∈ m.types, okTy W W x
  typesFew : m.types.length ≤ 4096
  memory : W.ownsRow base 74 2 (.slice m.mp m.memory.length m.mc) m.memory.length (m.memory.flatMap MemV.row)
  memoryIn : ∀ x ∈ m.memory, okMem W W x
  memoryFew : m.memory.length ≤ 4096
  globals : W.ownsRow base 76 3 (.slice m.gp m.globals.length m.gc) m.globals.length (m.globals.flatMap GlobV.row)
  globalsIn : ∀ x ∈ m.globals, okGlob W W x
  globalsFew : m.globals.length ≤ 4096
  exports : W.ownsRow base 79 3 (.slice m.ep m.exports.length m.ec) m.exports.length (m.exports.flatMap ExpV.row)
  exportsIn : ∀ x ∈ m.exports, okExp W W x
  exportsFew : m.exports.length ≤ 4096
  data : W.ownsRow base 81 2 (.slice m.dp m.data.length m.dc) m.data.length (m.data.flatMap DatV.row)
  dataIn : ∀ x ∈ m.data, okDat W W x
  dataFew : m.data.length ≤ 4096
  funcs : W.ownsRow base 72 3 (.slice m.fp m.funcs.length m.fc) m.funcs.length (m.funcs.flatMap FnV.row)
  funcsIn : ∀ f ∈ m.funcs, FnOwn base W f
  funcsFew : m.funcs.length ≤ 4096
  startIn : inI64 m.start
  rows : W.ownsRow base 72 3 cv codes.length (codes.flatMap FnV.row)
  codesIn : ∀ f ∈ codes, FnOwn base W f
  codesFew : codes.length ≤ 4096
  far : ∀ g, (Value.slice m.fp m.funcs.length m.fc).ownBlock = some g → cv.ownBlock ≠ some g ∧ ∀ c ∈ codes, ¬ c.has g
theorem PtsMem.mov {base B M : Nat} {m : MoV} {cv : Value} {codes : List FnV} {W W1 : World} (h : PtsMem base B M m cv codes W) (hm : Mov B M W W1) : PtsMem base B M m cv codes W1 :=
  { hB := h.hB
    hM := h.hM
    types := own_mov h.types hm h.hB h.hM
    typesIn := h.typesIn
    typesFew := h.typesFew
    memory := own_mov h.memory hm h.hB h.hM
    memoryIn := h.memoryIn
    memoryFew := h.memoryFew
    globals := own_mov h.globals hm h.hB h.hM
    globalsIn := h.globalsIn
    globalsFew := h.globalsFew
    exports := own_mov h.exports hm h.hB h.hM
    exportsIn := h.exportsIn
    exportsFew := h.exportsFew
    data := own_mov h.data hm h.hB h.hM
    dataIn := h.dataIn
    dataFew := h.dataFew
    funcs := own_mov h.funcs hm h.hB h.hM
    funcsIn := fun f hf => (h.funcsIn f hf).mov hm h.hB h.hM
    funcsFew := h.funcsFew
    startIn := h.startIn
    rows := own_mov h.rows hm h.hB h.hM
    codesIn := fun f hf => (h.codesIn f hf).mov hm h.hB h.hM
    codesFew := h.codesFew
    far := h.far }
def MoV.with_types (m : MoV) (p : Option Addr) (c : Nat) (l : List TyV) : MoV := { m with tp := p, tc := c, types := l }
theorem PtsMem.set_types {base B M b2 : Nat} {m : MoV} {cv : Value} {codes : List FnV} {W : World} (h : PtsMem base B M m cv codes W) {p : Option Addr} {c : Nat} {l : List TyV} (hb : base ≤ b2) (ho : W.ownsRow b2 68 2 (.slice p l.length c) l.length (l.flatMap TyV.row)) (hi : ∀ x ∈ l, okTy W W x) (hl : l.length ≤ 4096) : PtsMem base B M (m.with_types p c l) cv codes W :=
  { hB := h.hB
    hM := h.hM
    types := own_down ho hb
    typesIn := hi
    typesFew := hl
    memory := h.memory
    memoryIn := h.memoryIn
    memoryFew := h.memoryFew
    globals := h.globals
    globalsIn := h.globalsIn
    globalsFew := h.globalsFew
    exports := h.exports
    exportsIn := h.exportsIn
    exportsFew := h.exportsFew
    data := h.data
    dataIn := h.dataIn
    dataFew := h.dataFew
    funcs := h.funcs
    funcsIn := h.funcsIn
    funcsFew := h.funcsFew
    startIn := h.startIn
    rows := h.rows
    codesIn := h.codesIn
    codesFew := h.codesFew
    far := h.far }
def MoV.with_memory (m : MoV) (p : Option Addr) (c : Nat) (l : List MemV) : MoV := { m with mp := p, mc := c, memory := l }
theorem PtsMem.set_memory {base B M b2 : Nat} {m : MoV} {cv : Value} {codes : List FnV} {W : World} (h : PtsMem base B M m cv codes W) {p : Option Addr} {c : Nat} {l : List MemV} (hb : base ≤ b2) (ho : W.ownsRow b2 74 2 (.slice p l.length c) l.length (l.flatMap MemV.row)) (hi : ∀ x ∈ l, okMem W W x) (hl : l.length ≤ 4096) : PtsMem base B M (m.with_memory p c l) cv codes W :=
  { hB := h.hB
    hM := h.hM
    types := h.types
    typesIn := h.typesIn
    typesFew := h.typesFew
    memory := own_down ho hb
    memoryIn := hi
    memoryFew := hl
    globals := h.globals
    globalsIn := h.globalsIn
    globalsFew := h.globalsFew
    exports := h.exports
    exportsIn := h.exportsIn
    exportsFew := h.exportsFew
    data := h.data
    dataIn := h.dataIn
    dataFew := h.dataFew
    funcs := h.funcs
    funcsIn := h.funcsIn
    funcsFew := h.funcsFew
    startIn := h.startIn
    rows := h.rows
    codesIn := h.codesIn
    codesFew := h.codesFew
    far := h.far }
def MoV.with_globals (m : MoV) (p : Option Addr) (c : Nat) (l : List GlobV) : MoV := { m with gp := p, gc := c, globals := l }
theorem PtsMem.set_globals {base B M b2 : Nat} {m : MoV} {cv : Value} {codes : List FnV} {W : World} (h : PtsMem base B M m cv codes W) {p : Option Addr} {c : Nat} {l : List GlobV} (hb : base ≤ b2) (ho : W.ownsRow b2 76 3 (.slice p l.length c) l.length (l.flatMap GlobV.row)) (hi : ∀ x ∈ l, okGlob W W x) (hl : l.length ≤ 4096) : PtsMem base B M (m.with_globals p c l) cv codes W :=
  { hB := h.hB
    hM := h.hM
    types := h.types
    typesIn := h.typesIn
    typesFew := h.typesFew
    memory := h.memory
    memoryIn := h.memoryIn
    memoryFew := h.memoryFew
    globals := own_down ho hb
    globalsIn := hi
    globalsFew := hl
    exports := h.exports
    exportsIn := h.exportsIn
    exportsFew := h.exportsFew
    data := h.data
    dataIn := h.dataIn
    dataFew := h.dataFew
    funcs := h.funcs
    funcsIn := h.funcsIn
    funcsFew := h.funcsFew
    startIn := h.startIn
    rows := h.rows
    codesIn := h.codesIn
    codesFew := h.codesFew
    far := h.far }
def MoV.with_exports (m : MoV) (p : Option Addr) (c : Nat) (l : List ExpV) : MoV := { m with ep := p, ec := c, exports := l }
theorem PtsMem.set_exports {base B M b2 : Nat} {m : MoV} {cv : Value} {codes : List FnV} {W : World} (h : PtsMem base B M m cv codes W) {p : Option Addr} {c : Nat} {l : List ExpV} (hb : base ≤ b2) (ho : W.ownsRow b2 79 3 (.slice p l.length c) l.length (l.flatMap ExpV.row)) (hi : ∀ x ∈ l, okExp W W x) (hl : l.length ≤ 4096) : PtsMem base B M (m.with_exports p c l) cv codes W :=
  { hB := h.hB
    hM := h.hM
    types := h.types
    typesIn := h.typesIn
    typesFew := h.typesFew
    memory := h.memory
    memoryIn := h.memoryIn
    memoryFew := h.memoryFew
    globals := h.globals
    globalsIn := h.globalsIn
    globalsFew := h.globalsFew
    exports := own_down ho hb
    exportsIn := hi
    exportsFew := hl
    data := h.data
    dataIn := h.dataIn
    dataFew := h.dataFew
    funcs := h.funcs
    funcsIn := h.funcsIn
    funcsFew := h.funcsFew
    startIn := h.startIn
    rows := h.rows
    codesIn := h.codesIn
    codesFew := h.codesFew
    far := h.far }
def MoV.with_data (m : MoV) (p : Option Addr) (c : Nat) (l : List DatV) : MoV := { m with dp := p, dc := c, data := l }
theorem PtsMem.set_data {base B M b2 : Nat} {m : MoV} {cv : Value} {codes : List FnV} {W : World} (h : PtsMem base B M m cv codes W) {p : Option Addr} {c : Nat} {l : List DatV} (hb : base ≤ b2) (ho : W.ownsRow b2 81 2 (.slice p l.length c) l.length (l.flatMap DatV.row)) (hi : ∀ x ∈ l, okDat W W x) (hl : l.length ≤ 4096) : PtsMem base B M (m.with_data p c l) cv codes W :=
  { hB := h.hB
    hM := h.hM
    types := h.types
    typesIn := h.typesIn
    typesFew := h.typesFew
    memory := h.memory
    memoryIn := h.memoryIn
    memoryFew := h.memoryFew
    globals := h.globals
    globalsIn := h.globalsIn
    globalsFew := h.globalsFew
    exports := h.exports
    exportsIn := h.exportsIn
    exportsFew := h.exportsFew
    data := own_down ho hb
    dataIn := hi
    dataFew := hl
    funcs := h.funcs
    funcsIn := h.funcsIn
    funcsFew := h.funcsFew
    startIn := h.startIn
    rows := h.rows
    codesIn := h.codesIn
    codesFew := h.codesFew
    far := h.far }
def MoV.with_funcs (m : MoV) (p : Option Addr) (c : Nat) (l : List FnV) : MoV := { m with fp := p, fc := c, funcs := l }
def MoV.with_start (m : MoV) (n : Int) : MoV := { m with start := n }
theorem PtsMem.set_start {base B M : Nat} {m : MoV} {cv : Value} {codes : List FnV} {W : World} (h : PtsMem base B M m cv codes W) {n : Int} (hn : inI64 n) : PtsMem base B M (m.with_start n) cv codes W :=
  { hB := h.hB
    hM := h.hM
    types := h.types
    typesIn := h.typesIn
    typesFew := h.typesFew
    memory := h.memory
    memoryIn := h.memoryIn
    memoryFew := h.memoryFew
    globals := h.globals
    globalsIn := h.globalsIn
    globalsFew := h.globalsFew
    exports := h.exports
    exportsIn := h.exportsIn
    exportsFew := h.exportsFew
    data := h.data
    dataIn := h.dataIn
    dataFew := h.dataFew
    funcs := h.funcs
    funcsIn := h.funcsIn
    funcsFew := h.funcsFew
    startIn := hn
    rows := h.rows
    codesIn := h.codesIn
    codesFew := h.codesFew
    far := h.far }
theorem PtsMem.set_funcs {base B M : Nat} {m : MoV} {cv : Value} {codes : List FnV} {W0 W : World} (h0 : PtsMem base B M m cv codes W0) (h : PtsMem base B M m cv codes W) {p : Option Addr} {c : Nat} {l : List FnV} (hb : base ≤ W0.heap.size) (ho : W.ownsRow W0.heap.size 72 3 (.slice p l.length c) l.length (l.flatMap FnV.row)) (hi : ∀ x ∈ l, FnOwn W0.heap.size W x) (hl : l.length ≤ 4096) : PtsMem base B M (m.with_funcs p c l) cv codes W :=
  { hB := h.hB
    hM := h.hM
    types := h.types
    typesIn := h.typesIn
    typesFew := h.typesFew
    memory := h.memory
    memoryIn := h.memoryIn
    memoryFew := h.memoryFew
    globals := h.globals
    globalsIn := h.globalsIn
    globalsFew := h.globalsFew
    exports := h.exports
    exportsIn := h.exportsIn
    exportsFew := h.exportsFew
    data := h.data
    dataIn := h.dataIn
    dataFew := h.dataFew
    funcs := own_down ho hb
    funcsIn := fun f hf => (hi f hf).down hb
    funcsFew := hl
    startIn := h.startIn
    rows := h.rows
    codesIn := h.codesIn
    codesFew := h.codesFew
    far := fun g hg => by
      have h1 := own_lt6 ho g hg
      exact ⟨fun e => by have := own_lt6 h0.rows g e; omega, fun x hx e => by have := (h0.codesIn x hx).lt g e; omega⟩ }
theorem PtsMem.set_codes {base B M : Nat} {m : MoV} {cv cv' : Value} {codes l : List FnV} {W0 W : World} (h0 : PtsMem base B M m cv codes W0) (h : PtsMem base B M m cv codes W) (hb : base ≤ W0.heap.size) (ho : W.ownsRow W0.heap.size 72 3 cv' l.length (l.flatMap FnV.row)) (hi : ∀ x ∈ l, FnOwn W0.heap.size W x) (hl : l.length ≤ 4096) : PtsMem base B M m cv' l W :=
  { hB := h.hB
    hM := h.hM
    types := h.types
    typesIn := h.typesIn
    typesFew := h.typesFew
    memory := h.memory
    memoryIn := h.memoryIn
    memoryFew := h.memoryFew
    globals := h.globals
    globalsIn := h.globalsIn
    globalsFew := h.globalsFew
    exports := h.exports
    exportsIn := h.exportsIn
    exportsFew := h.exportsFew
    data := h.data
    dataIn := h.dataIn
    dataFew := h.dataFew
    funcs := h.funcs
    funcsIn := h.funcsIn
    funcsFew := h.funcsFew
    startIn := h.startIn
    rows := own_down ho hb
    codesIn := fun f hf => (hi f hf).down hb
    codesFew := hl
    far := fun g hg => by
      have h1 := own_lt6 h0.funcs g hg
      exact ⟨fun e => by have := own_lt6 ho g e; omega, fun x hx e => by have := (hi x hx).lt g e; omega⟩ }
theorem RdAt.setRest {w0 : World} {B M : Nat} {T : TypeId} {rest rest' : List Value} {r : RV} {w : World} (h : RdAt w0 B M T rest r w) (j : Nat) (v : Value) (he : rest' = rest.set j v) : RdAt w0 B M T rest' r (w.setCell ⟨B, 4 + j, none⟩ v) := by
  obtain ⟨D, hD⟩ := h.infos
  subst he
  refine ⟨((Mov.refl B M w).set _ _).below h.below h.hB h.hM, ?_, ⟨D, hD.same (Below.heap_setCell _ _ _ _ h.ne)⟩, h.ne, h.hB, h.hM, h.size, h.pos⟩
  rw [heap_setCell_same w B (4 + j) _ _ v h.box]
  congr 2
  apply Array.ext'
  simp [RV.cells, Nat.add_comm 4 j]
theorem restOf_cells (m : MoV) (last : Int) (cv : Value) {w0 : World} {B M : Nat} {T : TypeId} {r : RV} {w : World} (h : RdAt w0 B M T (restOf m last cv) r w) :
    (w.cell? ⟨B, 5, none⟩ = some (.slice m.fp m.funcs.length m.fc) ∧ w.cell? ⟨B, 11, none⟩ = some (.int .i64 last) ∧ w.cell? ⟨B, 12, none⟩ = some cv) ∧ ∀ j, w.frozen? ⟨B, j, none⟩ = false := by
  have c : ∀ j, w.cell? ⟨B, j, none⟩ = (r.cells M ++ restOf m last cv)[j]? := fun j => by rw [World.cell?, h.box]; simp
  exact ⟨⟨c 5, c 11, c 12⟩, fun j => by simp [World.frozen?, h.box]⟩
theorem restOf_all (m : MoV) (last : Int) (cv : Value) {w0 : World} {B M : Nat} {T : TypeId} {r : RV} {w : World} (h : RdAt w0 B M T (restOf m last cv) r w) :
    ∀ j, j < 13 → ∃ v, w.cell? ⟨B, j, none⟩ = some v := fun j hj => by
  have c : w.cell? ⟨B, j, none⟩ = (r.cells M ++ restOf m last cv)[j]? := by rw [World.cell?, h.box]; simp
  have hl : (r.cells M ++ restOf m last cv).length = 13 := rfl
  exact ⟨_, c.trans (List.getElem?_eq_getElem (by omega))⟩
def DidPart (w0 : World) (base B M : Nat) (T : TypeId) (last : Int) (r : RV) (w : World) (P : Pr Pts) (e : Ending) (w' : World) : Prop :=
  ∃ (m' : MoV) (cv' : Value) (codes' : List FnV) (r' : RV), e = .returned (.tuple #[]) ∧ Got P r r' (ptsOf m' last codes') ∧ RdAt w0 B M T (restOf m' last cv') r' w' ∧ Mov B M w w' ∧ PtsMem base B M m' cv' codes' w'
theorem enters_funcType : ∀ args w, (callFunc 172 args).run Tryz.prog w = .ok (.enter 172 args) w := enters_of Tryz.func172 (by kernel_rfl) rfl
theorem readTypes_part {w0 : World} (hLaid : Laid w0) {base B M : Nat} {T : TypeId} {m : MoV} {last : Int} {cv : Value} {codes : List FnV} {r : RV} {w : World} (h : RdAt w0 B M T (restOf m last cv) r w) (hp : PtsMem base B M m cv codes w) (hb : base ≤ w.heap.size) :
    Calls Tryz.prog 106 #[.pointer (some ⟨B, 0, none⟩)] w (DidPart w0 base B M T last r w (pPart 1 (ptsOf m last codes))) := by
  have c1 := list_FuncType (lb := #[]) (P := pTy) (ok := okTy w w) enters_funcType (functype_reads w0) h
  go_enter Tryz.func106, Tryz.ntmps106
  go_wp2_with fail
  refine c1.mono ?_
  rintro e w1 ⟨l, r1, v, rfl, g1, h1, m1, hown, hok, hl⟩
  obtain ⟨vp, vc, rfl⟩ := own_any6 hown
  obtain ⟨u, hu⟩ := restOf_all m last cv h1 4 (by decide)
  have hf := (restOf_cells m last cv h1).2 4
  have h2 := h1.setRest (rest' := restOf (m.with_types vp vc l) last cv) 0 (.slice vp l.length vc) rfl
  have m2 := m1.set 4 (.slice vp l.length vc)
  have hp2 : PtsMem base B M (m.with_types vp vc l) cv codes (w1.setCell ⟨B, 4, none⟩ (.slice vp l.length vc)) := ((hp.mov m1).set_types hb hown hok hl).mov ((Mov.refl B M w1).set 4 _)
  have hgot : Got (pPart 1 (ptsOf m last codes)) r r1 (ptsOf (m.with_types vp vc l) last codes) := by
    rw [show pPart 1 (ptsOf m last codes) = (pList pTy).and fun l => .val { ptsOf m last codes with types := l } from by unfold pPart; simp]
    exact g1.map (fun l => ({ ptsOf m last codes with types := l } : Pts))
  have HG := Lib.hid hgot
  clear c1 h1 m1 hown hgot g1
  go_wp2
  go_end0
  exact ⟨m.with_types vp vc l, cv, codes, r1, rfl, HG.out, h2, m2, hp2⟩
theorem enters_memory : ∀ args w, (callFunc 176 args).run Tryz.prog w = .ok (.enter 176 args) w := enters_of Tryz.func176 (by kernel_rfl) rfl
theorem readMemory_part {w0 : World} (hLaid : Laid w0) {base B M : Nat} {T : TypeId} {m : MoV} {last : Int} {cv : Value} {codes : List FnV} {r : RV} {w : World} (h : RdAt w0 B M T (restOf m last cv) r w) (hp : PtsMem base B M m cv codes w) (hb : base ≤ w.heap.size) :
    Calls Tryz.prog 108 #[.pointer (some ⟨B, 0, none⟩)] w (DidPart w0 base B M T last r w (pPart 5 (ptsOf m last codes))) := by
  have c1 := list_Memory (lb := #[]) (P := pMem) (ok := okMem w w) enters_memory (memory_reads w0) h
  go_enter Tryz.func108, Tryz.ntmps108
  go_wp2_with fail
  refine c1.mono ?_
  rintro e w1 ⟨l, r1, v, rfl, g1, h1, m1, hown, hok, hl⟩
  obtain ⟨vp, vc, rfl⟩ := own_any6 hown
  obtain ⟨u, hu⟩ := restOf_all m last cv h1 6 (by decide)
  have hf := (restOf_cells m last cv h1).2 6
  have h2 := h1.setRest (rest' := restOf (m.with_memory vp vc l) last cv) 2 (.slice vp l.length vc) rfl
  have m2 := m1.set 6 (.slice vp l.length vc)
  have hp2 : PtsMem base B M (m.with_memory vp vc l) cv codes (w1.setCell ⟨B, 6, none⟩ (.slice vp l.length vc)) := ((hp.mov m1).set_memory hb hown hok hl).mov ((Mov.refl B M w1).set 6 _)
  have hgot : Got (pPart 5 (ptsOf m last codes)) r r1 (ptsOf (m.with_memory vp vc l) last codes) := by
    rw [show pPart 5 (ptsOf m last codes) = (pList pMem).and fun l => .val { ptsOf m last codes with memory := l } from by unfold pPart; simp]
    exact g1.map (fun l => ({ ptsOf m last codes with memory := l } : Pts))
  have HG := Lib.hid hgot
  clear c1 h1 m1 hown hgot g1
  go_wp2
  go_end0
  exact ⟨m.with_memory vp vc l, cv, codes, r1, rfl, HG.out, h2, m2, hp2⟩
theorem enters_global : ∀ args w, (callFunc 178 args).run Tryz.prog w = .ok (.enter 178 args) w := enters_of Tryz.func178 (by kernel_rfl) rfl
theorem readGlobals_part {w0 : World} (hLaid : Laid w0) {base B M : Nat} {T : TypeId} {m : MoV} {last : Int} {cv : Value} {codes : List FnV} {r : RV} {w : World} (h : RdAt w0 B M T (restOf m last cv) r w) (hp : PtsMem base B M m cv codes w) (hb : base ≤ w.heap.size) :
    Calls Tryz.prog 109 #[.pointer (some ⟨B, 0, none⟩)] w (DidPart w0 base B M T last r w (pPart 6 (ptsOf m last codes))) := by
  have c1 := list_Global (lb := #[]) (P := pGlob) (ok := okGlob w w) enters_global (global_reads w0) h
  go_enter Tryz.func109, Tryz.ntmps109
  go_wp2_with fail
  refine c1.mono ?_
  rintro e w1 ⟨l, r1, v, rfl, g1, h1, m1, hown, hok, hl⟩
  obtain ⟨vp, vc, rfl⟩ := own_any6 hown
  obtain ⟨u, hu⟩ := restOf_all m last cv h1 7 (by decide)
  have hf := (restOf_cells m last cv h1).2 7
  have h2 := h1.setRest (rest' := restOf (m.with_globals vp vc l) last cv) 3 (.slice vp l.length vc) rfl
  have m2 := m1.set 7 (.slice vp l.length vc)
  have hp2 : PtsMem base B M (m.with_globals vp vc l) cv codes (w1.setCell ⟨B, 7, none⟩ (.slice vp l.length vc)) := ((hp.mov m1).set_globals hb hown hok hl).mov ((Mov.refl B M w1).set 7 _)
  have hgot : Got (pPart 6 (ptsOf m last codes)) r r1 (ptsOf (m.with_globals vp vc l) last codes) := by
    rw [show pPart 6 (ptsOf m last codes) = (pList pGlob).and fun l => .val { ptsOf m last codes with globals := l } from by unfold pPart; simp]
    exact g1.map (fun l => ({ ptsOf m last codes with globals := l } : Pts))
  have HG := Lib.hid hgot
  clear c1 h1 m1 hown hgot g1
  go_wp2
  go_end0
  exact ⟨m.with_globals vp vc l, cv, codes, r1, rfl, HG.out, h2, m2, hp2⟩
theorem enters_export : ∀ args w, (callFunc 180 args).run Tryz.prog w = .ok (.enter 180 args) w := enters_of Tryz.func180 (by kernel_rfl) rfl
theorem readExports_part {w0 : World} (hLaid : Laid w0) {base B M : Nat} {T : TypeId} {m : MoV} {last : Int} {cv : Value} {codes : List FnV} {r : RV} {w : World} (h : RdAt w0 B M T (restOf m last cv) r w) (hp : PtsMem base B M m cv codes w) (hb : base ≤ w.heap.size) :
    Calls Tryz.prog 110 #[.pointer (some ⟨B, 0, none⟩)] w (DidPart w0 base B M T last r w (pPart 7 (ptsOf m last codes))) := by
  have c1 := list_Export (lb := #[]) (P := pExp) (ok := okExp w w) enters_export (fun _ _ _ _ _ _ h => export_reads hLaid h) h
  go_enter Tryz.func110, Tryz.ntmps110
  go_wp2_with fail
  refine c1.mono ?_
  rintro e w1 ⟨l, r1, v, rfl, g1, h1, m1, hown, hok, hl⟩
  obtain ⟨vp, vc, rfl⟩ := own_any6 hown
  obtain ⟨u, hu⟩ := restOf_all m last cv h1 8 (by decide)
  have hf := (restOf_cells m last cv h1).2 8
  have h2 := h1.setRest (rest' := restOf (m.with_exports vp vc l) last cv) 4 (.slice vp l.length vc) rfl
  have m2 := m1.set 8 (.slice vp l.length vc)
  have hp2 : PtsMem base B M (m.with_exports vp vc l) cv codes (w1.setCell ⟨B, 8, none⟩ (.slice vp l.length vc)) := ((hp.mov m1).set_exports hb hown hok hl).mov ((Mov.refl B M w1).set 8 _)
  have hgot : Got (pPart 7 (ptsOf m last codes)) r r1 (ptsOf (m.with_exports vp vc l) last codes) := by
    rw [show pPart 7 (ptsOf m last codes) = (pList pExp).and fun l => .val { ptsOf m last codes with exports := l } from by unfold pPart; simp]
    exact g1.map (fun l => ({ ptsOf m last codes with exports := l } : Pts))
  have HG := Lib.hid hgot
  clear c1 h1 m1 hown hgot g1
  go_wp2
  go_end0
  exact ⟨m.with_exports vp vc l, cv, codes, r1, rfl, HG.out, h2, m2, hp2⟩
theorem enters_data : ∀ args w, (callFunc 183 args).run Tryz.prog w = .ok (.enter 183 args) w := enters_of Tryz.func183 (by kernel_rfl) rfl
theorem readData_part {w0 : World} (hLaid : Laid w0) {base B M : Nat} {T : TypeId} {m : MoV} {last : Int} {cv : Value} {codes : List FnV} {r : RV} {w : World} (h : RdAt w0 B M T (restOf m last cv) r w) (hp : PtsMem base B M m cv codes w) (hb : base ≤ w.heap.size) :
    Calls Tryz.prog 113 #[.pointer (some ⟨B, 0, none⟩)] w (DidPart w0 base B M T last r w (pPart 11 (ptsOf m last codes))) := by
  have c1 := list_Data (lb := #[]) (P := pDat) (ok := okDat w w) enters_data (data_reads w0) h
  go_enter Tryz.func113, Tryz.ntmps113
  go_wp2_with fail
  refine c1.mono ?_
  rintro e w1 ⟨l, r1, v, rfl, g1, h1, m1, hown, hok, hl⟩
  obtain ⟨vp, vc, rfl⟩ := own_any6 hown
  obtain ⟨u, hu⟩ := restOf_all m last cv h1 10 (by decide)
  have hf := (restOf_cells m last cv h1).2 10
  have h2 := h1.setRest (rest' := restOf (m.with_data vp vc l) last cv) 6 (.slice vp l.length vc) rfl
  have m2 := m1.set 10 (.slice vp l.length vc)
  have hp2 : PtsMem base B M (m.with_data vp vc l) cv codes (w1.setCell ⟨B, 10, none⟩ (.slice vp l.length vc)) := ((hp.mov m1).set_data hb hown hok hl).mov ((Mov.refl B M w1).set 10 _)
  have hgot : Got (pPart 11 (ptsOf m last codes)) r r1 (ptsOf (m.with_data vp vc l) last codes) := by
    rw [show pPart 11 (ptsOf m last codes) = (pList pDat).and fun l => .val { ptsOf m last codes with data := l } from by unfold pPart; simp]
    exact g1.map (fun l => ({ ptsOf m last codes with data := l } : Pts))
  have HG := Lib.hid hgot
  clear c1 h1 m1 hown hgot g1
  go_wp2
  go_end0
  exact ⟨m.with_data vp vc l, cv, codes, r1, rfl, HG.out, h2, m2, hp2⟩
theorem enters_funcs1 : ∀ args w, (callFunc 174 args).run Tryz.prog w = .ok (.enter 174 args) w := enters_of Tryz.func174 (by kernel_rfl) rfl
theorem enters_code : ∀ args w, (callFunc 181 args).run Tryz.prog w = .ok (.enter 181 args) w := enters_of Tryz.func181 (by kernel_rfl) rfl
theorem funcs1_reads {w0 : World} {B M : Nat} {T : TypeId} {rest : List Value} {r : RV} {w : World} (h : RdAt w0 B M T rest r w) :
    Calls Tryz.prog 174 #[.pointer (some ⟨B, 0, none⟩)] w (DidFn w0 B M T rest r w pFn) := by
  have hlt := h.lt
  have hw0 := h.below.size
  have hr := heap_alloc_new w (.cells #[.int .i64 0, .string ⟨#[]⟩, .slice none 0 0] 72)
  have c1 := number_reads w0 B M T rest r _ (h.alloc (.cells #[.int .i64 0, .string ⟨#[]⟩, .slice none 0 0] 72))
  clear h
  go_enter Tryz.func174, Tryz.ntmps174
  go_wp2_with fail
  refine c1.mono ?_
  rintro e w1 ⟨n, r1, rfl, g1, h1, m1, ok1⟩
  have n1 : w.heap.size ≠ B := by omega
  have n2 : w.heap.size ≠ M := by omega
  have hr1 := (m1.block _ (in_heap6 hr) n1 n2).trans hr
  have d0 : w1.cell? ⟨w.heap.size, 0, none⟩ = some (.int .i64 0) := by simp [World.cell?, hr1]
  have d1 : w1.cell? ⟨w.heap.size, 1, none⟩ = some (.string ⟨#[]⟩) := by simp [World.cell?, hr1]
  have d2 : w1.cell? ⟨w.heap.size, 2, none⟩ = some (.slice none 0 0) := by simp [World.cell?, hr1]
  have e0 : w1.frozen? ⟨w.heap.size, 0, none⟩ = false := by simp [World.frozen?, hr1]
  have e1 : w1.frozen? ⟨w.heap.size, 1, none⟩ = false := by simp [World.frozen?, hr1]
  have e2 : w1.frozen? ⟨w.heap.size, 2, none⟩ = false := by simp [World.frozen?, hr1]
  have hlt1 := in_heap6 hr1
  have hn : inI64 n := i64_word ok1
  have hgot : Got pFn r r1 (FnV.bare ⟨n, ⟨#[]⟩, none, 0, []⟩) := g1.map (fun n => (⟨n, bs [], none, 0, []⟩ : FnV))
  have HG := Lib.hid hgot
  have mm := ((Mov.refl B M w).alloc (.cells #[.int .i64 0, .string ⟨#[]⟩, .slice none 0 0] 72)).trans m1
  clear c1 hr hr1 g1 m1 hgot
  dsimp only [valInt]
  go_wp2
  refine bodyPost_ret (v := FnV.val ⟨n, ⟨#[]⟩, none, 0, []⟩) ?_ rfl ?_
  · rw [results_one_cell rfl]; simp [FnV.val]; go_simp
  · exact ⟨⟨n, ⟨#[]⟩, none, 0, []⟩, r1, rfl, HG.out, ((h1.other 0 _ n1 n2 (by omega)).other 1 _ n1 n2 (by omega)).other 2 _ n1 n2 (by omega), ((mm.setNew 0 _ (by omega)).setNew 1 _ (by omega)).setNew 2 _ (by omega), World.ownsRow_nil _ _ _ _, fun x hx => absurd hx List.not_mem_nil, by simp, by show (0 : Nat) ≤ 16384; decide, hn⟩
theorem readFuncs_part {w0 : World} (hLaid : Laid w0) {base B M : Nat} {T : TypeId} {m : MoV} {last : Int} {cv : Value} {codes : List FnV} {r : RV} {w : World} (h : RdAt w0 B M T (restOf m last cv) r w) (hp : PtsMem base B M m cv codes w) (hb : base ≤ w.heap.size) (hs : r.s.size ≤ 1048576) :
    Calls Tryz.prog 107 #[.pointer (some ⟨B, 0, none⟩)] w (DidPart w0 base B M T last r w (pPart 3 (ptsOf m last codes))) := by
  have c1 := list_fns (lb := #[]) (P := pFn) (N := 1048576) enters_funcs1 (fun _ _ _ _ _ _ h _ => funcs1_reads h) h hs
  go_enter Tryz.func107, Tryz.ntmps107
  go_wp2_with fail
  refine c1.mono ?_
  rintro e w1 ⟨l, r1, v, rfl, g1, h1, m1, hown, hfs, hl⟩
  obtain ⟨vp, vc, rfl⟩ := own_any6 hown
  obtain ⟨u, hu⟩ := restOf_all m last cv h1 5 (by decide)
  have hf := (restOf_cells m last cv h1).2 5
  have h2 := h1.setRest (rest' := restOf (m.with_funcs vp vc l) last cv) 1 (.slice vp l.length vc) rfl
  have m2 := m1.set 5 (.slice vp l.length vc)
  have hp2 : PtsMem base B M (m.with_funcs vp vc l) cv codes (w1.setCell ⟨B, 5, none⟩ (.slice vp l.length vc)) := (PtsMem.set_funcs hp (hp.mov m1) hb hown hfs hl).mov ((Mov.refl B M w1).set 5 _)
  have hgot : Got (pPart 3 (ptsOf m last codes)) r r1 (ptsOf (m.with_funcs vp vc l) last codes) := by
    rw [show pPart 3 (ptsOf m last codes) = (pList pFn).and fun l => .val { ptsOf m last codes with funcs := l } from by unfold pPart; simp]
    exact g1.map (fun l => ({ ptsOf m last codes with funcs := l } : Pts))
  have HG := Lib.hid hgot
  clear c1 h1 m1 hown hgot g1
  go_wp2
  go_end0
  exact ⟨m.with_funcs vp vc l, cv, codes, r1, rfl, HG.out, h2, m2, hp2⟩
theorem readCodes_part {w0 : World} (hLaid : Laid w0) {base B M : Nat} {T : TypeId} {m : MoV} {last : Int} {cv : Value} {codes : List FnV} {r : RV} {w : World} (h : RdAt w0 B M T (restOf m last cv) r w) (hp : PtsMem base B M m cv codes w) (hb : base ≤ w.heap.size) (hs : r.s.size ≤ 1048576) :
    Calls Tryz.prog 112 #[.pointer (some ⟨B, 0, none⟩)] w (DidPart w0 base B M T last r w (pPart 10 (ptsOf m last codes))) := by
  have c1 := list_fns (lb := #[]) (P := pCode) (N := 1048576) enters_code (fun _ _ _ _ _ _ h hs => code_reads hLaid h hs) h hs
  go_enter Tryz.func112, Tryz.ntmps112
  go_wp2_with fail
  refine c1.mono ?_
  rintro e w1 ⟨l, r1, v, rfl, g1, h1, m1, hown, hfs, hl⟩
  obtain ⟨vp, vc, rfl⟩ := own_any6 hown
  obtain ⟨u, hu⟩ := restOf_all m last cv h1 12 (by decide)
  have hf := (restOf_cells m last cv h1).2 12
  have h2 := h1.setRest (rest' := restOf m last (.slice vp l.length vc)) 8 (.slice vp l.length vc) rfl
  have m2 := m1.set 12 (.slice vp l.length vc)
  have hp2 : PtsMem base B M m (.slice vp l.length vc) l (w1.setCell ⟨B, 12, none⟩ (.slice vp l.length vc)) := (PtsMem.set_codes hp (hp.mov m1) hb hown hfs hl).mov ((Mov.refl B M w1).set 12 _)
  have hgot : Got (pPart 10 (ptsOf m last codes)) r r1 (ptsOf m last l) := by
    rw [show pPart 10 (ptsOf m last codes) = (pList pCode).and fun l => .val { ptsOf m last codes with codes := l } from by unfold pPart; simp]
    exact g1.map (fun l => ({ ptsOf m last codes with codes := l } : Pts))
  have HG := Lib.hid hgot
  clear c1 h1 m1 hown hgot g1
  go_wp2
  go_end0
  exact ⟨m, .slice vp l.length vc, l, r1, rfl, HG.out, h2, m2, hp2⟩
theorem readStart_part {w0 : World} {base B M : Nat} {T : TypeId} {m : MoV} {last : Int} {cv : Value} {codes : List FnV} {r : RV} {w : World} (h : RdAt w0 B M T (restOf m last cv) r w) (hp : PtsMem base B M m cv codes w) :
    Calls Tryz.prog 111 #[.pointer (some ⟨B, 0, none⟩)] w (DidPart w0 base B M T last r w (pPart 8 (ptsOf m last codes))) := by
  have c1 := number_reads w0 B M T _ r w h
  go_enter Tryz.func111, Tryz.ntmps111
  go_wp2_with fail
  refine c1.mono ?_
  rintro e w1 ⟨n, r1, rfl, g1, h1, m1, ok1⟩
  obtain ⟨u, hu⟩ := restOf_all m last cv h1 9 (by decide)
  have hf := (restOf_cells m last cv h1).2 9
  have h2 := h1.setRest (rest' := restOf (m.with_start n) last cv) 5 (.int .i64 n) rfl
  have m2 := m1.set 9 (.int .i64 n)
  have hp2 : PtsMem base B M (m.with_start n) cv codes (w1.setCell ⟨B, 9, none⟩ (.int .i64 n)) := ((hp.mov m1).set_start (i64_word ok1)).mov ((Mov.refl B M w1).set 9 _)
  have hgot : Got (pPart 8 (ptsOf m last codes)) r r1 (ptsOf (m.with_start n) last codes) := by
    rw [show pPart 8 (ptsOf m last codes) = pNum.and fun l => .val { ptsOf m last codes with start := l } from by unfold pPart; simp]
    exact g1.map (fun l => ({ ptsOf m last codes with start := l } : Pts))
  have HG := Lib.hid hgot
  clear c1 h1 m1 hgot g1
  dsimp only [valInt]
  go_wp2
  go_end0
  exact ⟨m.with_start n, cv, codes, r1, rfl, HG.out, h2, m2, hp2⟩
theorem got_all {r r1 : RV} {l : List UInt8} (p : Pts) (g : Got pName r r1 l) : Got (pName.and fun _ _ => .ok p []) r ⟨r1.s, r1.s.size, r1.e⟩ p := by
  refine g.and ⟨rfl, ?_⟩
  by_cases he : r1.e = 0
  · exact .inr (.inl ⟨he, he, by unfold RV.rem; simp [List.drop_eq_nil_of_le, ← ByteArray.size_data]⟩)
  · exact .inl ⟨he, rfl⟩
theorem passOver_part {w0 : World} (hLaid : Laid w0) {base B M : Nat} {T : TypeId} {m : MoV} {last : Int} {cv : Value} {codes : List FnV} {r : RV} {w : World} (h : RdAt w0 B M T (restOf m last cv) r w) (hp : PtsMem base B M m cv codes w) :
    Calls Tryz.prog 105 #[.pointer (some ⟨B, 0, none⟩)] w (DidPart w0 base B M T last r w (pPart 0 (ptsOf m last codes))) := by
  have c1 := name_reads hLaid h
  go_enter Tryz.func105, Tryz.ntmps105
  go_wp2_with fail
  refine c1.mono ?_
  rintro e w1 ⟨l, r1, rfl, g1, h1, m1, ok1⟩
  obtain ⟨x0, x1, x2, x3, y0, y1, y2, y3⟩ := h1.reads
  have h2 := h1.set1 r1.s.size (Nat.le_refl _)
  have m2 := m1.set 1 (.int .i64 r1.s.size)
  have hp2 := (hp.mov m1).mov ((Mov.refl B M w1).set 1 (.int .i64 r1.s.size))
  have hgot : Got (pPart 0 (ptsOf m last codes)) r ⟨r1.s, r1.s.size, r1.e⟩ (ptsOf m last codes) := by
    rw [show pPart 0 (ptsOf m last codes) = pName.and fun _ _ => .ok (ptsOf m last codes) [] from by unfold pPart; simp]
    exact got_all _ g1
  have HG := Lib.hid hgot
  clear c1 h1 m1 hgot g1
  dsimp only [valStr]
  go_wp2
  go_end0
  exact ⟨m, cv, codes, _, rfl, HG.out, h2, m2, hp2⟩
end Go.Proofs.YtdinpakclmnacaaGreatDoor
namespace Go.Proofs.YtdinpakclmnacaaGreatDoor
set_option maxRecDepth 100000
set_option maxHeartbeats 16000000
open Go.RowKit Go.Maps
set_option linter.unusedVariables false
def partsD : DataW Unit := ((((((((((.map [] : DataW Unit).put (.int .i64 0) (.lit (.int .i64 105))).put (.int .i64 1) (.lit (.int .i64 106))).put (.int .i64 3) (.lit (.int .i64 107))).put (.int .i64 5) (.lit (.int .i64 108))).put (.int .i64 6) (.lit (.int .i64 109))).put (.int .i64 7) (.lit (.int .i64 110))).put (.int .i64 8) (.lit (.int .i64 111))).put (.int .i64 10) (.lit (.int .i64 112))).put (.int .i64 11) (.lit (.int .i64 113)))
theorem parts_zero (w : World) : (zeroValue 164).run Tryz.prog w = .ok .nilFunc w := by kernel_rfl
def Known (w : World) (b : Nat) : Prop := w.ownsMap Tryz.prog 3 (fnRead (H := Unit)) b 9 partsD
theorem Known.same {w w' : World} {b : Nat} (h : Known w b) (e : w'.heap[b]? = w.heap[b]?) : Known w' b := ownsMap_same h e
theorem sections6 (w : World) : Calls Tryz.prog 39 #[] w fun e w' => e = .returned (.map (some w.heap.size)) ∧ Known w' w.heap.size ∧ Below w.heap.size w w' ∧ w.heap.size < w'.heap.size := by
  have law : Keyed Tryz.prog 3 := int_keyed Tryz.underlying3
  have hwf : ∀ a : Int, -9223372036854775808 ≤ a → a ≤ 9223372036854775807 → (Lit.int .i64 a).wf = true := fun a ha hb => WalkArith.wf_i64 ⟨ha, hb⟩
  have hmm := @run_makeMap Tryz.prog
  have o0 := World.ownsMap_made w Tryz.prog 3 (fnRead (H := Unit))
  obtain ⟨w1, u1, o1, g1⟩ := o0.update law Tryz.underlying102 (by unfold maxLen; omega) (keyOf_int_mk Tryz.underlying3 (hwf 0 (by decide) (by decide))) (fnRead_mk 105)
  obtain ⟨w2, u2, o2, g2⟩ := o1.update law Tryz.underlying102 (by unfold maxLen; omega) (keyOf_int_mk Tryz.underlying3 (hwf 1 (by decide) (by decide))) (fnRead_mk 106)
  obtain ⟨w3, u3, o3, g3⟩ := o2.update law Tryz.underlying102 (by unfold maxLen; omega) (keyOf_int_mk Tryz.underlying3 (hwf 3 (by decide) (by decide))) (fnRead_mk 107)
  obtain ⟨w4, u4, o4, g4⟩ := o3.update law Tryz.underlying102 (by unfold maxLen; omega) (keyOf_int_mk Tryz.underlying3 (hwf 5 (by decide) (by decide))) (fnRead_mk 108)
  obtain ⟨w5, u5, o5, g5⟩ := o4.update law Tryz.underlying102 (by unfold maxLen; omega) (keyOf_int_mk Tryz.underlying3 (hwf 6 (by decide) (by decide))) (fnRead_mk 109)
  obtain ⟨w6, u6, o6, g6⟩ := o5.update law Tryz.underlying102 (by unfold maxLen; omega) (keyOf_int_mk Tryz.underlying3 (hwf 7 (by decide) (by decide))) (fnRead_mk 110)
  obtain ⟨w7, u7, o7, g7⟩ := o6.update law Tryz.underlying102 (by unfold maxLen; omega) (keyOf_int_mk Tryz.underlying3 (hwf 8 (by decide) (by decide))) (fnRead_mk 111)
  obtain ⟨w8, u8, o8, g8⟩ := o7.update law Tryz.underlying102 (by unfold maxLen; omega) (keyOf_int_mk Tryz.underlying3 (hwf 10 (by decide) (by decide))) (fnRead_mk 112)
  obtain ⟨w9, u9, o9, g9⟩ := o8.update law Tryz.underlying102 (by unfold maxLen; omega) (keyOf_int_mk Tryz.underlying3 (hwf 11 (by decide) (by decide))) (fnRead_mk 113)
  have hb : Below w.heap.size w w9 ∧ w.heap.size + 1 ≤ w9.heap.size := by
    have b0 := (Below.refl w.heap.size w).alloc (Nat.le_refl _) (.map #[] 0)
    have z0 : w.heap.size + 1 ≤ (w.alloc (.map #[] 0)).heap.size := by simp
    have b1 := b0.grown g1 (Nat.le_trans (Nat.le_succ _) z0) (fun k hk => by cases hk; exact Nat.le_refl _)
    have z1 : w.heap.size + 1 ≤ w1.heap.size := Nat.le_trans z0 g1.size
    have b2 := b1.grown g2 (Nat.le_trans (Nat.le_succ _) z1) (fun k hk => by cases hk; exact Nat.le_refl _)
    have z2 : w.heap.size + 1 ≤ w2.heap.size := Nat.le_trans z1 g2.size
    have b3 := b2.grown g3 (Nat.le_trans (Nat.le_succ _) z2) (fun k hk => by cases hk; exact Nat.le_refl _)
    have z3 : w.heap.size + 1 ≤ w3.heap.size := Nat.le_trans z2 g3.size
    have b4 := b3.grown g4 (Nat.le_trans (Nat.le_succ _) z3) (fun k hk => by cases hk; exact Nat.le_refl _)
    have z4 : w.heap.size + 1 ≤ w4.heap.size := Nat.le_trans z3 g4.size
    have b5 := b4.grown g5 (Nat.le_trans (Nat.le_succ _) z4) (fun k hk => by cases hk; exact Nat.le_refl _)
    have z5 : w.heap.size + 1 ≤ w5.heap.size := Nat.le_trans z4 g5.size
    have b6 := b5.grown g6 (Nat.le_trans (Nat.le_succ _) z5) (fun k hk => by cases hk; exact Nat.le_refl _)
    have z6 : w.heap.size + 1 ≤ w6.heap.size := Nat.le_trans z5 g6.size
    have b7 := b6.grown g7 (Nat.le_trans (Nat.le_succ _) z6) (fun k hk => by cases hk; exact Nat.le_refl _)
    have z7 : w.heap.size + 1 ≤ w7.heap.size := Nat.le_trans z6 g7.size
    have b8 := b7.grown g8 (Nat.le_trans (Nat.le_succ _) z7) (fun k hk => by cases hk; exact Nat.le_refl _)
    have z8 : w.heap.size + 1 ≤ w8.heap.size := Nat.le_trans z7 g8.size
    have b9 := b8.grown g9 (Nat.le_trans (Nat.le_succ _) z8) (fun k hk => by cases hk; exact Nat.le_refl _)
    have z9 : w.heap.size + 1 ≤ w9.heap.size := Nat.le_trans z8 g9.size
    exact ⟨b9, z9⟩
  obtain ⟨hb, hz⟩ := hb
  have hK : Known w9 w.heap.size := o9
  clear o1 g1 o2 g2 o3 g3 o4 g4 o5 g5 o6 g6 o7 g7 o8 g8 o9 g9 o0
  go_enter Tryz.func39, Tryz.ntmps39
  go_wp2
  go_ret
  exact ⟨rfl, hK, hb, hz⟩
def secFn (n : Int) : Value × Bool :=
  if n = 0 then (.func (.func 105) #[] #[], true) else if n = 1 then (.func (.func 106) #[] #[], true) else if n = 3 then (.func (.func 107) #[] #[], true) else if n = 5 then (.func (.func 108) #[] #[], true) else if n = 6 then (.func (.func 109) #[] #[], true) else if n = 7 then (.func (.func 110) #[] #[], true) else if n = 8 then (.func (.func 111) #[] #[], true) else if n = 10 then (.func (.func 112) #[] #[], true) else if n = 11 then (.func (.func 113) #[] #[], true) else (.nilFunc, false)
theorem known_look {w : World} {b : Nat} (h : Known w b) (n : Int) (hn : 0 ≤ n ∧ n < 256) : (Instr.lookup 102 (.map (some b)) (.int .i64 n) true).run Tryz.prog w = .ok (.tuple #[(secFn n).1, .bool (secFn n).2]) w := by
  have law : Keyed Tryz.prog 3 := int_keyed Tryz.underlying3
  obtain ⟨v, ps, hl, hv⟩ := World.ownsMap.look_ok h law Tryz.underlying102 (parts_zero _) fnRead_nil (keyOf_int_mk Tryz.underlying3 (WalkArith.wf_i64 (show -9223372036854775808 ≤ n ∧ n ≤ 9223372036854775807 by omega)))
  rw [hl]
  by_cases h0 : n = 0
  · subst h0
    obtain rfl := fnRead_fn (n := 105) (ps := ps) hv
    rfl
  by_cases h1 : n = 1
  · subst h1
    obtain rfl := fnRead_fn (n := 106) (ps := ps) hv
    rfl
  by_cases h3 : n = 3
  · subst h3
    obtain rfl := fnRead_fn (n := 107) (ps := ps) hv
    rfl
  by_cases h5 : n = 5
  · subst h5
    obtain rfl := fnRead_fn (n := 108) (ps := ps) hv
    rfl
  by_cases h6 : n = 6
  · subst h6
    obtain rfl := fnRead_fn (n := 109) (ps := ps) hv
    rfl
  by_cases h7 : n = 7
  · subst h7
    obtain rfl := fnRead_fn (n := 110) (ps := ps) hv
    rfl
  by_cases h8 : n = 8
  · subst h8
    obtain rfl := fnRead_fn (n := 111) (ps := ps) hv
    rfl
  by_cases h10 : n = 10
  · subst h10
    obtain rfl := fnRead_fn (n := 112) (ps := ps) hv
    rfl
  by_cases h11 : n = 11
  · subst h11
    obtain rfl := fnRead_fn (n := 113) (ps := ps) hv
    rfl
  have ne : ∀ {c : Int}, ¬ n = c → Lit.int .i64 n ≠ Lit.int .i64 c := fun h e => h (by injection e)
  have e1 : Maps.has partsD (.int .i64 n) = false := by
    unfold partsD
    rw [has_put_other (ne h11), has_put_other (ne h10), has_put_other (ne h8), has_put_other (ne h7), has_put_other (ne h6), has_put_other (ne h5), has_put_other (ne h3), has_put_other (ne h1), has_put_other (ne h0)]
    rfl
  have e2 : partsD.atKey (.int .i64 n) .nil = .nil := by
    unfold partsD
    rw [atKey_put_other (ne h11), atKey_put_other (ne h10), atKey_put_other (ne h8), atKey_put_other (ne h7), atKey_put_other (ne h6), atKey_put_other (ne h5), atKey_put_other (ne h3), atKey_put_other (ne h1), atKey_put_other (ne h0)]
    rfl
  rw [e2] at hv
  obtain rfl := fnRead_none hv
  rw [e1]
  have e3 : secFn n = (.nilFunc, false) := by
    unfold secFn
    rw [if_neg h0, if_neg h1, if_neg h3, if_neg h5, if_neg h6, if_neg h7, if_neg h8, if_neg h10, if_neg h11]
  rw [e3]
end Go.Proofs.YtdinpakclmnacaaGreatDoor
