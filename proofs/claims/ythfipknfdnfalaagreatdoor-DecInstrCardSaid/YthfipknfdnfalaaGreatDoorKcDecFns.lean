/-
  Package dec's list of functions, walked, whatever reads one of them. Contracts that the proofs call; no statement is proved here.
-/
import Derived.Test.YthfipknfdnfalaaGreatDoorKcDecLocs
import Derived.Test.YthfipknfdnfalaaGreatDoorKcFnMap
namespace Go.Proofs.YthfipknfdnfalaaGreatDoor
set_option maxRecDepth 100000
set_option maxHeartbeats 16000000
open Go.RowKit
set_option linter.unusedVariables false
def FnV.has (f : FnV) (g : Nat) : Prop := (Value.slice f.cp f.code.length f.cc).ownBlock = some g ∨ ∃ x ∈ f.code, x.lab.ownBlock = some g
theorem FnOwn.lt {base : Nat} {w : World} {f : FnV} (h : FnOwn base w f) : ∀ g, f.has g → base ≤ g ∧ g < w.heap.size := fun g hg => by
  rcases hg with hg | ⟨x, hx, hg⟩
  · exact own_lt6 h.own g hg
  · exact (h.ins x hx).lt g hg
theorem FnOwn.same {base : Nat} {w w' : World} {f : FnV} (h : FnOwn base w f) (hk : ∀ g, f.has g → w'.heap[g]? = w.heap[g]?) : FnOwn base w' f :=
  ⟨own_same h.own fun g hg => hk g (.inl hg), fun x hx => (h.ins x hx).same fun g hg => hk g (.inr ⟨x, hx, hg⟩), h.len, h.loc, h.type⟩
def DidFns (w0 : World) (B M : Nat) (T : TypeId) (rest : List Value) (r : RV) (w : World) (P : Pr FnV) (e : Ending) (w' : World) : Prop :=
  ∃ (l : List FnV) (r' : RV) (v : Value), e = .returned v ∧ Got (pList P) r r' (l.map FnV.bare) ∧ RdAt w0 B M T rest r' w' ∧ Mov B M w w' ∧ w'.ownsRow w.heap.size 70 3 v l.length (l.flatMap FnV.row) ∧ (∀ f ∈ l, FnOwn w.heap.size w' f) ∧ l.length ≤ 4096
structure FnsMem (w0 w : World) (B M : Nat) (T : TypeId) (rest : List Value) (rk : RV) (v : Value) (fs l : List FnV) (W : World) : Prop where
  rd : RdAt w0 B M T rest rk W
  mov : Mov B M w W
  hB : B < w.heap.size
  hM : M < w.heap.size
  own : W.ownsRow w.heap.size 70 3 v l.length (l.flatMap FnV.row)
  fns : ∀ f ∈ fs, FnOwn w.heap.size W f
  far : ∀ f ∈ fs, ∀ g, f.has g → v.ownBlock ≠ some g
theorem FnsMem.call {w0 w : World} {B M : Nat} {T : TypeId} {rest : List Value} {rk r1 : RV} {v : Value} {fs l : List FnV} {W W1 : World} (h : FnsMem w0 w B M T rest rk v fs l W) (hm : Mov B M W W1) (hr : RdAt w0 B M T rest r1 W1) :
    FnsMem w0 w B M T rest r1 v fs l W1 :=
  ⟨hr, h.mov.trans hm, h.hB, h.hM, own_mov h.own hm h.hB h.hM, fun f hf => (h.fns f hf).mov hm h.hB h.hM, h.far⟩
theorem FnsMem.fn {w0 w : World} {B M : Nat} {T : TypeId} {rest : List Value} {rk r1 : RV} {v : Value} {fs l : List FnV} {W W1 : World} {f : FnV} (h : FnsMem w0 w B M T rest rk v fs l W) (hm : Mov B M W W1) (hr : RdAt w0 B M T rest r1 W1) (hf : FnOwn W.heap.size W1 f) :
    FnsMem w0 w B M T rest r1 v (fs ++ [f]) l W1 := by
  have h1 := h.call hm hr
  refine ⟨h1.rd, h1.mov, h1.hB, h1.hM, h1.own, fun y hy => ?_, fun y hy g hg => ?_⟩
  · rcases List.mem_append.1 hy with hy | hy
    · exact h1.fns y hy
    · rw [List.mem_singleton.1 hy]; exact hf.down h.mov.size
  · rcases List.mem_append.1 hy with hy | hy
    · exact h1.far y hy g hg
    · rw [List.mem_singleton.1 hy] at hg
      have := hf.lt g hg
      exact fun e => by have := own_lt6 h.own g e; omega
theorem FnsMem.more {w0 w : World} {B M : Nat} {T : TypeId} {rest : List Value} {rk : RV} {v v' : Value} {fs l : List FnV} {W W1 : World} {f : FnV} (h : FnsMem w0 w B M T rest rk v fs l W) (hown : W1.ownsRow w.heap.size 70 3 v' (l.length + 1) (l.flatMap FnV.row ++ f.row)) (hg : W.grownBy W1 v.ownBlock) (hv : v'.ownBlock = v.ownBlock ∨ v'.ownBlock = some W.heap.size) :
    FnsMem w0 w B M T rest rk v' fs (l ++ [f]) W1 := by
  have hge : ∀ k, v.ownBlock = some k → w.heap.size ≤ k := fun k hk => (own_lt6 h.own k hk).1
  have hB := h.hB
  have hM := h.hM
  refine ⟨h.rd.grown hg (fun k hk => by have := hge k hk; omega) (fun k hk => by have := hge k hk; omega), h.mov.grown hg hge, hB, hM, by rw [List.length_append, List.flatMap_append]; simpa using hown, fun y hy => (h.fns y hy).same fun g hg2 => ?_, fun y hy g hg2 e2 => ?_⟩
  · exact hg.block g ((h.fns y hy).lt g hg2).2 (fun e => h.far y hy g hg2 e.symm)
  · rcases hv with e | e
    · exact h.far y hy g hg2 (e ▸ e2)
    · rw [e] at e2; have := (h.fns y hy).lt g hg2; cases e2; omega
theorem FnsMem.start {w0 w : World} {B M : Nat} {T : TypeId} {rest : List Value} {rq : RV} {W : World} (h : RdAt w0 B M T rest rq W) (hm : Mov B M w W) (hB : B < w.heap.size) (hM : M < w.heap.size) : FnsMem w0 w B M T rest rq (.slice none 0 0) [] [] W :=
  ⟨h, hm, hB, hM, World.ownsRow_nil _ _ _ _, fun f hf => absurd hf List.not_mem_nil, fun f hf => absurd hf List.not_mem_nil⟩
theorem fnrow_one (f : FnV) : ∀ u ∈ f.row, u.oneCell' = true := by intro u hu; simp [FnV.row] at hu; rcases hu with rfl | rfl | rfl <;> rfl
theorem info_func : (Tryz.prog.info? 70).map (fun i => (i.zero, i.size, i.bytes)) = some (some (.agg #[.int .i64 0, .string ⟨#[]⟩, .slice none 0 0]), 3, 48) := by kernel_rfl
theorem list_fns {w0 : World} {g : Nat} {lb : Array Value} {P : Pr FnV} {N : Nat} (eg : ∀ args w, (callFunc g args).run Tryz.prog w = .ok (.enter g args) w)
    (hE : ∀ (B M : Nat) (T : TypeId) (rest : List Value) (r : RV) (W : World), RdAt w0 B M T rest r W → r.s.size ≤ N → Calls Tryz.prog g (#[.pointer (some ⟨B, 0, none⟩)] ++ lb) W (DidFn w0 B M T rest r W P))
    {B M : Nat} {T : TypeId} {rest : List Value} {r : RV} {w : World} (h : RdAt w0 B M T rest r w) (hN : r.s.size ≤ N) :
    Calls Tryz.prog 208 #[.pointer (some ⟨B, 0, none⟩), .func (.func g) #[] lb] w (DidFns w0 B M T rest r w P) := by
  have hlt := h.lt
  have hBl := hlt.1
  have hMl := hlt.2
  have c1 := number_reads w0 B M T rest r w h
  obtain ⟨i0, hi, hz0, hz1, hz2⟩ := info_parts info_func
  clear h hlt
  go_enter Tryz.func208, Tryz.ntmps208
  go_wp2_with (first
    | (go_at_call 150; (with_reducible refine c1.mono ?_); rintro e w1 ⟨n, r1, rfl, g1, h1, m1, ok1⟩; have c2 := fail_of h1 5; have ok0 := ok1.1; have ok2 := ok1.2; dsimp only [valInt])
    | (go_at_call 138; (with_reducible refine c2.mono ?_); rintro e w2 ⟨rfl, h2, m2⟩))
  · have hgt : 4096 < n := by assumption
    obtain ⟨rq, hq⟩ : ∃ rq, r1.bad 5 = rq := ⟨_, rfl⟩
    obtain ⟨hs, hm, hgm, hfew, hrs⟩ : RdAt w0 B M T rest rq w2 ∧ Mov B M w w2 ∧ Got pMany r rq n ∧ (rq.e = 0 → n ≤ 4096) ∧ rq.s = r.s := by
      rw [← hq]
      exact ⟨h2, m1.trans m2, (Got.many g1).1 hgt, fun e => absurd e (bad_e (by decide)), g1.1⟩
    clear hq h1 h2 m1 m2 g1 c2 c1 hgt
    have HG := Lib.hid hgm
    have HF := Lib.hid hfew
    have HR := Lib.hid hrs
    have hS0 := FnsMem.start hs hm hBl hMl
    clear hgm hfew hrs hs hm
    go_loopw [6, 14] (fun v i wr => ∃ (l : List FnV) (rk : RV), (l.length : Int) ≤ n ∧ l.length ≤ 4096 ∧ i = .int .i64 l.length ∧ FnsMem w0 w B M T rest rk v l l wr ∧ Hid (Got (pRep P l.length) rq rk (l.map FnV.bare))) (fun _ i _ => n.toNat - (intOf i).toNat)
    case atStart => exact ⟨[], rq, ok0, by simp, rfl, hS0, Lib.hid (Got.zero rq)⟩
    case round =>
      clear hS0
      obtain ⟨l, rk, hkn, hk4, rfl, hS, HK⟩ := hrel
      obtain ⟨vp, vc, rfl⟩ := own_any6 hS.own
      obtain ⟨x0, x1, x2, x3, y0, y1, y2, y3⟩ := hS.rd.reads
      by_cases hlt : (l.length : Int) < n
      · by_cases he : rk.e = 0
        · have hn4 : n ≤ 4096 := HF.out (by
            rcases HK.out.2 with ⟨a1, a2⟩ | ⟨a1, _⟩ | ⟨a1, _⟩
            · exact absurd (a2.symm.trans he) a1
            · exact a1
            · exact a1)
          exfalso; omega
        · have hq : (rk.e != 0) = true := by simpa using he
          have HGL := Lib.hid (show Got (pList P) r rk ([].map FnV.bare) from Got.list HG.out (HK.out.short (by omega) he []))
          go_wp2
          go_ret
          exact ⟨[], rk, _, rfl, HGL.out, hS.rd, hS.mov, World.ownsRow_nil _ _ _ _, fun f hf => absurd hf List.not_mem_nil, by simp⟩
      · have hkk : n.toNat = l.length := by omega
        have HGL := Lib.hid (show Got (pList P) r rk (l.map FnV.bare) from Got.list HG.out (by rw [hkk]; exact HK.out))
        have hnk : n = (l.length : Int) := by omega
        clear hlt
        go_wp2
        go_ret
        exact ⟨l, rk, _, rfl, HGL.out, hS.rd, hS.mov, hS.own, hS.fns, hk4⟩
  · have hle : n ≤ 4096 := by assumption
    obtain ⟨rq, hq⟩ : ∃ rq, r1 = rq := ⟨_, rfl⟩
    obtain ⟨hs, hm, hgm, hfew, hrs⟩ : RdAt w0 B M T rest rq w1 ∧ Mov B M w w1 ∧ Got pMany r rq n ∧ (rq.e = 0 → n ≤ 4096) ∧ rq.s = r.s := by
      rw [← hq]
      have hle' : ¬ 4096 < n := by omega
      exact ⟨h1, m1, (Got.many g1).2 hle', fun _ => by omega, g1.1⟩
    clear hq h1 m1 g1 c2 c1 hle
    have HG := Lib.hid hgm
    have HF := Lib.hid hfew
    have HR := Lib.hid hrs
    have hS0 := FnsMem.start hs hm hBl hMl
    clear hgm hfew hrs hs hm
    go_loopw [6, 14] (fun v i wr => ∃ (l : List FnV) (rk : RV), (l.length : Int) ≤ n ∧ l.length ≤ 4096 ∧ i = .int .i64 l.length ∧ FnsMem w0 w B M T rest rk v l l wr ∧ Hid (Got (pRep P l.length) rq rk (l.map FnV.bare))) (fun _ i _ => n.toNat - (intOf i).toNat)
    case atStart => exact ⟨[], rq, ok0, by simp, rfl, hS0, Lib.hid (Got.zero rq)⟩
    case round =>
      clear hS0
      obtain ⟨l, rk, hkn, hk4, rfl, hS, HK⟩ := hrel
      obtain ⟨vp, vc, rfl⟩ := own_any6 hS.own
      obtain ⟨x0, x1, x2, x3, y0, y1, y2, y3⟩ := hS.rd.reads
      by_cases hlt : (l.length : Int) < n
      · by_cases he : rk.e = 0
        · have hn4 : n ≤ 4096 := HF.out (by
            rcases HK.out.2 with ⟨a1, a2⟩ | ⟨a1, _⟩ | ⟨a1, _⟩
            · exact absurd (a2.symm.trans he) a1
            · exact a1
            · exact a1)
          rw [he] at x2
          have cq := hE B M T rest rk wr hS.rd (by rw [HK.out.1, HR.out]; exact hN)
          have HE := Lib.hid he
          clear he
          go_wp2_with fail
          refine cq.mono ?_
          rintro e w3 ⟨f, r3, rfl, g3, h3, m3, hf⟩
          have hS3 := (hS.fn m3 h3 hf).call ((Mov.refl B M w3).alloc (.cells f.row.toArray 70)) (h3.alloc (.cells f.row.toArray 70))
          have hz3 : (w3.alloc (.cells f.row.toArray 70)).heap.size = w3.heap.size + 1 := by simp
          have HZ := Lib.hid hz3
          have hc3 := cells_new6 w3 f.row 70
          have hsz3 := hS3.mov.size
          clear cq hS h3 m3 hf hz3
          unfold FnV.row at hS3 hc3 hsz3 HZ
          unfold FnV.val
          go_wp2_with (at_builtin; refine wpList_append_own_at _ rfl (.tmp 21) (.tmp 25) 29 rfl w.heap.size 70 i0 (.agg #[.int .i64 0, .string ⟨#[]⟩, .slice none 0 0]) 3 48 Tryz.underlying29 hi hz0 hz1 hz2 rfl (by decide) (.slice vp l.length vc) l.length (l.flatMap FnV.row) rfl hS3.own ⟨w3.heap.size, 0, none⟩ 1 1 f.row rfl rfl hc3 (fnrow_one f) (by unfold maxLen; omega) (by omega) hsz3 ?_)
          intro v' w4 hown4 hg4 _ hv4
          rw [← HZ.out] at hv4
          have hS4 := hS3.more hown4 hg4 hv4
          have HS4 := Lib.hid hS4
          have HK4 : Hid (Got (pRep P (l ++ [f]).length) rq r3 ((l ++ [f]).map FnV.bare)) := Lib.hid (by
            rw [List.map_append, List.length_append]
            exact Got.more HK.out g3 HE.out)
          have HL : Hid ((l ++ [f]).length = l.length + 1) := Lib.hid (by simp)
          clear hS3 hS4 hc3 hsz3 HZ g3 HK hown4 hg4 hv4 x0 x1 x2 x3 y0 y1 y2 y3
          go_wp2
          go_roundw
          case rel => exact ⟨l ++ [f], r3, by rw [HL.out]; omega, by rw [HL.out]; omega, by rw [HL.out]; go_num, HS4.out, HK4⟩
          case measure => simp [intOf]; omega
        · have hq : (rk.e != 0) = true := by simpa using he
          have HGL := Lib.hid (show Got (pList P) r rk ([].map FnV.bare) from Got.list HG.out (HK.out.short (by omega) he []))
          go_wp2
          go_ret
          exact ⟨[], rk, _, rfl, HGL.out, hS.rd, hS.mov, World.ownsRow_nil _ _ _ _, fun f hf => absurd hf List.not_mem_nil, by simp⟩
      · have hkk : n.toNat = l.length := by omega
        have HGL := Lib.hid (show Got (pList P) r rk (l.map FnV.bare) from Got.list HG.out (by rw [hkk]; exact HK.out))
        have hnk : n = (l.length : Int) := by omega
        clear hlt
        go_wp2
        go_ret
        exact ⟨l, rk, _, rfl, HGL.out, hS.rd, hS.mov, hS.own, hS.fns, hk4⟩
def restOf (m : MoV) (last : Int) (cv : Value) : List Value := m.cells ++ [.int .i64 last, cv]
def ptsOf (m : MoV) (last : Int) (codes : List FnV) : Pts := ⟨m.types, m.funcs.map FnV.bare, m.memory, m.globals, m.exports, m.start, m.data, last, codes.map FnV.bare⟩
structure PtsMem (base B M : Nat) (m : MoV) (cv : Value) (codes : List FnV) (W : World) : Prop where
  hB : B < base
  hM : M < base
  types : W.ownsRow base 81 2 (.slice m.tp m.types.length m.tc) m.types.length (m.types.flatMap TyV.row)
  typesIn : ∀ x ∈ m.types, okTy W W x
  typesFew : m.types.length ≤ 4096
  memory : W.ownsRow base 78 2 (.slice m.mp m.memory.length m.mc) m.memory.length (m.memory.flatMap MemV.row)
  memoryIn : ∀ x ∈ m.memory, okMem W W x
  memoryFew : m.memory.length ≤ 4096
  globals : W.ownsRow base 91 3 (.slice m.gp m.globals.length m.gc) m.globals.length (m.globals.flatMap GlobV.row)
  globalsIn : ∀ x ∈ m.globals, okGlob W W x
  globalsFew : m.globals.length ≤ 4096
  exports : W.ownsRow base 76 3 (.slice m.ep m.exports.length m.ec) m.exports.length (m.exports.flatMap ExpV.row)
  exportsIn : ∀ x ∈ m.exports, okExp W W x
  exportsFew : m.exports.length ≤ 4096
  data : W.ownsRow base 94 2 (.slice m.dp m.data.length m.dc) m.data.length (m.data.flatMap DatV.row)
  dataIn : ∀ x ∈ m.data, okDat W W x
  dataFew : m.data.length ≤ 4096
  funcs : W.ownsRow base 70 3 (.slice m.fp m.funcs.length m.fc) m.funcs.length (m.funcs.flatMap FnV.row)
  funcsIn : ∀ f ∈ m.funcs, FnOwn base W f
  funcsFew : m.funcs.length ≤ 4096
  startIn : inI64 m.start
  rows : W.ownsRow base 70 3 cv codes.length (codes.flatMap FnV.row)
  codesIn : ∀ f ∈ codes, FnOwn base W f
  codesFew : codes.length ≤ 4096
  far : ∀ g, (Value.slice m.fp m.funcs.length m.fc).ownBlock = some g → cv.ownBlock ≠ some g ∧ ∀ c ∈ codes, ¬ c.has g
theorem PtsMem.mov {base B M : Nat} {m : MoV} {cv : Value} {codes : List FnV} {W W1 : World} (h : PtsMem base B M m cv codes W) (hm : Mov B M W W1) : PtsMem base B M m cv codes W1 :=
  { hB := h.hB
    hM := h.hM
    types := own_mov h.types hm h.hB h.hM
    typesIn := h.typesIn
    typesFew := h.typesFew
    memory := own_mov h.memory hm h.hB h.hM
    memoryIn := h.memoryIn
    memoryFew := h.memoryFew
    globals := own_mov h.globals hm h.hB h.hM
    globalsIn := h.globalsIn
    globalsFew := h.globalsFew
    exports := own_mov h.exports hm h.hB h.hM
    exportsIn := h.exportsIn
    exportsFew := h.exportsFew
    data := own_mov h.data hm h.hB h.hM
    dataIn := h.dataIn
    dataFew := h.dataFew
    funcs := own_mov h.funcs hm h.hB h.hM
    funcsIn := fun f hf => (h.funcsIn f hf).mov hm h.hB h.hM
    funcsFew := h.funcsFew
    startIn := h.startIn
    rows := own_mov h.rows hm h.hB h.hM
    codesIn := fun f hf => (h.codesIn f hf).mov hm h.hB h.hM
    codesFew := h.codesFew
    far := h.far }
def MoV.with_types (m : MoV) (p : Option Addr) (c : Nat) (l : List TyV) : MoV := { m with tp := p, tc := c, types := l }
theorem PtsMem.set_types {base B M b2 : Nat} {m : MoV} {cv : Value} {codes : List FnV} {W : World} (h : PtsMem base B M m cv codes W) {p : Option Addr} {c : Nat} {l : List TyV} (hb : base ≤ b2) (ho : W.ownsRow b2 81 2 (.slice p l.length c) l.length (l.flatMap TyV.row)) (hi : ∀ x ∈ l, okTy W W x) (hl : l.length ≤ 4096) : PtsMem base B M (m.with_types p c l) cv codes W :=
  { hB := h.hB
    hM := h.hM
    types := own_down ho hb
    typesIn := hi
    typesFew := hl
    memory := h.memory
    memoryIn := h.memoryIn
    memoryFew := h.memoryFew
    globals := h.globals
    globalsIn := h.globalsIn
    globalsFew := h.globalsFew
    exports := h.exports
    exportsIn := h.exportsIn
    exportsFew := h.exportsFew
    data := h.data
    dataIn := h.dataIn
    dataFew := h.dataFew
    funcs := h.funcs
    funcsIn := h.funcsIn
    funcsFew := h.funcsFew
    startIn := h.startIn
    rows := h.rows
    codesIn := h.codesIn
    codesFew := h.codesFew
    far := h.far }
def MoV.with_memory (m : MoV) (p : Option Addr) (c : Nat) (l : List MemV) : MoV := { m with mp := p, mc := c, memory := l }
theorem PtsMem.set_memory {base B M b2 : Nat} {m : MoV} {cv : Value} {codes : List FnV} {W : World} (h : PtsMem base B M m cv codes W) {p : Option Addr} {c : Nat} {l : List MemV} (hb : base ≤ b2) (ho : W.ownsRow b2 78 2 (.slice p l.length c) l.length (l.flatMap MemV.row)) (hi : ∀ x ∈ l, okMem W W x) (hl : l.length ≤ 4096) : PtsMem base B M (m.with_memory p c l) cv codes W :=
  { hB := h.hB
    hM := h.hM
    types := h.types
    typesIn := h.typesIn
    typesFew := h.typesFew
    memory := own_down ho hb
    memoryIn := hi
    memoryFew := hl
    globals := h.globals
    globalsIn := h.globalsIn
    globalsFew := h.globalsFew
    exports := h.exports
    exportsIn := h.exportsIn
    exportsFew := h.exportsFew
    data := h.data
    dataIn := h.dataIn
    dataFew := h.dataFew
    funcs := h.funcs
    funcsIn := h.funcsIn
    funcsFew := h.funcsFew
    startIn := h.startIn
    rows := h.rows
    codesIn := h.codesIn
    codesFew := h.codesFew
    far := h.far }
def MoV.with_globals (m : MoV) (p : Option Addr) (c : Nat) (l : List GlobV) : MoV := { m with gp := p, gc := c, globals := l }
theorem PtsMem.set_globals {base B M b2 : Nat} {m : MoV} {cv : Value} {codes : List FnV} {W : World} (h : PtsMem base B M m cv codes W) {p : Option Addr} {c : Nat} {l : List GlobV} (hb : base ≤ b2) (ho : W.ownsRow b2 91 3 (.slice p l.length c) l.length (l.flatMap GlobV.row)) (hi : ∀ x ∈ l, okGlob W W x) (hl : l.length ≤ 4096) : PtsMem base B M (m.with_globals p c l) cv codes W :=
  { hB := h.hB
    hM := h.hM
    types := h.types
    typesIn := h.typesIn
    typesFew := h.typesFew
    memory := h.memory
    memoryIn := h.memoryIn
    memoryFew := h.memoryFew
    globals := own_down ho hb
    globalsIn := hi
    globalsFew := hl
    exports := h.exports
    exportsIn := h.exportsIn
    exportsFew := h.exportsFew
    data := h.data
    dataIn := h.dataIn
    dataFew := h.dataFew
    funcs := h.funcs
    funcsIn := h.funcsIn
    funcsFew := h.funcsFew
    startIn := h.startIn
    rows := h.rows
    codesIn := h.codesIn
    codesFew := h.codesFew
    far := h.far }
def MoV.with_exports (m : MoV) (p : Option Addr) (c : Nat) (l : List ExpV) : MoV := { m with ep := p, ec := c, exports := l }
theorem PtsMem.set_exports {base B M b2 : Nat} {m : MoV} {cv : Value} {codes : List FnV} {W : World} (h : PtsMem base B M m cv codes W) {p : Option Addr} {c : Nat} {l : List ExpV} (hb : base ≤ b2) (ho : W.ownsRow b2 76 3 (.slice p l.length c) l.length (l.flatMap ExpV.row)) (hi : ∀ x ∈ l, okExp W W x) (hl : l.length ≤ 4096) : PtsMem base B M (m.with_exports p c l) cv codes W :=
  { hB := h.hB
    hM := h.hM
    types := h.types
    typesIn := h.typesIn
    typesFew := h.typesFew
    memory := h.memory
    memoryIn := h.memoryIn
    memoryFew := h.memoryFew
    globals := h.globals
    globalsIn := h.globalsIn
    globalsFew := h.globalsFew
    exports := own_down ho hb
    exportsIn := hi
    exportsFew := hl
    data := h.data
    dataIn := h.dataIn
    dataFew := h.dataFew
    funcs := h.funcs
    funcsIn := h.funcsIn
    funcsFew := h.funcsFew
    startIn := h.startIn
    rows := h.rows
    codesIn := h.codesIn
    codesFew := h.codesFew
    far := h.far }
def MoV.with_data (m : MoV) (p : Option Addr) (c : Nat) (l : List DatV) : MoV := { m with dp := p, dc := c, data := l }
theorem PtsMem.set_data {base B M b2 : Nat} {m : MoV} {cv : Value} {codes : List FnV} {W : World} (h : PtsMem base B M m cv codes W) {p : Option Addr} {c : Nat} {l : List DatV} (hb : base ≤ b2) (ho : W.ownsRow b2 94 2 (.slice p l.length c) l.length (l.flatMap DatV.row)) (hi : ∀ x ∈ l, okDat W W x) (hl : l.length ≤ 4096) : PtsMem base B M (m.with_data p c l) cv codes W :=
  { hB := h.hB
    hM := h.hM
    types := h.types
    typesIn := h.typesIn
    typesFew := h.typesFew
    memory := h.memory
    memoryIn := h.memoryIn
    memoryFew := h.memoryFew
    globals := h.globals
    globalsIn := h.globalsIn
    globalsFew := h.globalsFew
    exports := h.exports
    exportsIn := h.exportsIn
    exportsFew := h.exportsFew
    data := own_down ho hb
    dataIn := hi
    dataFew := hl
    funcs := h.funcs
    funcsIn := h.funcsIn
    funcsFew := h.funcsFew
    startIn := h.startIn
    rows := h.rows
    codesIn := h.codesIn
    codesFew := h.codesFew
    far := h.far }
def MoV.with_funcs (m : MoV) (p : Option Addr) (c : Nat) (l : List FnV) : MoV := { m with fp := p, fc := c, funcs := l }
def MoV.with_start (m : MoV) (n : Int) : MoV := { m with start := n }
theorem PtsMem.set_start {base B M : Nat} {m : MoV} {cv : Value} {codes : List FnV} {W : World} (h : PtsMem base B M m cv codes W) {n : Int} (hn : inI64 n) : PtsMem base B M (m.with_start n) cv codes W :=
  { hB := h.hB
    hM := h.hM
    types := h.types
    typesIn := h.typesIn
    typesFew := h.typesFew
    memory := h.memory
    memoryIn := h.memoryIn
    memoryFew := h.memoryFew
    globals := h.globals
    globalsIn := h.globalsIn
    globalsFew := h.globalsFew
    exports := h.exports
    exportsIn := h.exportsIn
    exportsFew := h.exportsFew
    data := h.data
    dataIn := h.dataIn
    dataFew := h.dataFew
    funcs := h.funcs
    funcsIn := h.funcsIn
    funcsFew := h.funcsFew
    startIn := hn
    rows := h.rows
    codesIn := h.codesIn
    codesFew := h.codesFew
    far := h.far }
theorem PtsMem.set_funcs {base B M : Nat} {m : MoV} {cv : Value} {codes : List FnV} {W0 W : World} (h0 : PtsMem base B M m cv codes W0) (h : PtsMem base B M m cv codes W) {p : Option Addr} {c : Nat} {l : List FnV} (hb : base ≤ W0.heap.size) (ho : W.ownsRow W0.heap.size 70 3 (.slice p l.length c) l.length (l.flatMap FnV.row)) (hi : ∀ x ∈ l, FnOwn W0.heap.size W x) (hl : l.length ≤ 4096) : PtsMem base B M (m.with_funcs p c l) cv codes W :=
  { hB := h.hB
    hM := h.hM
    types := h.types
    typesIn := h.typesIn
    typesFew := h.typesFew
    memory := h.memory
    memoryIn := h.memoryIn
    memoryFew := h.memoryFew
    globals := h.globals
    globalsIn := h.globalsIn
    globalsFew := h.globalsFew
    exports := h.exports
    exportsIn := h.exportsIn
    exportsFew := h.exportsFew
    data := h.data
    dataIn := h.dataIn
    dataFew := h.dataFew
    funcs := own_down ho hb
    funcsIn := fun f hf => (hi f hf).down hb
    funcsFew := hl
    startIn := h.startIn
    rows := h.rows
    codesIn := h.codesIn
    codesFew := h.codesFew
    far := fun g hg => by
      have h1 := own_lt6 ho g hg
      exact ⟨fun e => by have := own_lt6 h0.rows g e; omega, fun x hx e => by have := (h0.codesIn x hx).lt g e; omega⟩ }
theorem PtsMem.set_codes {base B M : Nat} {m : MoV} {cv cv' : Value} {codes l : List FnV} {W0 W : World} (h0 : PtsMem base B M m cv codes W0) (h : PtsMem base B M m cv codes W) (hb : base ≤ W0.heap.size) (ho : W.ownsRow W0.heap.size 70 3 cv' l.length (l.flatMap FnV.row)) (hi : ∀ x ∈ l, FnOwn W0.heap.size W x) (hl : l.length ≤ 4096) : PtsMem base B M m cv' l W :=
  { hB := h.hB
    hM := h.hM
    types := h.types
    typesIn := h.typesIn
    typesFew := h.typesFew
    memory := h.memory
    memoryIn := h.memoryIn
    memoryFew := h.memoryFew
    globals := h.globals
    globalsIn := h.globalsIn
    globalsFew := h.globalsFew
    exports := h.exports
    exportsIn := h.exportsIn
    exportsFew := h.exportsFew
    data := h.data
    dataIn := h.dataIn
    dataFew := h.dataFew
    funcs := h.funcs
    funcsIn := h.funcsIn
    funcsFew := h.funcsFew
    startIn := h.startIn
    rows := own_down ho hb
    codesIn := fun f hf => (hi f hf).down hb
    codesFew := hl
    far := fun g hg => by
      have h1 := own_lt6 h0.funcs g hg
      exact ⟨fun e => by have := own_lt6 ho g e; omega, fun x hx e => by have := (hi x hx).lt g e; omega⟩ }
theorem RdAt.setRest {w0 : World} {B M : Nat} {T : TypeId} {rest rest' : List Value} {r : RV} {w : World} (h : RdAt w0 B M T rest r w) (j : Nat) (v : Value) (he : rest' = rest.set j v) : RdAt w0 B M T rest' r (w.setCell ⟨B, 4 + j, none⟩ v) := by
  obtain ⟨D, hD⟩ := h.infos
  subst he
  refine ⟨((Mov.refl B M w).set _ _).below h.below h.hB h.hM, ?_, ⟨D, hD.same (Below.heap_setCell _ _ _ _ h.ne)⟩, h.ne, h.hB, h.hM, h.size, h.pos⟩
  rw [heap_setCell_same w B (4 + j) _ _ v h.box]
  congr 2
  apply Array.ext'
  simp [RV.cells, Nat.add_comm 4 j]
theorem restOf_cells (m : MoV) (last : Int) (cv : Value) {w0 : World} {B M : Nat} {T : TypeId} {r : RV} {w : World} (h : RdAt w0 B M T (restOf m last cv) r w) :
    (w.cell? ⟨B, 5, none⟩ = some (.slice m.fp m.funcs.length m.fc) ∧ w.cell? ⟨B, 11, none⟩ = some (.int .i64 last) ∧ w.cell? ⟨B, 12, none⟩ = some cv) ∧ ∀ j, w.frozen? ⟨B, j, none⟩ = false := by
  have c : ∀ j, w.cell? ⟨B, j, none⟩ = (r.cells M ++ restOf m last cv)[j]? := fun j => by rw [World.cell?, h.box]; simp
  exact ⟨⟨c 5, c 11, c 12⟩, fun j => by simp [World.frozen?, h.box]⟩
theorem restOf_all (m : MoV) (last : Int) (cv : Value) {w0 : World} {B M : Nat} {T : TypeId} {r : RV} {w : World} (h : RdAt w0 B M T (restOf m last cv) r w) :
    ∀ j, j < 13 → ∃ v, w.cell? ⟨B, j, none⟩ = some v := fun j hj => by
  have c : w.cell? ⟨B, j, none⟩ = (r.cells M ++ restOf m last cv)[j]? := by rw [World.cell?, h.box]; simp
  have hl : (r.cells M ++ restOf m last cv).length = 13 := rfl
  exact ⟨_, c.trans (List.getElem?_eq_getElem (by omega))⟩
def DidPart (w0 : World) (base B M : Nat) (T : TypeId) (last : Int) (r : RV) (w : World) (P : Pr Pts) (e : Ending) (w' : World) : Prop :=
  ∃ (m' : MoV) (cv' : Value) (codes' : List FnV) (r' : RV), e = .returned (.tuple #[]) ∧ Got P r r' (ptsOf m' last codes') ∧ RdAt w0 B M T (restOf m' last cv') r' w' ∧ Mov B M w w' ∧ PtsMem base B M m' cv' codes' w'
theorem enters_funcType : ∀ args w, (callFunc 207 args).run Tryz.prog w = .ok (.enter 207 args) w := enters_of Tryz.func207 (by kernel_rfl) rfl
theorem readTypes_part {w0 : World} (hLaid : Laid w0) {base B M : Nat} {T : TypeId} {m : MoV} {last : Int} {cv : Value} {codes : List FnV} {r : RV} {w : World} (h : RdAt w0 B M T (restOf m last cv) r w) (hp : PtsMem base B M m cv codes w) (hb : base ≤ w.heap.size) :
    Calls Tryz.prog 129 #[.pointer (some ⟨B, 0, none⟩)] w (DidPart w0 base B M T last r w (pPart 1 (ptsOf m last codes))) := by
  have c1 := list_FuncType (lb := #[]) (P := pTy) (ok := okTy w w) enters_funcType (functype_reads w0) h
  go_enter Tryz.func129, Tryz.ntmps129
  go_wp2_with fail
  refine c1.mono ?_
  rintro e w1 ⟨l, r1, v, rfl, g1, h1, m1, hown, hok, hl⟩
  obtain ⟨vp, vc, rfl⟩ := own_any6 hown
  obtain ⟨u, hu⟩ := restOf_all m last cv h1 4 (by decide)
  have hf := (restOf_cells m last cv h1).2 4
  have h2 := h1.setRest (rest' := restOf (m.with_types vp vc l) last cv) 0 (.slice vp l.length vc) rfl
  have m2 := m1.set 4 (.slice vp l.length vc)
  have hp2 : PtsMem base B M (m.with_types vp vc l) cv codes (w1.setCell ⟨B, 4, none⟩ (.slice vp l.length vc)) := ((hp.mov m1).set_types hb hown hok hl).mov ((Mov.refl B M w1).set 4 _)
  have hgot : Got (pPart 1 (ptsOf m last codes)) r r1 (ptsOf (m.with_types vp vc l) last codes) := by
    rw [show pPart 1 (ptsOf m last codes) = (pList pTy).and fun l => .val { ptsOf m last codes with types := l } from by unfold pPart; simp]
    exact g1.map (fun l => ({ ptsOf m last codes with types := l } : Pts))
  have HG := Lib.hid hgot
  clear c1 h1 m1 hown hgot g1
  go_wp2
  go_end0
  exact ⟨m.with_types vp vc l, cv, codes, r1, rfl, HG.out, h2, m2, hp2⟩
theorem enters_memory : ∀ args w, (callFunc 211 args).run Tryz.prog w = .ok (.enter 211 args) w := enters_of Tryz.func211 (by kernel_rfl) rfl
theorem readMemory_part {w0 : World} (hLaid : Laid w0) {base B M : Nat} {T : TypeId} {m : MoV} {last : Int} {cv : Value} {codes : List FnV} {r : RV} {w : World} (h : RdAt w0 B M T (restOf m last cv) r w) (hp : PtsMem base B M m cv codes w) (hb : base ≤ w.heap.size) :
    Calls Tryz.prog 131 #[.pointer (some ⟨B, 0, none⟩)] w (DidPart w0 base B M T last r w (pPart 5 (ptsOf m last codes))) := by
  have c1 := list_Memory (lb := #[]) (P := pMem) (ok := okMem w w) enters_memory (memory_reads w0) h
  go_enter Tryz.func131, Tryz.ntmps131
  go_wp2_with fail
  refine c1.mono ?_
  rintro e w1 ⟨l, r1, v, rfl, g1, h1, m1, hown, hok, hl⟩
  obtain ⟨vp, vc, rfl⟩ := own_any6 hown
  obtain ⟨u, hu⟩ := restOf_all m last cv h1 6 (by decide)
  have hf := (restOf_cells m last cv h1).2 6
  have h2 := h1.setRest (rest' := restOf (m.with_memory vp vc l) last cv) 2 (.slice vp l.length vc) rfl
  have m2 := m1.set 6 (.slice vp l.length vc)
  have hp2 : PtsMem base B M (m.with_memory vp vc l) cv codes (w1.setCell ⟨B, 6, none⟩ (.slice vp l.length vc)) := ((hp.mov m1).set_memory hb hown hok hl).mov ((Mov.refl B M w1).set 6 _)
  have hgot : Got (pPart 5 (ptsOf m last codes)) r r1 (ptsOf (m.with_memory vp vc l) last codes) := by
    rw [show pPart 5 (ptsOf m last codes) = (pList pMem).and fun l => .val { ptsOf m last codes with memory := l } from by unfold pPart; simp]
    exact g1.map (fun l => ({ ptsOf m last codes with memory := l } : Pts))
  have HG := Lib.hid hgot
  clear c1 h1 m1 hown hgot g1
  go_wp2
  go_end0
  exact ⟨m.with_memory vp vc l, cv, codes, r1, rfl, HG.out, h2, m2, hp2⟩
theorem enters_global : ∀ args w, (callFunc 213 args).run Tryz.prog w = .ok (.enter 213 args) w := enters_of Tryz.func213 (by kernel_rfl) rfl
theorem readGlobals_part {w0 : World} (hLaid : Laid w0) {base B M : Nat} {T : TypeId} {m : MoV} {last : Int} {cv : Value} {codes : List FnV} {r : RV} {w : World} (h : RdAt w0 B M T (restOf m last cv) r w) (hp : PtsMem base B M m cv codes w) (hb : base ≤ w.heap.size) :
    Calls Tryz.prog 132 #[.pointer (some ⟨B, 0, none⟩)] w (DidPart w0 base B M T last r w (pPart 6 (ptsOf m last codes))) := by
  have c1 := list_Global (lb := #[]) (P := pGlob) (ok := okGlob w w) enters_global (global_reads w0) h
  go_enter Tryz.func132, Tryz.ntmps132
  go_wp2_with fail
  refine c1.mono ?_
  rintro e w1 ⟨l, r1, v, rfl, g1, h1, m1, hown, hok, hl⟩
  obtain ⟨vp, vc, rfl⟩ := own_any6 hown
  obtain ⟨u, hu⟩ := restOf_all m last cv h1 7 (by decide)
  have hf := (restOf_cells m last cv h1).2 7
  have h2 := h1.setRest (rest' := restOf (m.with_globals vp vc l) last cv) 3 (.slice vp l.length vc) rfl
  have m2 := m1.set 7 (.slice vp l.length vc)
  have hp2 : PtsMem base B M (m.with_globals vp vc l) cv codes (w1.setCell ⟨B, 7, none⟩ (.slice vp l.length vc)) := ((hp.mov m1).set_globals hb hown hok hl).mov ((Mov.refl B M w1).set 7 _)
  have hgot : Got (pPart 6 (ptsOf m last codes)) r r1 (ptsOf (m.with_globals vp vc l) last codes) := by
    rw [show pPart 6 (ptsOf m last codes) = (pList pGlob).and fun l => .val { ptsOf m last codes with globals := l } from by unfold pPart; simp]
    exact g1.map (fun l => ({ ptsOf m last codes with globals := l } : Pts))
  have HG := Lib.hid hgot
  clear c1 h1 m1 hown hgot g1
  go_wp2
  go_end0
  exact ⟨m.with_globals vp vc l, cv, codes, r1, rfl, HG.out, h2, m2, hp2⟩
theorem enters_export : ∀ args w, (callFunc 215 args).run Tryz.prog w = .ok (.enter 215 args) w := enters_of Tryz.func215 (by kernel_rfl) rfl
theorem readExports_part {w0 : World} (hLaid : Laid w0) {base B M : Nat} {T : TypeId} {m : MoV} {last : Int} {cv : Value} {codes : List FnV} {r : RV} {w : World} (h : RdAt w0 B M T (restOf m last cv) r w) (hp : PtsMem base B M m cv codes w) (hb : base ≤ w.heap.size) :
    Calls Tryz.prog 133 #[.pointer (some ⟨B, 0, none⟩)] w (DidPart w0 base B M T last r w (pPart 7 (ptsOf m last codes))) := by
  have c1 := list_Export (lb := #[]) (P := pExp) (ok := okExp w w) enters_export (fun _ _ _ _ _ _ h => export_reads hLaid h) h
  go_enter Tryz.func133, Tryz.ntmps133
  go_wp2_with fail
  refine c1.mono ?_
  rintro e w1 ⟨l, r1, v, rfl, g1, h1, m1, hown, hok, hl⟩
  obtain ⟨vp, vc, rfl⟩ := own_any6 hown
  obtain ⟨u, hu⟩ := restOf_all m last cv h1 8 (by decide)
  have hf := (restOf_cells m last cv h1).2 8
  have h2 := h1.setRest (rest' := restOf (m.with_exports vp vc l) last cv) 4 (.slice vp l.length vc) rfl
  have m2 := m1.set 8 (.slice vp l.length vc)
  have hp2 : PtsMem base B M (m.with_exports vp vc l) cv codes (w1.setCell ⟨B, 8, none⟩ (.slice vp l.length vc)) := ((hp.mov m1).set_exports hb hown hok hl).mov ((Mov.refl B M w1).set 8 _)
  have hgot : Got (pPart 7 (ptsOf m last codes)) r r1 (ptsOf (m.with_exports vp vc l) last codes) := by
    rw [show pPart 7 (ptsOf m last codes) = (pList pExp).and fun l => .val { ptsOf m last codes with exports := l } from by unfold pPart; simp]
    exact g1.map (fun l => ({ ptsOf m last codes with exports := l } : Pts))
  have HG := Lib.hid hgot
  clear c1 h1 m1 hown hgot g1
  go_wp2
  go_end0
  exact ⟨m.with_exports vp vc l, cv, codes, r1, rfl, HG.out, h2, m2, hp2⟩
theorem enters_data : ∀ args w, (callFunc 218 args).run Tryz.prog w = .ok (.enter 218 args) w := enters_of Tryz.func218 (by kernel_rfl) rfl
theorem readData_part {w0 : World} (hLaid : Laid w0) {base B M : Nat} {T : TypeId} {m : MoV} {last : Int} {cv : Value} {codes : List FnV} {r : RV} {w : World} (h : RdAt w0 B M T (restOf m last cv) r w) (hp : PtsMem base B M m cv codes w) (hb : base ≤ w.heap.size) :
    Calls Tryz.prog 136 #[.pointer (some ⟨B, 0, none⟩)] w (DidPart w0 base B M T last r w (pPart 11 (ptsOf m last codes))) := by
  have c1 := list_Data (lb := #[]) (P := pDat) (ok := okDat w w) enters_data (data_reads w0) h
  go_enter Tryz.func136, Tryz.ntmps136
  go_wp2_with fail
  refine c1.mono ?_
  rintro e w1 ⟨l, r1, v, rfl, g1, h1, m1, hown, hok, hl⟩
  obtain ⟨vp, vc, rfl⟩ := own_any6 hown
  obtain ⟨u, hu⟩ := restOf_all m last cv h1 10 (by decide)
  have hf := (restOf_cells m last cv h1).2 10
  have h2 := h1.setRest (rest' := restOf (m.with_data vp vc l) last cv) 6 (.slice vp l.length vc) rfl
  have m2 := m1.set 10 (.slice vp l.length vc)
  have hp2 : PtsMem base B M (m.with_data vp vc l) cv codes (w1.setCell ⟨B, 10, none⟩ (.slice vp l.length vc)) := ((hp.mov m1).set_data hb hown hok hl).mov ((Mov.refl B M w1).set 10 _)
  have hgot : Got (pPart 11 (ptsOf m last codes)) r r1 (ptsOf (m.with_data vp vc l) last codes) := by
    rw [show pPart 11 (ptsOf m last codes) = (pList pDat).and fun l => .val { ptsOf m last codes with data := l } from by unfold pPart; simp]
    exact g1.map (fun l => ({ ptsOf m last codes with data := l } : Pts))
  have HG := Lib.hid hgot
  clear c1 h1 m1 hown hgot g1
  go_wp2
  go_end0
  exact ⟨m.with_data vp vc l, cv, codes, r1, rfl, HG.out, h2, m2, hp2⟩
theorem enters_funcs1 : ∀ args w, (callFunc 209 args).run Tryz.prog w = .ok (.enter 209 args) w := enters_of Tryz.func209 (by kernel_rfl) rfl
theorem enters_code : ∀ args w, (callFunc 216 args).run Tryz.prog w = .ok (.enter 216 args) w := enters_of Tryz.func216 (by kernel_rfl) rfl
theorem funcs1_reads {w0 : World} {B M : Nat} {T : TypeId} {rest : List Value} {r : RV} {w : World} (h : RdAt w0 B M T rest r w) :
    Calls Tryz.prog 209 #[.pointer (some ⟨B, 0, none⟩)] w (DidFn w0 B M T rest r w pFn) := by
  have hlt := h.lt
  have hw0 := h.below.size
  have hr := heap_alloc_new w (.cells #[.int .i64 0, .string ⟨#[]⟩, .slice none 0 0] 70)
  have c1 := number_reads w0 B M T rest r _ (h.alloc (.cells #[.int .i64 0, .string ⟨#[]⟩, .slice none 0 0] 70))
  clear h
  go_enter Tryz.func209, Tryz.ntmps209
  go_wp2_with fail
  refine c1.mono ?_
  rintro e w1 ⟨n, r1, rfl, g1, h1, m1, ok1⟩
  have n1 : w.heap.size ≠ B := by omega
  have n2 : w.heap.size ≠ M := by omega
  have hr1 := (m1.block _ (in_heap6 hr) n1 n2).trans hr
  have d0 : w1.cell? ⟨w.heap.size, 0, none⟩ = some (.int .i64 0) := by simp [World.cell?, hr1]
  have d1 : w1.cell? ⟨w.heap.size, 1, none⟩ = some (.string ⟨#[]⟩) := by simp [World.cell?, hr1]
  have d2 : w1.cell? ⟨w.heap.size, 2, none⟩ = some (.slice none 0 0) := by simp [World.cell?, hr1]
  have e0 : w1.frozen? ⟨w.heap.size, 0, none⟩ = false := by simp [World.frozen?, hr1]
  have e1 : w1.frozen? ⟨w.heap.size, 1, none⟩ = false := by simp [World.frozen?, hr1]
  have e2 : w1.frozen? ⟨w.heap.size, 2, none⟩ = false := by simp [World.frozen?, hr1]
  have hlt1 := in_heap6 hr1
  have hn : inI64 n := i64_word ok1
  have hgot : Got pFn r r1 (FnV.bare ⟨n, ⟨#[]⟩, none, 0, []⟩) := g1.map (fun n => (⟨n, bs [], none, 0, []⟩ : FnV))
  have HG := Lib.hid hgot
  have mm := ((Mov.refl B M w).alloc (.cells #[.int .i64 0, .string ⟨#[]⟩, .slice none 0 0] 70)).trans m1
  clear c1 hr hr1 g1 m1 hgot
  dsimp only [valInt]
  go_wp2
  refine bodyPost_ret (v := FnV.val ⟨n, ⟨#[]⟩, none, 0, []⟩) ?_ rfl ?_
  · rw [results_one_cell rfl]; simp [FnV.val]; go_simp
  · exact ⟨⟨n, ⟨#[]⟩, none, 0, []⟩, r1, rfl, HG.out, ((h1.other 0 _ n1 n2 (by omega)).other 1 _ n1 n2 (by omega)).other 2 _ n1 n2 (by omega), ((mm.setNew 0 _ (by omega)).setNew 1 _ (by omega)).setNew 2 _ (by omega), World.ownsRow_nil _ _ _ _, fun x hx => absurd hx List.not_mem_nil, by simp, by show (0 : Nat) ≤ 16384; decide, hn⟩
theorem readFuncs_part {w0 : World} (hLaid : Laid w0) {base B M : Nat} {T : TypeId} {m : MoV} {last : Int} {cv : Value} {codes : List FnV} {r : RV} {w : World} (h : RdAt w0 B M T (restOf m last cv) r w) (hp : PtsMem base B M m cv codes w) (hb : base ≤ w.heap.size) (hs : r.s.size ≤ 1048576) :
    Calls Tryz.prog 130 #[.pointer (some ⟨B, 0, none⟩)] w (DidPart w0 base B M T last r w (pPart 3 (ptsOf m last codes))) := by
  have c1 := list_fns (lb := #[]) (P := pFn) (N := 1048576) enters_funcs1 (fun _ _ _ _ _ _ h _ => funcs1_reads h) h hs
  go_enter Tryz.func130, Tryz.ntmps130
  go_wp2_with fail
  refine c1.mono ?_
  rintro e w1 ⟨l, r1, v, rfl, g1, h1, m1, hown, hfs, hl⟩
  obtain ⟨vp, vc, rfl⟩ := own_any6 hown
  obtain ⟨u, hu⟩ := restOf_all m last cv h1 5 (by decide)
  have hf := (restOf_cells m last cv h1).2 5
  have h2 := h1.setRest (rest' := restOf (m.with_funcs vp vc l) last cv) 1 (.slice vp l.length vc) rfl
  have m2 := m1.set 5 (.slice vp l.length vc)
  have hp2 : PtsMem base B M (m.with_funcs vp vc l) cv codes (w1.setCell ⟨B, 5, none⟩ (.slice vp l.length vc)) := (PtsMem.set_funcs hp (hp.mov m1) hb hown hfs hl).mov ((Mov.refl B M w1).set 5 _)
  have hgot : Got (pPart 3 (ptsOf m last codes)) r r1 (ptsOf (m.with_funcs vp vc l) last codes) := by
    rw [show pPart 3 (ptsOf m last codes) = (pList pFn).and fun l => .val { ptsOf m last codes with funcs := l } from by unfold pPart; simp]
    exact g1.map (fun l => ({ ptsOf m last codes with funcs := l } : Pts))
  have HG := Lib.hid hgot
  clear c1 h1 m1 hown hgot g1
  go_wp2
  go_end0
  exact ⟨m.with_funcs vp vc l, cv, codes, r1, rfl, HG.out, h2, m2, hp2⟩
theorem readCodes_part {w0 : World} (hLaid : Laid w0) {base B M : Nat} {T : TypeId} {m : MoV} {last : Int} {cv : Value} {codes : List FnV} {r : RV} {w : World} (h : RdAt w0 B M T (restOf m last cv) r w) (hp : PtsMem base B M m cv codes w) (hb : base ≤ w.heap.size) (hs : r.s.size ≤ 1048576) :
    Calls Tryz.prog 135 #[.pointer (some ⟨B, 0, none⟩)] w (DidPart w0 base B M T last r w (pPart 10 (ptsOf m last codes))) := by
  have c1 := list_fns (lb := #[]) (P := pCode) (N := 1048576) enters_code (fun _ _ _ _ _ _ h hs => code_reads hLaid h hs) h hs
  go_enter Tryz.func135, Tryz.ntmps135
  go_wp2_with fail
  refine c1.mono ?_
  rintro e w1 ⟨l, r1, v, rfl, g1, h1, m1, hown, hfs, hl⟩
  obtain ⟨vp, vc, rfl⟩ := own_any6 hown
  obtain ⟨u, hu⟩ := restOf_all m last cv h1 12 (by decide)
  have hf := (restOf_cells m last cv h1).2 12
  have h2 := h1.setRest (rest' := restOf m last (.slice vp l.length vc)) 8 (.slice vp l.length vc) rfl
  have m2 := m1.set 12 (.slice vp l.length vc)
  have hp2 : PtsMem base B M m (.slice vp l.length vc) l (w1.setCell ⟨B, 12, none⟩ (.slice vp l.length vc)) := (PtsMem.set_codes hp (hp.mov m1) hb hown hfs hl).mov ((Mov.refl B M w1).set 12 _)
  have hgot : Got (pPart 10 (ptsOf m last codes)) r r1 (ptsOf m last l) := by
    rw [show pPart 10 (ptsOf m last codes) = (pList pCode).and fun l => .val { ptsOf m last codes with codes := l } from by unfold pPart; simp]
    exact g1.map (fun l => ({ ptsOf m last codes with codes := l } : Pts))
  have HG := Lib.hid hgot
  clear c1 h1 m1 hown hgot g1
  go_wp2
  go_end0
  exact ⟨m, .slice vp l.length vc, l, r1, rfl, HG.out, h2, m2, hp2⟩
theorem readStart_part {w0 : World} {base B M : Nat} {T : TypeId} {m : MoV} {last : Int} {cv : Value} {codes : List FnV} {r : RV} {w : World} (h : RdAt w0 B M T (restOf m last cv) r w) (hp : PtsMem base B M m cv codes w) :
    Calls Tryz.prog 134 #[.pointer (some ⟨B, 0, none⟩)] w (DidPart w0 base B M T last r w (pPart 8 (ptsOf m last codes))) := by
  have c1 := number_reads w0 B M T _ r w h
  go_enter Tryz.func134, Tryz.ntmps134
  go_wp2_with fail
  refine c1.mono ?_
  rintro e w1 ⟨n, r1, rfl, g1, h1, m1, ok1⟩
  obtain ⟨u, hu⟩ := restOf_all m last cv h1 9 (by decide)
  have hf := (restOf_cells m last cv h1).2 9
  have h2 := h1.setRest (rest' := restOf (m.with_start n) last cv) 5 (.int .i64 n) rfl
  have m2 := m1.set 9 (.int .i64 n)
  have hp2 : PtsMem base B M (m.with_start n) cv codes (w1.setCell ⟨B, 9, none⟩ (.int .i64 n)) := ((hp.mov m1).set_start (i64_word ok1)).mov ((Mov.refl B M w1).set 9 _)
  have hgot : Got (pPart 8 (ptsOf m last codes)) r r1 (ptsOf (m.with_start n) last codes) := by
    rw [show pPart 8 (ptsOf m last codes) = pNum.and fun l => .val { ptsOf m last codes with start := l } from by unfold pPart; simp]
    exact g1.map (fun l => ({ ptsOf m last codes with start := l } : Pts))
  have HG := Lib.hid hgot
  clear c1 h1 m1 hgot g1
  dsimp only [valInt]
  go_wp2
  go_end0
  exact ⟨m.with_start n, cv, codes, r1, rfl, HG.out, h2, m2, hp2⟩
theorem got_all {r r1 : RV} {l : List UInt8} (p : Pts) (g : Got pName r r1 l) : Got (pName.and fun _ _ => .ok p []) r ⟨r1.s, r1.s.size, r1.e⟩ p := by
  refine g.and ⟨rfl, ?_⟩
  by_cases he : r1.e = 0
  · exact .inr (.inl ⟨he, he, by unfold RV.rem; simp [List.drop_eq_nil_of_le, ← ByteArray.size_data]⟩)
  · exact .inl ⟨he, rfl⟩
theorem passOver_part {w0 : World} (hLaid : Laid w0) {base B M : Nat} {T : TypeId} {m : MoV} {last : Int} {cv : Value} {codes : List FnV} {r : RV} {w : World} (h : RdAt w0 B M T (restOf m last cv) r w) (hp : PtsMem base B M m cv codes w) :
    Calls Tryz.prog 128 #[.pointer (some ⟨B, 0, none⟩)] w (DidPart w0 base B M T last r w (pPart 0 (ptsOf m last codes))) := by
  have c1 := name_reads hLaid h
  go_enter Tryz.func128, Tryz.ntmps128
  go_wp2_with fail
  refine c1.mono ?_
  rintro e w1 ⟨l, r1, rfl, g1, h1, m1, ok1⟩
  obtain ⟨x0, x1, x2, x3, y0, y1, y2, y3⟩ := h1.reads
  have h2 := h1.set1 r1.s.size (Nat.le_refl _)
  have m2 := m1.set 1 (.int .i64 r1.s.size)
  have hp2 := (hp.mov m1).mov ((Mov.refl B M w1).set 1 (.int .i64 r1.s.size))
  have hgot : Got (pPart 0 (ptsOf m last codes)) r ⟨r1.s, r1.s.size, r1.e⟩ (ptsOf m last codes) := by
    rw [show pPart 0 (ptsOf m last codes) = pName.and fun _ _ => .ok (ptsOf m last codes) [] from by unfold pPart; simp]
    exact got_all _ g1
  have HG := Lib.hid hgot
  clear c1 h1 m1 hgot g1
  dsimp only [valStr]
  go_wp2
  go_end0
  exact ⟨m, cv, codes, _, rfl, HG.out, h2, m2, hp2⟩
end Go.Proofs.YthfipknfdnfalaaGreatDoor
namespace Go.Proofs.YthfipknfdnfalaaGreatDoor
set_option maxRecDepth 100000
set_option maxHeartbeats 16000000
open Go.RowKit Go.Maps
set_option linter.unusedVariables false
def partsD : DataW Unit := ((((((((((.map [] : DataW Unit).put (.int .i64 0) (.lit (.int .i64 128))).put (.int .i64 1) (.lit (.int .i64 129))).put (.int .i64 3) (.lit (.int .i64 130))).put (.int .i64 5) (.lit (.int .i64 131))).put (.int .i64 6) (.lit (.int .i64 132))).put (.int .i64 7) (.lit (.int .i64 133))).put (.int .i64 8) (.lit (.int .i64 134))).put (.int .i64 10) (.lit (.int .i64 135))).put (.int .i64 11) (.lit (.int .i64 136)))
theorem parts_zero (w : World) : (zeroValue 188).run Tryz.prog w = .ok .nilFunc w := by kernel_rfl
def Known (w : World) (b : Nat) : Prop := w.ownsMap Tryz.prog 3 (fnRead (H := Unit)) b 9 partsD
theorem Known.same {w w' : World} {b : Nat} (h : Known w b) (e : w'.heap[b]? = w.heap[b]?) : Known w' b := ownsMap_same h e
theorem sections6 (w : World) : Calls Tryz.prog 50 #[] w fun e w' => e = .returned (.map (some w.heap.size)) ∧ Known w' w.heap.size ∧ Below w.heap.size w w' ∧ w.heap.size < w'.heap.size := by
  have law : Keyed Tryz.prog 3 := int_keyed Tryz.underlying3
  have hwf : ∀ a : Int, -9223372036854775808 ≤ a → a ≤ 9223372036854775807 → (Lit.int .i64 a).wf = true := fun a ha hb => WalkArith.wf_i64 ⟨ha, hb⟩
  have hmm := @run_makeMap Tryz.prog
  have o0 := World.ownsMap_made w Tryz.prog 3 (fnRead (H := Unit))
  obtain ⟨w1, u1, o1, g1⟩ := o0.update law Tryz.underlying115 (by unfold maxLen; omega) (keyOf_int_mk Tryz.underlying3 (hwf 0 (by decide) (by decide))) (fnRead_mk 128)
  obtain ⟨w2, u2, o2, g2⟩ := o1.update law Tryz.underlying115 (by unfold maxLen; omega) (keyOf_int_mk Tryz.underlying3 (hwf 1 (by decide) (by decide))) (fnRead_mk 129)
  obtain ⟨w3, u3, o3, g3⟩ := o2.update law Tryz.underlying115 (by unfold maxLen; omega) (keyOf_int_mk Tryz.underlying3 (hwf 3 (by decide) (by decide))) (fnRead_mk 130)
  obtain ⟨w4, u4, o4, g4⟩ := o3.update law Tryz.underlying115 (by unfold maxLen; omega) (keyOf_int_mk Tryz.underlying3 (hwf 5 (by decide) (by decide))) (fnRead_mk 131)
  obtain ⟨w5, u5, o5, g5⟩ := o4.update law Tryz.underlying115 (by unfold maxLen; omega) (keyOf_int_mk Tryz.underlying3 (hwf 6 (by decide) (by decide))) (fnRead_mk 132)
  obtain ⟨w6, u6, o6, g6⟩ := o5.update law Tryz.underlying115 (by unfold maxLen; omega) (keyOf_int_mk Tryz.underlying3 (hwf 7 (by decide) (by decide))) (fnRead_mk 133)
  obtain ⟨w7, u7, o7, g7⟩ := o6.update law Tryz.underlying115 (by unfold maxLen; omega) (keyOf_int_mk Tryz.underlying3 (hwf 8 (by decide) (by decide))) (fnRead_mk 134)
  obtain ⟨w8, u8, o8, g8⟩ := o7.update law Tryz.underlying115 (by unfold maxLen; omega) (keyOf_int_mk Tryz.underlying3 (hwf 10 (by decide) (by decide))) (fnRead_mk 135)
  obtain ⟨w9, u9, o9, g9⟩ := o8.update law Tryz.underlying115 (by unfold maxLen; omega) (keyOf_int_mk Tryz.underlying3 (hwf 11 (by decide) (by decide))) (fnRead_mk 136)
  have hb : Below w.heap.size w w9 ∧ w.heap.size + 1 ≤ w9.heap.size := by
    have b0 := (Below.refl w.heap.size w).alloc (Nat.le_refl _) (.map #[] 0)
    have z0 : w.heap.size + 1 ≤ (w.alloc (.map #[] 0)).heap.size := by simp
    have b1 := b0.grown g1 (Nat.le_trans (Nat.le_succ _) z0) (fun k hk => by cases hk; exact Nat.le_refl _)
    have z1 : w.heap.size + 1 ≤ w1.heap.size := Nat.le_trans z0 g1.size
    have b2 := b1.grown g2 (Nat.le_trans (Nat.le_succ _) z1) (fun k hk => by cases hk; exact Nat.le_refl _)
    have z2 : w.heap.size + 1 ≤ w2.heap.size := Nat.le_trans z1 g2.size
    have b3 := b2.grown g3 (Nat.le_trans (Nat.le_succ _) z2) (fun k hk => by cases hk; exact Nat.le_refl _)
    have z3 : w.heap.size + 1 ≤ w3.heap.size := Nat.le_trans z2 g3.size
    have b4 := b3.grown g4 (Nat.le_trans (Nat.le_succ _) z3) (fun k hk => by cases hk; exact Nat.le_refl _)
    have z4 : w.heap.size + 1 ≤ w4.heap.size := Nat.le_trans z3 g4.size
    have b5 := b4.grown g5 (Nat.le_trans (Nat.le_succ _) z4) (fun k hk => by cases hk; exact Nat.le_refl _)
    have z5 : w.heap.size + 1 ≤ w5.heap.size := Nat.le_trans z4 g5.size
    have b6 := b5.grown g6 (Nat.le_trans (Nat.le_succ _) z5) (fun k hk => by cases hk; exact Nat.le_refl _)
    have z6 : w.heap.size + 1 ≤ w6.heap.size := Nat.le_trans z5 g6.size
    have b7 := b6.grown g7 (Nat.le_trans (Nat.le_succ _) z6) (fun k hk => by cases hk; exact Nat.le_refl _)
    have z7 : w.heap.size + 1 ≤ w7.heap.size := Nat.le_trans z6 g7.size
    have b8 := b7.grown g8 (Nat.le_trans (Nat.le_succ _) z7) (fun k hk => by cases hk; exact Nat.le_refl _)
    have z8 : w.heap.size + 1 ≤ w8.heap.size := Nat.le_trans z7 g8.size
    have b9 := b8.grown g9 (Nat.le_trans (Nat.le_succ _) z8) (fun k hk => by cases hk; exact Nat.le_refl _)
    have z9 : w.heap.size + 1 ≤ w9.heap.size := Nat.le_trans z8 g9.size
    exact ⟨b9, z9⟩
  obtain ⟨hb, hz⟩ := hb
  have hK : Known w9 w.heap.size := o9
  clear o1 g1 o2 g2 o3 g3 o4 g4 o5 g5 o6 g6 o7 g7 o8 g8 o9 g9 o0
  go_enter Tryz.func50, Tryz.ntmps50
  go_wp2
  go_ret
  exact ⟨rfl, hK, hb, hz⟩
def secFn (n : Int) : Value × Bool :=
  if n = 0 then (.func (.func 128) #[] #[], true) else if n = 1 then (.func (.func 129) #[] #[], true) else if n = 3 then (.func (.func 130) #[] #[], true) else if n = 5 then (.func (.func 131) #[] #[], true) else if n = 6 then (.func (.func 132) #[] #[], true) else if n = 7 then (.func (.func 133) #[] #[], true) else if n = 8 then (.func (.func 134) #[] #[], true) else if n = 10 then (.func (.func 135) #[] #[], true) else if n = 11 then (.func (.func 136) #[] #[], true) else (.nilFunc, false)
theorem known_look {w : World} {b : Nat} (h : Known w b) (n : Int) (hn : 0 ≤ n ∧ n < 256) : (Instr.lookup 115 (.map (some b)) (.int .i64 n) true).run Tryz.prog w = .ok (.tuple #[(secFn n).1, .bool (secFn n).2]) w := by
  have law : Keyed Tryz.prog 3 := int_keyed Tryz.underlying3
  obtain ⟨v, ps, hl, hv⟩ := World.ownsMap.look_ok h law Tryz.underlying115 (parts_zero _) fnRead_nil (keyOf_int_mk Tryz.underlying3 (WalkArith.wf_i64 (show -9223372036854775808 ≤ n ∧ n ≤ 9223372036854775807 by omega)))
  rw [hl]
  by_cases h0 : n = 0
  · subst h0
    obtain rfl := fnRead_fn (n := 128) (ps := ps) hv
    rfl
  by_cases h1 : n = 1
  · subst h1
    obtain rfl := fnRead_fn (n := 129) (ps := ps) hv
    rfl
  by_cases h3 : n = 3
  · subst h3
    obtain rfl := fnRead_fn (n := 130) (ps := ps) hv
    rfl
  by_cases h5 : n = 5
  · subst h5
    obtain rfl := fnRead_fn (n := 131) (ps := ps) hv
    rfl
  by_cases h6 : n = 6
  · subst h6
    obtain rfl := fnRead_fn (n := 132) (ps := ps) hv
    rfl
  by_cases h7 : n = 7
  · subst h7
    obtain rfl := fnRead_fn (n := 133) (ps := ps) hv
    rfl
  by_cases h8 : n = 8
  · subst h8
    obtain rfl := fnRead_fn (n := 134) (ps := ps) hv
    rfl
  by_cases h10 : n = 10
  · subst h10
    obtain rfl := fnRead_fn (n := 135) (ps := ps) hv
    rfl
  by_cases h11 : n = 11
  · subst h11
    obtain rfl := fnRead_fn (n := 136) (ps := ps) hv
    rfl
  have ne : ∀ {c : Int}, ¬ n = c → Lit.int .i64 n ≠ Lit.int .i64 c := fun h e => h (by injection e)
  have e1 : Maps.has partsD (.int .i64 n) = false := by
    unfold partsD
    rw [has_put_other (ne h11), has_put_other (ne h10), has_put_other (ne h8), has_put_other (ne h7), has_put_other (ne h6), has_put_other (ne h5), has_put_other (ne h3), has_put_other (ne h1), has_put_other (ne h0)]
    rfl
  have e2 : partsD.atKey (.int .i64 n) .nil = .nil := by
    unfold partsD
    rw [atKey_put_other (ne h11), atKey_put_other (ne h10), atKey_put_other (ne h8), atKey_put_other (ne h7), atKey_put_other (ne h6), atKey_put_other (ne h5), atKey_put_other (ne h3), atKey_put_other (ne h1), atKey_put_other (ne h0)]
    rfl
  rw [e2] at hv
  obtain rfl := fnRead_none hv
  rw [e1]
  have e3 : secFn n = (.nilFunc, false) := by
    unfold secFn
    rw [if_neg h0, if_neg h1, if_neg h3, if_neg h5, if_neg h6, if_neg h7, if_neg h8, if_neg h10, if_neg h11]
  rw [e3]
end Go.Proofs.YthfipknfdnfalaaGreatDoor
