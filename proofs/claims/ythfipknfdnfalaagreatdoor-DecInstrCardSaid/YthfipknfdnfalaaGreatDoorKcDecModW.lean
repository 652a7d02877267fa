/-
  Package dec's Module, walked. Contracts that the proofs call; no statement is proved here.
-/
import Derived.Test.YthfipknfdnfalaaGreatDoorKcDecSect
namespace Go.Proofs.YthfipknfdnfalaaGreatDoor
set_option maxRecDepth 100000
set_option maxHeartbeats 16000000
open Go.RowKit
set_option linter.unusedVariables false
def zeroBox : Array Value := #[.slice none 0 0, .slice none 0 0, .slice none 0 0, .slice none 0 0, .slice none 0 0, .int .i64 0, .slice none 0 0]
theorem results_cell_tmp6 {fn : Func} {p u : Tmp} {ty : TypeId} (h : fn.results = #[.cell p ty, .tmp u]) (tmps : Array Value) (P : Program) (w : World) :
    (results fn tmps).run P w =
      ((asAddr (tmps.getD p undef)).run P w).andThen fun a w₁ => ((loadVar ty a).run P w₁).andThen fun x w₂ => .ok (.tuple #[x, tmps.getD u undef]) w₂ := by
  simp only [results, h]
  simp [Sem.run_bind, Result.andThen]
theorem zero_at (w : World) : ModAt w zeroM :=
  { types := RowsAt.nil, typesIn := fun _ h => absurd h List.not_mem_nil, typesMost := Nat.zero_le _
    funcs := RowsAt.nil, funcsIn := fun _ h => absurd h List.not_mem_nil, funcsMost := Nat.zero_le _
    memory := RowsAt.nil, memoryIn := fun _ h => absurd h List.not_mem_nil, memoryMost := Nat.zero_le _
    globals := RowsAt.nil, globalsIn := fun _ h => absurd h List.not_mem_nil, globalsMost := Nat.zero_le _
    exports := RowsAt.nil, exportsIn := fun _ h => absurd h List.not_mem_nil, exportsMost := Nat.zero_le _
    startIn := ⟨by decide, by decide⟩
    data := RowsAt.nil, dataIn := fun _ h => absurd h List.not_mem_nil, dataMost := Nat.zero_le _ }
theorem box76 {W : World} {b : Nat} {u0 u1 u2 u3 u4 u5 u6 : Value} {t : TypeId} (h : W.heap[b]? = some (.cells #[u0, u1, u2, u3, u4, u5, u6] t)) :
    (W.cell? ⟨b, 0, none⟩ = some u0 ∧ W.cell? ⟨b, 1, none⟩ = some u1 ∧ W.cell? ⟨b, 2, none⟩ = some u2 ∧ W.cell? ⟨b, 3, none⟩ = some u3 ∧ W.cell? ⟨b, 4, none⟩ = some u4 ∧ W.cell? ⟨b, 5, none⟩ = some u5 ∧ W.cell? ⟨b, 6, none⟩ = some u6) ∧
    (W.frozen? ⟨b, 0, none⟩ = false ∧ W.frozen? ⟨b, 1, none⟩ = false ∧ W.frozen? ⟨b, 2, none⟩ = false ∧ W.frozen? ⟨b, 3, none⟩ = false ∧ W.frozen? ⟨b, 4, none⟩ = false ∧ W.frozen? ⟨b, 5, none⟩ = false ∧ W.frozen? ⟨b, 6, none⟩ = false) ∧ b < W.heap.size := by
  have c : ∀ j, W.cell? ⟨b, j, none⟩ = (#[u0, u1, u2, u3, u4, u5, u6] : Array Value)[j]? := fun j => by rw [World.cell?, h]; simp
  have f : ∀ j, W.frozen? ⟨b, j, none⟩ = false := fun j => by simp [World.frozen?, h]
  exact ⟨⟨c 0, c 1, c 2, c 3, c 4, c 5, c 6⟩, ⟨f 0, f 1, f 2, f 3, f 4, f 5, f 6⟩, in_heap6 h⟩
def set7 (W : World) (b : Nat) (u0 u1 u2 u3 u4 u5 u6 : Value) : World := ((((((W.setCell ⟨b, 0, none⟩ u0).setCell ⟨b, 1, none⟩ u1).setCell ⟨b, 2, none⟩ u2).setCell ⟨b, 3, none⟩ u3).setCell ⟨b, 4, none⟩ u4).setCell ⟨b, 5, none⟩ u5).setCell ⟨b, 6, none⟩ u6
theorem set7_below {w W : World} (h : Below w.heap.size w W) {b : Nat} (hb : w.heap.size ≤ b) (u0 u1 u2 u3 u4 u5 u6 : Value) : Below w.heap.size w (set7 W b u0 u1 u2 u3 u4 u5 u6) :=
  ((((((h.setCell hb _).setCell hb _).setCell hb _).setCell hb _).setCell hb _).setCell hb _).setCell hb _
theorem set7_other (W : World) (b : Nat) (u0 u1 u2 u3 u4 u5 u6 : Value) {k : Nat} (hk : k ≠ b) : (set7 W b u0 u1 u2 u3 u4 u5 u6).heap[k]? = W.heap[k]? := by
  unfold set7
  rw [Below.heap_setCell _ _ _ _ hk, Below.heap_setCell _ _ _ _ hk, Below.heap_setCell _ _ _ _ hk, Below.heap_setCell _ _ _ _ hk, Below.heap_setCell _ _ _ _ hk, Below.heap_setCell _ _ _ _ hk, Below.heap_setCell _ _ _ _ hk]
theorem mod_long (s : ByteArray) (w : World) (hs : 1048576 < s.size) : Calls Tryz.prog 19 #[.string s] w (AnsMod s w) := by
  have hans : modAns s.data.toList = (zeroM, 5) := by
    unfold modAns mod6
    rw [if_pos (by rw [Array.length_toList]; exact hs)]
  have hq : (1048576 : Int) < (s.size : Int) := by omega
  have hB := (Below.refl w.heap.size w).alloc (Nat.le_refl _) (.cells zeroBox 35)
  have HH := Lib.hid hans
  clear hans
  go_enter Tryz.func19, Tryz.ntmps19
  go_wp2
  refine bodyPost_ret (v := .tuple #[zeroM.val, .int .i64 5]) ?_ rfl ?_
  · rw [results_cell_tmp6 rfl]; simp [zeroM, MoV.val]; go_simp
  · refine ⟨zeroM, by rw [HH.out], by rw [HH.out]; rfl, zero_at _, ?_⟩
    first
      | exact hB
      | exact ((((((hB.setCell (Nat.le_refl _) _).setCell (Nat.le_refl _) _).setCell (Nat.le_refl _) _).setCell (Nat.le_refl _) _).setCell (Nat.le_refl _) _).setCell (Nat.le_refl _) _).setCell (Nat.le_refl _) _
theorem mod_head (s : ByteArray) (w : World) (hs : s.size ≤ 1048576) (hh : ¬ s.data.toList.take 8 = head6) : Calls Tryz.prog 19 #[.string s] w (AnsMod s w) := by
  have hans : modAns s.data.toList = (zeroM, 2) := by
    unfold modAns mod6
    rw [if_neg (by rw [Array.length_toList]; exact Nat.not_lt.2 hs), if_pos hh]
  have hq : ¬ (1048576 : Int) < (s.size : Int) := by omega
  have hB := (Below.refl w.heap.size w).alloc (Nat.le_refl _) (.cells zeroBox 35)
  have hn := heap_alloc_new w (.cells zeroBox 35)
  have c1 := prefix_of s (w.alloc (.cells zeroBox 35))
  rw [decide_eq_false hh] at c1
  have HH := Lib.hid hans
  unfold zeroBox headS at c1
  clear hans hh
  go_enter Tryz.func19, Tryz.ntmps19
  go_wp2_with fail
  refine c1.mono ?_
  rintro e w1 ⟨rfl, hb1⟩
  have hs1 := hb1.size
  have hbx := (hb1.block w.heap.size (by simp)).trans hn
  unfold zeroBox at hbx
  obtain ⟨⟨x0, x1, x2, x3, x4, x5, x6⟩, ⟨y0, y1, y2, y3, y4, y5, y6⟩, hlt⟩ := box76 hbx
  have hBel := set7_below (hB.trans (hb1.mono hB.size)) (Nat.le_refl _) (.slice none 0 0) (.slice none 0 0) (.slice none 0 0) (.slice none 0 0) (.slice none 0 0) (.int .i64 0) (.slice none 0 0)
  have HB := Lib.hid hBel
  clear c1 hB hn hb1 hs1 hbx hBel
  go_wp2
  refine bodyPost_ret (v := .tuple #[zeroM.val, .int .i64 2]) ?_ rfl ?_
  · rw [results_cell_tmp6 rfl]; simp [zeroM, MoV.val]; go_simp
  · exact ⟨zeroM, by rw [HH.out], by rw [HH.out]; rfl, zero_at _, HB.out⟩
def m06 : MoV := ⟨none, 0, [], none, 0, [], none, 0, [], none, 0, [], none, 0, [], -1, none, 0, []⟩
theorem PtsMem.start {base B M : Nat} (hB : B < base) (hM : M < base) (W : World) : PtsMem base B M m06 (.slice none 0 0) [] W :=
  { hB := hB, hM := hM
    types := World.ownsRow_nil _ _ _ _, typesIn := fun _ h => absurd h List.not_mem_nil, typesFew := Nat.zero_le _
    memory := World.ownsRow_nil _ _ _ _, memoryIn := fun _ h => absurd h List.not_mem_nil, memoryFew := Nat.zero_le _
    globals := World.ownsRow_nil _ _ _ _, globalsIn := fun _ h => absurd h List.not_mem_nil, globalsFew := Nat.zero_le _
    exports := World.ownsRow_nil _ _ _ _, exportsIn := fun _ h => absurd h List.not_mem_nil, exportsFew := Nat.zero_le _
    data := World.ownsRow_nil _ _ _ _, dataIn := fun _ h => absurd h List.not_mem_nil, dataFew := Nat.zero_le _
    funcs := World.ownsRow_nil _ _ _ _, funcsIn := fun _ h => absurd h List.not_mem_nil, funcsFew := Nat.zero_le _
    startIn := ⟨by decide, by decide⟩
    rows := World.ownsRow_nil _ _ _ _, codesIn := fun _ h => absurd h List.not_mem_nil, codesFew := Nat.zero_le _
    far := fun g hg => by cases hg }
theorem PtsMem.keep {base B M : Nat} {m : MoV} {cv : Value} {codes : List FnV} {W W1 : World} (h : PtsMem base B M m cv codes W) (hk : ∀ k, base ≤ k → k < W.heap.size → W1.heap[k]? = W.heap[k]?) : PtsMem base B M m cv codes W1 :=
  { hB := h.hB
    hM := h.hM
    types := own_same h.types fun g hg => hk g (own_lt6 h.types g hg).1 (own_lt6 h.types g hg).2
    typesIn := h.typesIn
    typesFew := h.typesFew
    memory := own_same h.memory fun g hg => hk g (own_lt6 h.memory g hg).1 (own_lt6 h.memory g hg).2
    memoryIn := h.memoryIn
    memoryFew := h.memoryFew
    globals := own_same h.globals fun g hg => hk g (own_lt6 h.globals g hg).1 (own_lt6 h.globals g hg).2
    globalsIn := h.globalsIn
    globalsFew := h.globalsFew
    exports := own_same h.exports fun g hg => hk g (own_lt6 h.exports g hg).1 (own_lt6 h.exports g hg).2
    exportsIn := h.exportsIn
    exportsFew := h.exportsFew
    data := own_same h.data fun g hg => hk g (own_lt6 h.data g hg).1 (own_lt6 h.data g hg).2
    dataIn := h.dataIn
    dataFew := h.dataFew
    funcs := own_same h.funcs fun g hg => hk g (own_lt6 h.funcs g hg).1 (own_lt6 h.funcs g hg).2
    funcsIn := fun f hf => (h.funcsIn f hf).keep hk
    funcsFew := h.funcsFew
    startIn := h.startIn
    rows := own_same h.rows fun g hg => hk g (own_lt6 h.rows g hg).1 (own_lt6 h.rows g hg).2
    codesIn := fun f hf => (h.codesIn f hf).keep hk
    codesFew := h.codesFew
    far := h.far }
def EndsAt (s : ByteArray) (w : World) (B M : Nat) (T : TypeId) (last : Int) (cv : Value) (codes : List FnV) (e : Ending) (w6 : World) : Prop :=
  e = .returned (.tuple #[]) ∧ ∃ (mJ : MoV) (rJ : RV), RdAt w B M T (restOf mJ last cv) rJ w6 ∧ PtsMem (B + 1) B M mJ cv codes w6 ∧ w6.heap[w.heap.size]? = some (.cells #[.slice none 0 0, .slice none 0 0, .slice none 0 0, .slice none 0 0, .slice none 0 0, .int .i64 0, .slice none 0 0] 35) ∧
    (rJ.e ≠ 0 → modAns s.data.toList = (zeroM, rJ.e)) ∧ (rJ.e = 0 → modAns s.data.toList = (mJ.bare, 0))
theorem join_ends {s : ByteArray} {w : World} {B M : Nat} {T : TypeId} {m : MoV} {last : Int} {cv : Value} {codes : List FnV} {rk : RV} {wr : World} (h1 : s.size ≤ 1048576) (h2 : s.data.toList.take 8 = head6) (hr : RdAt w B M T (restOf m last cv) rk wr) (hp : PtsMem (B + 1) B M m cv codes wr) (hwb : B + 1 ≤ wr.heap.size) (hBw : w.heap.size + 1 ≤ B) (hMw : w.heap.size + 1 ≤ M)
    (hn : wr.heap[w.heap.size]? = some (.cells #[.slice none 0 0, .slice none 0 0, .slice none 0 0, .slice none 0 0, .slice none 0 0, .int .i64 0, .slice none 0 0] 35)) (g : Got (sects pts0) ⟨s, 8, 0⟩ rk (ptsOf m last codes)) :
    Calls Tryz.prog 52 #[.pointer (some ⟨B, 0, none⟩)] wr (EndsAt s w B M T last cv codes) := by
  obtain ⟨a1, a2, a3⟩ := ans_read h1 h2 g
  by_cases hlen : codes.length = m.funcs.length
  · refine (join_all hr hp hwb (by omega) m.funcs.length rfl hlen).mono ?_
    rintro e w6 ⟨rfl, hk, hs, h6, p6⟩
    exact ⟨rfl, _, rk, h6, p6, (hk _ (by omega) (by omega) (by omega)).trans hn, a1, fun he => a3 he hlen⟩
  · refine (join_not hr hp hwb hlen).mono ?_
    rintro e w6 ⟨rfl, hk, hs, h6, p6⟩
    refine ⟨rfl, m, rk.bad 2, h6, p6, (hk _ (by omega) (by omega) (by omega)).trans hn, fun _ => ?_, fun he => absurd he (bad_e (by decide))⟩
    unfold RV.bad
    by_cases he : rk.e = 0
    · simp only [he, if_true]; exact a2 he hlen
    · simp only [he, if_false]; exact a1 he
theorem restOf_mod (m : MoV) (last : Int) (cv : Value) {w0 : World} {B M : Nat} {T : TypeId} {r : RV} {w : World} (h : RdAt w0 B M T (restOf m last cv) r w) :
    w.cell? ⟨B, 4, none⟩ = some (.slice m.tp m.types.length m.tc) ∧ w.cell? ⟨B, 5, none⟩ = some (.slice m.fp m.funcs.length m.fc) ∧ w.cell? ⟨B, 6, none⟩ = some (.slice m.mp m.memory.length m.mc) ∧ w.cell? ⟨B, 7, none⟩ = some (.slice m.gp m.globals.length m.gc) ∧ w.cell? ⟨B, 8, none⟩ = some (.slice m.ep m.exports.length m.ec) ∧ w.cell? ⟨B, 9, none⟩ = some (.int .i64 m.start) ∧ w.cell? ⟨B, 10, none⟩ = some (.slice m.dp m.data.length m.dc) := by
  have c : ∀ j, w.cell? ⟨B, j, none⟩ = (r.cells M ++ restOf m last cv)[j]? := fun j => by rw [World.cell?, h.box]; simp
  exact ⟨c 4, c 5, c 6, c 7, c 8, c 9, c 10⟩
theorem mod_reads (s : ByteArray) (w : World) (hLaid : Laid w) (hs : s.size ≤ 1048576) (hh : s.data.toList.take 8 = head6) : Calls Tryz.prog 19 #[.string s] w (AnsMod s w) := by
  have hq : ¬ (1048576 : Int) < (s.size : Int) := by omega
  have h8 : 8 ≤ s.size := by
    have h1 : (s.data.toList.take 8).length = 8 := by rw [hh]; rfl
    rw [List.length_take, Array.length_toList] at h1
    have e1 : s.size = s.data.size := rfl
    omega
  have hB0 := (Below.refl w.heap.size w).alloc (Nat.le_refl _) (.cells zeroBox 35)
  have hn0 := heap_alloc_new w (.cells zeroBox 35)
  have hz0 : (w.alloc (.cells zeroBox 35)).heap.size = w.heap.size + 1 := by simp
  have c1 := prefix_of s (w.alloc (.cells zeroBox 35))
  rw [decide_eq_true hh] at c1
  have HH := Lib.hid hh
  unfold headS at c1
  unfold zeroBox at c1 hB0 hn0 hz0
  clear hh
  go_enter Tryz.func19, Tryz.ntmps19
  go_wp2_with fail
  refine c1.mono ?_
  rintro e w1 ⟨rfl, hb1⟩
  have hB1 := hB0.trans (hb1.mono hB0.size)
  have hn1 := (hb1.block w.heap.size (by rw [hz0]; omega)).trans hn0
  have hs1 : w.heap.size + 1 ≤ w1.heap.size := by have := hb1.size; omega
  have c2 := new_reader s 8 w1
  clear c1 hb1 hB0 hn0 hz0
  go_wp2_with fail
  refine c2.mono ?_
  rintro e w2 ⟨M, rfl, hM, hD, hb2⟩
  have hB2 := hB1.trans (hb2.mono hB1.size)
  have hn2 := (hb2.block w.heap.size (by omega)).trans hn1
  have hMl : M < w2.heap.size := ownsMap_in hD.own
  have hs2 : w1.heap.size ≤ w2.heap.size := hb2.size
  obtain ⟨w3, hw3⟩ : ∃ w3, w3 = w2.alloc (.cells ((⟨s, 8, 0⟩ : RV).cells M ++ restOf m06 0 (.slice none 0 0)).toArray 114) := ⟨_, rfl⟩
  have hz3 : w3.heap.size = w2.heap.size + 1 := by rw [hw3]; simp
  have hbx3 : w3.heap[w2.heap.size]? = some (.cells ((⟨s, 8, 0⟩ : RV).cells M ++ restOf m06 0 (.slice none 0 0)).toArray 114) := by rw [hw3]; exact heap_alloc_new w2 _
  have hr3 : RdAt w w2.heap.size M 114 (restOf m06 0 (.slice none 0 0)) ⟨s, 8, 0⟩ w3 :=
    ⟨by rw [hw3]; exact hB2.alloc hB2.size _, hbx3, ⟨_, hD.same (by rw [hw3]; exact Below.heap_alloc _ _ _ hMl)⟩, by omega, hB2.size, by omega, by show s.size ≤ _; omega, h8⟩
  have hn3 : w3.heap[w.heap.size]? = _ := (by rw [hw3]; exact Below.heap_alloc w2 _ _ (by omega) : w3.heap[w.heap.size]? = w2.heap[w.heap.size]?).trans hn2
  have c3 := sections6 w3
  have HW3 := Lib.hid hw3
  have HZ3 := Lib.hid hz3
  clear c2 hb2 hB1 hn1 hn2 hD hbx3 hw3 hz3
  go_wp2_with fail
  change Calls _ _ _ (w2.alloc (.cells ((⟨s, 8, 0⟩ : RV).cells M ++ restOf m06 0 (.slice none 0 0)).toArray 114)) _
  rw [← HW3.out]
  refine c3.mono ?_
  rintro e w4 ⟨rfl, hK, hb4, hlt4⟩
  have hr4 := hr3.at' hb4
  have hz3 := HZ3.out
  have hn4 := (hb4.block w.heap.size (by omega)).trans hn3
  obtain ⟨B, hBd⟩ : ∃ B, w2.heap.size = B := ⟨_, rfl⟩
  obtain ⟨b, hbd⟩ : ∃ b, w3.heap.size = b := ⟨_, rfl⟩
  rw [hBd] at hMl hs2 hz3 hr4
  rw [hbd] at hK hlt4 hz3
  have hp4 : PtsMem (B + 1) B M m06 (.slice none 0 0) [] w4 := PtsMem.start (by omega) (by omega) w4
  have hG := Lib.hid (GoingS.start ⟨s, 8, 0⟩)
  have hBw : w.heap.size + 1 ≤ B := by omega
  have hMw : w.heap.size + 1 ≤ M := by omega
  have hbB : B < b := by omega
  have hwb : B + 1 ≤ w4.heap.size := by omega
  rw [hBd, hbd]
  obtain ⟨n0, hn0⟩ : ∃ n0, n0 = s.size + 1 := ⟨_, rfl⟩
  clear c3 hr3 hb4 hn3 hB2 HW3 HZ3 hbd hBd hs1 hM hs2 hlt4 hz3
  go_wp2
  go_loopg [] n0 (fun gg wr => ∃ (rk : RV) (m : MoV) (last : Int) (cv : Value) (codes : List FnV), RdAt w B M 114 (restOf m last cv) rk wr ∧ PtsMem (B + 1) B M m cv codes wr ∧ 0 ≤ last ∧ last ≤ 11 ∧ Hid (GoingS ⟨s, 8, 0⟩ rk (ptsOf m last codes)) ∧ rk.s = s ∧ (rk.e = 0 → s.size + 1 ≤ gg + rk.pos) ∧ Known wr b ∧ wr.heap[w.heap.size]? = some (.cells #[.slice none 0 0, .slice none 0 0, .slice none 0 0, .slice none 0 0, .slice none 0 0, .int .i64 0, .slice none 0 0] 35) ∧ B + 1 ≤ wr.heap.size)
  case atStart => exact ⟨⟨s, 8, 0⟩, m06, 0, _, [], hr4, hp4, by decide, by decide, hG, rfl, fun _ => by omega, hK, hn4, hwb⟩
  case round =>
    clear hr4 hp4 hG hK hn4 hwb hn0
    obtain ⟨rk, m, last, cv, codes, hr, hp, l0, l1, hG, hrs, hgk, hK, hn, hwb⟩ := hrel
    obtain ⟨x0, x1, x2, x3, y0, y1, y2, y3⟩ := hr.reads
    have hsz : rk.s.size = s.size := by rw [hrs]
    by_cases he : rk.e = 0
    · by_cases hpos : rk.pos < rk.s.size
      · have cs := sect_reads hLaid hr hp hwb (by omega) hK (by omega) (by omega) ⟨l0, l1⟩
        have hlt : (rk.pos : Int) < (rk.s.size : Int) := by omega
        have hgk2 := hgk he
        rw [he] at x2
        have HE := Lib.hid he
        have HP := Lib.hid hpos
        have hbl : b < wr.heap.size := ownsMap_in hK
        clear hgk he hpos
        go_wp2_with fail
        refine cs.mono ?_
        rintro e w5 ⟨m', last', cv', codes', r', rfl, g5, h5, m5, hp5, l0', l1'⟩
        have hK5 := hK.same (m5.block b hbl (by omega) (by omega))
        have hn5 := (m5.block w.heap.size (in_heap6 hn) (by omega) (by omega)).trans hn
        have hG5 := Lib.hid (hG.out.step HE.out HP.out g5)
        have hrs5 : r'.s = s := g5.1.trans hrs
        have hwb5 : B + 1 ≤ w5.heap.size := Nat.le_trans hwb m5.size
        have HG5 := Lib.hid g5
        have HS5 := Lib.hid hrs5
        have HN5 := Lib.hid hn5
        clear cs hr hp hG hK hn g5 m5 x0 x1 x2 x3 y0 y1 y2 y3 hrs5 hn5
        go_wp2
        go_roundg (gk - 1)
        case rel => exact ⟨r', m', last', cv', codes', h5, hp5, l0', l1', hG5, HS5.out, fun h0 => by have := HG5.out.sectEats HE.out h0; omega, hK5, HN5.out, hwb5⟩
        case measure => have := HP.out; omega
      · have hdone := hG.out.done (.inl (Nat.le_of_not_lt hpos))
        rw [he] at x2
        have hlt : ¬ (rk.pos : Int) < (rk.s.size : Int) := by omega
        clear hpos hgk he
        have cj := join_ends hs HH.out hr hp hwb hBw hMw hn hdone
        clear hdone hr hp hn hG hK
        go_wp2_with fail
        refine cj.mono ?_
        rintro e w6 ⟨rfl, mJ, rJ, h6, p6, hn6, a1, a2⟩
        obtain ⟨z0, z1, z2, z3, f0, f1, f2, f3⟩ := h6.reads
        obtain ⟨q4, q5, q6, q7, q8, q9, q10⟩ := restOf_mod _ _ _ h6
        obtain ⟨⟨b0, b1, b2, b3, b4, b5, b6⟩, ⟨v0, v1, v2, v3, v4, v5, v6⟩, hlt6⟩ := box76 hn6
        have hbel := h6.below
        clear cj x0 x1 x2 x3 y0 y1 y2 y3 hn6 h6
        by_cases heJ : rJ.e = 0
        · have hans := Lib.hid (a2 heJ)
          rw [heJ] at z2
          have hpz := p6.keep (W1 := set7 w6 w.heap.size (.slice mJ.tp mJ.types.length mJ.tc) (.slice mJ.fp mJ.funcs.length mJ.fc) (.slice mJ.mp mJ.memory.length mJ.mc) (.slice mJ.gp mJ.globals.length mJ.gc) (.slice mJ.ep mJ.exports.length mJ.ec) (.int .i64 mJ.start) (.slice mJ.dp mJ.data.length mJ.dc)) (fun k hk _ => set7_other _ _ _ _ _ _ _ _ _ (by omega))
          have HMA := Lib.hid hpz.modAt
          have HBL := Lib.hid (set7_below hbel (Nat.le_refl _) (.slice mJ.tp mJ.types.length mJ.tc) (.slice mJ.fp mJ.funcs.length mJ.fc) (.slice mJ.mp mJ.memory.length mJ.mc) (.slice mJ.gp mJ.globals.length mJ.gc) (.slice mJ.ep mJ.exports.length mJ.ec) (.int .i64 mJ.start) (.slice mJ.dp mJ.data.length mJ.dc))
          clear a1 a2 p6 heJ hbel hpz
          go_wp2
          refine bodyPost_ret (v := .tuple #[mJ.val, .int .i64 0]) ?_ rfl ?_
          · rw [results_cell_tmp6 rfl]; simp [MoV.val]; go_simp
          · exact ⟨mJ, by rw [hans.out], by rw [hans.out], HMA.out, HBL.out⟩
        · have hans := Lib.hid (a1 heJ)
          have hqJ : (rJ.e != 0) = true := by simpa using heJ
          have HBL := Lib.hid (set7_below hbel (Nat.le_refl _) (.slice none 0 0) (.slice none 0 0) (.slice none 0 0) (.slice none 0 0) (.slice none 0 0) (.int .i64 0) (.slice none 0 0)).drew
          clear a1 a2 p6 heJ hbel
          go_wp2
          go_region
          all_goals
            go_wp2
            refine bodyPost_ret (v := .tuple #[zeroM.val, .int .i64 rJ.e]) ?_ rfl ?_
            · rw [results_cell_tmp6 rfl]; simp [zeroM, MoV.val]; go_simp
            · exact ⟨zeroM, by rw [hans.out], by rw [hans.out]; rfl, zero_at _, HBL.out⟩
    · have hdone := hG.out.done (.inr he)
      have hqe : (rk.e == 0) = false := beq_eq_false_iff_ne.2 he
      clear hgk he
      have cj := join_ends hs HH.out hr hp hwb hBw hMw hn hdone
      clear hdone hr hp hn hG hK
      go_wp2_with fail
      refine cj.mono ?_
      rintro e w6 ⟨rfl, mJ, rJ, h6, p6, hn6, a1, a2⟩
      obtain ⟨z0, z1, z2, z3, f0, f1, f2, f3⟩ := h6.reads
      obtain ⟨q4, q5, q6, q7, q8, q9, q10⟩ := restOf_mod _ _ _ h6
      obtain ⟨⟨b0, b1, b2, b3, b4, b5, b6⟩, ⟨v0, v1, v2, v3, v4, v5, v6⟩, hlt6⟩ := box76 hn6
      have hbel := h6.below
      clear cj x0 x1 x2 x3 y0 y1 y2 y3 hn6 h6
      by_cases heJ : rJ.e = 0
      · have hans := Lib.hid (a2 heJ)
        rw [heJ] at z2
        have hpz := p6.keep (W1 := set7 w6 w.heap.size (.slice mJ.tp mJ.types.length mJ.tc) (.slice mJ.fp mJ.funcs.length mJ.fc) (.slice mJ.mp mJ.memory.length mJ.mc) (.slice mJ.gp mJ.globals.length mJ.gc) (.slice mJ.ep mJ.exports.length mJ.ec) (.int .i64 mJ.start) (.slice mJ.dp mJ.data.length mJ.dc)) (fun k hk _ => set7_other _ _ _ _ _ _ _ _ _ (by omega))
        have HMA := Lib.hid hpz.modAt
        have HBL := Lib.hid (set7_below hbel (Nat.le_refl _) (.slice mJ.tp mJ.types.length mJ.tc) (.slice mJ.fp mJ.funcs.length mJ.fc) (.slice mJ.mp mJ.memory.length mJ.mc) (.slice mJ.gp mJ.globals.length mJ.gc) (.slice mJ.ep mJ.exports.length mJ.ec) (.int .i64 mJ.start) (.slice mJ.dp mJ.data.length mJ.dc))
        clear a1 a2 p6 heJ hbel hpz
        go_wp2
        refine bodyPost_ret (v := .tuple #[mJ.val, .int .i64 0]) ?_ rfl ?_
        · rw [results_cell_tmp6 rfl]; simp [MoV.val]; go_simp
        · exact ⟨mJ, by rw [hans.out], by rw [hans.out], HMA.out, HBL.out⟩
      · have hans := Lib.hid (a1 heJ)
        have hqJ : (rJ.e != 0) = true := by simpa using heJ
        have HBL := Lib.hid (set7_below hbel (Nat.le_refl _) (.slice none 0 0) (.slice none 0 0) (.slice none 0 0) (.slice none 0 0) (.slice none 0 0) (.int .i64 0) (.slice none 0 0)).drew
        clear a1 a2 p6 heJ hbel
        go_wp2
        go_region
        all_goals
          go_wp2
          refine bodyPost_ret (v := .tuple #[zeroM.val, .int .i64 rJ.e]) ?_ rfl ?_
          · rw [results_cell_tmp6 rfl]; simp [zeroM, MoV.val]; go_simp
          · exact ⟨zeroM, by rw [hans.out], by rw [hans.out]; rfl, zero_at _, HBL.out⟩
theorem dec_mod (s : ByteArray) (w : World) (hLaid : Laid w) : Calls Tryz.prog 19 #[.string s] w (AnsMod s w) := by
  by_cases h1 : s.size ≤ 1048576
  · by_cases h2 : s.data.toList.take 8 = head6
    · exact mod_reads s w hLaid h1 h2
    · exact mod_head s w h1 h2
  · exact mod_long s w (by omega)
theorem belt6 {B : Nat} {w W W' : World} (h : Below B w W) (hB : B ≤ w.heap.size) (h2 : Below W.heap.size W W') : Below B w W' := h.trans (h2.mono (Nat.le_trans hB h.size))
theorem bare_none {m : MoV} {n : Int} (h : m.bare = ⟨none, 0, [], none, 0, [], none, 0, [], none, 0, [], none, 0, [], n, none, 0, []⟩) : ∃ tp tc fp fc mp mc gp gc ep ec dp dc, m = ⟨tp, tc, [], fp, fc, [], mp, mc, [], gp, gc, [], ep, ec, [], n, dp, dc, []⟩ := by
  obtain ⟨tp, tc, types, fp, fc, funcs, mp, mc, memory, gp, gc, globals, ep, ec, exports, start, dp, dc, data⟩ := m
  simp only [MoV.bare, MoV.mk.injEq, List.map_eq_nil_iff, true_and] at h
  obtain ⟨rfl, rfl, rfl, rfl, rfl, rfl, rfl⟩ := h
  exact ⟨tp, tc, fp, fc, mp, mc, gp, gc, ep, ec, dp, dc, rfl⟩
theorem examples6 (w : World) (hLaid : Laid w) : Calls Tryz.prog 15 #[] w fun e w' => e = .returned (.bool true) ∧ Below w.heap.size w w' := by
  have c1 : ∀ W, Laid W → Calls Tryz.prog 19 #[.string ⟨#[0, 97, 115, 109, 1, 0, 0, 0]⟩] W fun e w' => ∃ tp tc fp fc mp mc gp gc ep ec dp dc, e = .returned (.tuple #[.agg #[.slice tp 0 tc, .slice fp 0 fc, .slice mp 0 mc, .slice gp 0 gc, .slice ep 0 ec, .int .i64 (-1), .slice dp 0 dc], .int .i64 0]) ∧ Below W.heap.size W w' := fun W hW => by
    refine (dec_mod ⟨#[0, 97, 115, 109, 1, 0, 0, 0]⟩ W hW).mono ?_
    rintro e w' ⟨m, rfl, hb, _, hbel⟩
    have h2 : (modAns (⟨#[0, 97, 115, 109, 1, 0, 0, 0]⟩ : ByteArray).data.toList) = (⟨none, 0, [], none, 0, [], none, 0, [], none, 0, [], none, 0, [], -1, none, 0, []⟩, 0) := rfl
    rw [h2] at hb ⊢
    obtain ⟨tp, tc, fp, fc, mp, mc, gp, gc, ep, ec, dp, dc, rfl⟩ := bare_none hb
    exact ⟨tp, tc, fp, fc, mp, mc, gp, gc, ep, ec, dp, dc, rfl, hbel⟩
  have c2 : ∀ W, Laid W → Calls Tryz.prog 19 #[.string ⟨#[]⟩] W fun e w' => ∃ tp tc fp fc mp mc gp gc ep ec dp dc, e = .returned (.tuple #[.agg #[.slice tp 0 tc, .slice fp 0 fc, .slice mp 0 mc, .slice gp 0 gc, .slice ep 0 ec, .int .i64 0, .slice dp 0 dc], .int .i64 2]) ∧ Below W.heap.size W w' := fun W hW => by
    refine (dec_mod ⟨#[]⟩ W hW).mono ?_
    rintro e w' ⟨m, rfl, hb, _, hbel⟩
    have h2 : (modAns (⟨#[]⟩ : ByteArray).data.toList) = (zeroM, 2) := rfl
    rw [h2] at hb ⊢
    obtain ⟨tp, tc, fp, fc, mp, mc, gp, gc, ep, ec, dp, dc, rfl⟩ := bare_none hb
    exact ⟨tp, tc, fp, fc, mp, mc, gp, gc, ep, ec, dp, dc, rfl, hbel⟩
  have c3 : ∀ W, Laid W → Calls Tryz.prog 22 #[.string ⟨#[65, 127]⟩, .int .i64 0] W fun e w' => ∃ lp lc, e = .returned (.tuple #[.agg #[.int .i64 65, .int .i64 (-1), .int .i64 0, .slice lp 0 lc], .int .i64 2, .int .i64 0]) ∧ Below W.heap.size W w' := fun W hW => by
    refine (dec_instr ⟨#[65, 127]⟩ 0 (by decide) W hW).mono ?_
    rintro e w' ⟨x, rfl, hb, _, hbel⟩
    have h2 : (insAns (⟨#[65, 127]⟩ : ByteArray).data.toList 0) = (bareI 65 (-1) 0 [], 2, 0) := by kernel_rfl
    rw [h2] at hb ⊢
    obtain ⟨op, a, b, lp, lc, ls⟩ := x
    simp only [InsV.bare, bareI, InsV.mk.injEq, true_and] at hb
    obtain ⟨rfl, rfl, rfl, rfl⟩ := hb
    exact ⟨lp, lc, rfl, hbel⟩
  go_enter Tryz.func15, Tryz.ntmps15
  go_wp2_with fail
  refine (c1 _ hLaid).mono ?_
  rintro e w1 ⟨tp, tc, fp, fc, mp, mc, gp, gc, ep, ec, dp, dc, rfl, hb1⟩
  obtain ⟨wa, hwa⟩ : ∃ wa, wa = w1.alloc (.cells #[.slice tp 0 tc, .slice fp 0 fc, .slice mp 0 mc, .slice gp 0 gc, .slice ep 0 ec, .int .i64 (-1), .slice dp 0 dc] 35) := ⟨_, rfl⟩
  have hba : Below w.heap.size w wa := by rw [hwa]; exact hb1.alloc hb1.size _
  have hna : wa.heap[w1.heap.size]? = some (.cells #[.slice tp 0 tc, .slice fp 0 fc, .slice mp 0 mc, .slice gp 0 gc, .slice ep 0 ec, .int .i64 (-1), .slice dp 0 dc] 35) := by rw [hwa]; exact heap_alloc_new w1 _
  have hla : w1.heap.size < wa.heap.size := in_heap6 hna
  have HA := Lib.hid hwa
  have hLa := hLaid.below hba
  clear hwa hb1 c1
  go_wp2_with fail
  rw [← HA.out]
  refine (c3 _ hLa).mono ?_
  rintro e w2 ⟨lp, lc, rfl, hb2⟩
  obtain ⟨wb, hwb⟩ : ∃ wb, wb = w2.alloc (.cells #[.int .i64 65, .int .i64 (-1), .int .i64 0, .slice lp 0 lc] 46) := ⟨_, rfl⟩
  have hs2 := hb2.size
  have hB2 := belt6 hba (Nat.le_refl _) hb2
  have hbb : Below w.heap.size w wb := by rw [hwb]; exact hB2.alloc hB2.size _
  have hnb : wb.heap[w1.heap.size]? = some (.cells #[.slice tp 0 tc, .slice fp 0 fc, .slice mp 0 mc, .slice gp 0 gc, .slice ep 0 ec, .int .i64 (-1), .slice dp 0 dc] 35) := by rw [hwb]; exact (Below.heap_alloc w2 _ _ (by omega)).trans ((hb2.block _ hla).trans hna)
  have hxb : wb.heap[w2.heap.size]? = some (.cells #[.int .i64 65, .int .i64 (-1), .int .i64 0, .slice lp 0 lc] 46) := by rw [hwb]; exact heap_alloc_new w2 _
  have HB := Lib.hid hwb
  have hLb := hLaid.below hbb
  have hlb : w1.heap.size < wb.heap.size := in_heap6 hnb
  have hlb2 : w2.heap.size < wb.heap.size := in_heap6 hxb
  clear hwb hb2 hB2 hba hLa hna c3 HA
  go_wp2_with fail
  rw [← HB.out]
  refine (c2 _ hLb).mono ?_
  rintro e w3 ⟨tp3, tc3, fp3, fc3, mp3, mc3, gp3, gc3, ep3, ec3, dp3, dc3, rfl, hb3⟩
  have hn3 := (hb3.block _ hlb).trans hnb
  have hx3 := (hb3.block _ hlb2).trans hxb
  have hB3 := belt6 hbb (Nat.le_refl _) hb3
  obtain ⟨⟨a0, a1, a2, a3, a4, a5, a6⟩, _, hlt⟩ := box76 hn3
  obtain ⟨k0, k1, k2, k3, b0, b1, b2, b3, _⟩ := box_at hx3
  have hlt2 := in_heap6 hx3
  clear c2 hnb hxb hbb hLb hb3 hn3 hx3 HB
  go_wp2
  go_ret
  exact ⟨rfl, hB3.alloc hB3.size _⟩
end Go.Proofs.YthfipknfdnfalaaGreatDoor
namespace Go.Proofs.YthfipknfdnfalaaGreatDoor
set_option maxRecDepth 100000
set_option maxHeartbeats 16000000
set_option linter.unusedVariables false
def Kindly {α : Type} (p : Pr α) : Prop := ∀ l e, p l = .bad e → e ≠ 3
theorem Kindly.and {α β : Type} {p : Pr α} {f : α → Pr β} (hp : Kindly p) (hf : ∀ x, Kindly (f x)) : Kindly (p.and f) := fun l e h => by
  unfold Pr.and at h
  cases hx : p l with
  | bad e2 => rw [hx] at h; cases h; exact hp l e hx
  | ok x m => rw [hx] at h; exact hf x m e h
theorem kindly_val {α : Type} (x : α) : Kindly (Pr.val x) := fun l e h => by cases h
theorem kindly_no {α : Type} {k : Int} (hk : k ≠ 3) : Kindly (Pr.no k : Pr α) := fun l e h => by cases h; exact hk
theorem kindly_ite {α : Type} {c : Prop} [Decidable c] {p q : Pr α} (hp : Kindly p) (hq : Kindly q) : Kindly (if c then p else q) := by
  split
  · exact hp
  · exact hq
theorem kindly_one : Kindly pOne := fun l e h => by
  cases l with
  | nil => cases h; decide
  | cons b t => cases h
theorem kindly_fit (K : IntKind) (p : Int → Int) (most : Nat) : Kindly (pFit K p most) := fun l e h => by
  unfold pFit at h
  split at h
  · cases h; decide
  · cases h
theorem kindly_num : Kindly pNum := kindly_fit _ _ _
theorem kindly_rep {α : Type} {p : Pr α} (hp : Kindly p) : ∀ n, Kindly (pRep p n)
  | 0 => kindly_val _
  | n + 1 => hp.and fun x => (kindly_rep hp n).and fun l => kindly_val _
theorem kindly_list {α : Type} {p : Pr α} (hp : Kindly p) : Kindly (pList p) := (kindly_num.and fun n => kindly_ite (kindly_no (by decide)) (kindly_val _)).and fun n => kindly_rep hp _
theorem kindly_signed (b : Int) : Kindly (pSigned b) := by unfold pSigned; exact kindly_ite (kindly_fit _ _ _) (kindly_fit _ _ _)
theorem kindly_tail {s : Int} (hs : s ≠ 1) (op : Int) : Kindly (pTail s op) := by
  unfold pTail
  rw [if_neg hs]
  exact kindly_ite (kindly_num.and fun _ => kindly_val _) (kindly_ite ((kindly_list kindly_num).and fun _ => kindly_num.and fun _ => kindly_val _)
    (kindly_ite (kindly_num.and fun _ => kindly_num.and fun _ => kindly_val _) (kindly_ite ((kindly_one.and fun c => kindly_ite (kindly_val _) (kindly_no (by decide))).and fun _ => kindly_val _) (kindly_ite ((kindly_signed op).and fun _ => kindly_val _) (kindly_val _)))))
theorem table_one : ∀ r ∈ allRows, r.shape = 1 → r.code = 2 ∨ r.code = 3 ∨ r.code = 4 := by decide +kernel
theorem shape_one {c : Int} {r : Rw} (h : byCode c = some r) (hs : r.shape = 1) : c = 2 ∨ c = 3 ∨ c = 4 := by
  have h1 := table_one r (List.mem_of_find?_eq_some h) hs
  have h2 : r.code = c := by have := List.find?_some h; simpa using this
  rwa [h2] at h1
theorem ins_float {c : UInt8} {t : List UInt8} (h : isFloat c.toNat = true ∨ (c.toNat : Int) = 17) : pIns (c :: t) = .bad 3 := by
  refine (and_ok (show pOne (c :: t) = .ok (c.toNat : Int) t from rfl)).trans ?_
  rw [if_pos h]
  rfl
theorem ins_kindly {c : UInt8} {t : List UInt8} (h : ¬ (isFloat c.toNat = true ∨ (c.toNat : Int) = 17)) (h2 : ¬ ((c.toNat : Int) = 2 ∨ (c.toNat : Int) = 3 ∨ (c.toNat : Int) = 4)) {e : Int} (he : pIns (c :: t) = .bad e) : e ≠ 3 := by
  have e1 := (and_ok (f := fun b => if isFloat b = true ∨ b = 17 then (Pr.no 3 : Pr InsV) else match byCode b with
    | none => .no 2
    | some r => pTail r.shape b) (show pOne (c :: t) = .ok (c.toNat : Int) t from rfl))
  have e2 := e1.symm.trans he
  rw [if_neg h] at e2
  cases hb : byCode (c.toNat : Int) with
  | none => rw [hb] at e2; cases e2; decide
  | some r =>
    rw [hb] at e2
    exact kindly_tail (fun hs => h2 (shape_one hb hs)) _ t e e2
end Go.Proofs.YthfipknfdnfalaaGreatDoor
namespace Go.Proofs.YthfipknfdnfalaaGreatDoor
set_option maxRecDepth 100000
set_option maxHeartbeats 16000000
open Go.RowKit
set_option linter.unusedVariables false
def floatLaw (c : Int) : Bool := isFloat c || decide (c = 17)
theorem one_kind {s : ByteArray} {c : UInt8} {t : List UInt8} (hs : s.data.toList = c :: t) : (floatLaw c.toNat = true → (insAns s.data.toList 0).2.2 = 3) ∧ (floatLaw c.toNat = false → ¬ ((c.toNat : Int) = 2 ∨ (c.toNat : Int) = 3 ∨ (c.toNat : Int) = 4) → (insAns s.data.toList 0).2.2 ≠ 3) := by
  have e0 : insAns s.data.toList 0 = match pIns (c :: t) with
    | .bad e => (bareI 0 0 0 [], 0, e)
    | .ok x rest => (x, (s.data.toList.length : Int) - rest.length, 0) := by
    unfold insAns
    rw [if_neg (by omega), hs]
    rfl
  rw [e0]
  constructor
  · intro h
    have h' : isFloat c.toNat = true ∨ (c.toNat : Int) = 17 := by simpa [floatLaw] using h
    rw [ins_float h']
  · intro h h2
    have h' : ¬ (isFloat c.toNat = true ∨ (c.toNat : Int) = 17) := fun h3 => by
      have : floatLaw c.toNat = true := by simpa [floatLaw] using h3
      rw [h] at this
      cases this
    cases hp : pIns (c :: t) with
    | bad e => exact ins_kindly h' h2 hp
    | ok x m => simp
theorem back_ins {x : InsV} (h : rightIns x = true) (ha : inI64 x.a) (more : List UInt8) : insAns (ins5 x ++ more) 0 = (x.bare, ((ins5 x).length : Int), 0) := by
  unfold insAns
  rw [if_neg (by omega), show (0 : Int).toNat = 0 from rfl, List.drop_zero, pIns_put h ha more]
  simp
theorem flat5 {ls : List Int} (h : ls.all word = true) : (ls.flatMap putU).length ≤ 5 * ls.length := by
  induction ls with
  | nil => simp
  | cons n l ih =>
    rw [List.all_cons, Bool.and_eq_true] at h
    have h1 := word_is h.1
    have h2 := putU_small (n := n) h1.1 h1.2
    have := ih h.2
    rw [List.flatMap_cons, List.length_append, List.length_cons]
    omega
theorem ins5_few {x : InsV} (ha : inI64 x.a) : (ins5 x).length ≤ 30000 := by
  cases hr : rightIns x with
  | false =>
    unfold ins5
    cases byCode x.op with
    | none => simp
    | some r => simp [hr]
  | true =>
    obtain ⟨op, a, b, lp, lc, ls⟩ := x
    have h0 : rightOf (byCode op) op a b ls = true := hr
    cases hby : byCode op with
    | none => rw [hby] at h0; cases h0
    | some r =>
      have hi : ins5 ⟨op, a, b, lp, lc, ls⟩ = one5 op ++ tail5 r.shape ⟨op, a, b, lp, lc, ls⟩ := ins5_is hby hr
      rw [hi, List.length_append]
      show 1 + _ ≤ _
      rw [hby] at h0
      unfold rightOf at h0
      simp only at h0
      unfold inI64 at ha
      have hbd := byCode_6 hby
      have hb6 := hbd.2.2.2.2.2.1
      have hb7 := hbd.2.2.2.2.2.2
      split at h0
      · cases h0
      · split at h0
        · cases h0
        · have h8 : r.shape = 0 ∨ r.shape = 1 ∨ r.shape = 2 ∨ r.shape = 3 ∨ r.shape = 4 ∨ r.shape = 5 ∨ r.shape = 6 ∨ r.shape = 7 := by omega
          rcases h8 with h | h | h | h | h | h | h | h
          all_goals rw [h] at h0 ⊢
          · show 1 + 0 ≤ _; omega
          · show 1 + 1 ≤ _; omega
          · simp [word] at h0; have := putU_small (n := a) (by omega) (by omega); show 1 + (putU a).length ≤ _; omega
          · simp only at h0
            have e3 : ls.all word = true ∧ ls.length ≤ 4096 ∧ word a = true := by simp at h0 ⊢; exact ⟨h0.1.1, h0.1.2, h0.2⟩
            have h1 := putU_small (n := (ls.length : Int)) (by omega) (by omega)
            have h2 := word_is e3.2.2
            have h3 := putU_small (n := a) h2.1 h2.2
            have h4 := flat5 e3.1
            show 1 + (putU ls.length ++ ls.flatMap putU ++ putU a).length ≤ _
            rw [List.length_append, List.length_append]
            omega
          · simp [word] at h0; have := putU_small (n := a) (by omega) (by omega); show 1 + (putU a).length ≤ _; omega
          · simp [word] at h0
            have h1 := putU_small (n := a) (by omega) (by omega)
            have h2 := putU_small (n := b) (by omega) (by omega)
            show 1 + (putU a ++ putU b).length ≤ _
            rw [List.length_append]; omega
          · show 1 + 1 ≤ _; omega
          · have h7 : -9223372036854775808 ≤ a ∧ a ≤ 9223372036854775807 := ha
            have := putS_len10 h7.1 h7.2
            show 1 + (putS a).length ≤ _; omega
theorem conv6 (w : World) (d : UInt8) : (convert 24 9 (.slice (some ⟨w.heap.size, 0, none⟩) 1 1)).run Tryz.prog (w.alloc (.cells #[.int .u8 (d.toNat : Int)] 5)) = .ok (.string ⟨#[d]⟩) (w.alloc (.cells #[.int .u8 (d.toNat : Int)] 5)) := by
  refine run_convert_bytes_back _ 24 9 5 ⟨w.heap.size, 0, none⟩ 1 [d] Tryz.underlying24 Tryz.underlying5 Tryz.underlying9 fun j hj => ?_
  have : j = 0 := by simp at hj; omega
  subst this
  rw [show (⟨w.heap.size, 0, none⟩ : Addr).add 0 = ⟨w.heap.size, 0, none⟩ from rfl, World.cell?_alloc_new]
  rfl
theorem app_list (a b : ByteArray) : (a ++ b).data.toList = a.data.toList ++ b.data.toList := by rw [ByteArray.data_append, Array.toList_append]
theorem bs_sz66 (l : List UInt8) : (bs l).size = l.length := by simp [bs, ByteArray.size]
theorem decInstr_walk (x : InsV) (c : UInt8) (more : ByteArray) (hm : more.size ≤ 140737488351232) (w : World) (hLaid : Laid w) (hx : InsAt w x) :
    Calls Tryz.prog 8 #[x.val, .int .u8 c.toNat, .string more] w fun e w' => e = .returned (.bool true) ∧ Below w.heap.size w w' := by
  have hb0 := (Below.refl w.heap.size w).alloc (Nat.le_refl _) (.cells x.row.toArray 46)
  have hL0 := hLaid.below hb0
  have c1 := examples6 _ hL0
  have hn0 := heap_alloc_new w (.cells x.row.toArray 46)
  have hx0 := hx.below hb0 (Nat.le_refl _)
  have hfew := ins5_few hx.2.2.2.1
  have hback := fun h => back_ins (x := x) h hx.2.2.2.1 more.data.toList
  have hkind := one_kind (s := ⟨#[c]⟩ ++ more) (c := c) (t := more.data.toList) (by rw [app_list]; rfl)
  have hcu := UInt8.toNat_lt c
  unfold InsV.val
  unfold InsV.row at c1 hn0 hb0 hL0 hx0
  dsimp only [List.toArray] at c1 hn0 hb0 hL0 hx0
  go_enter Tryz.func8, Tryz.ntmps8
  go_wp2_with fail
  refine c1.mono ?_
  rintro e w1 ⟨rfl, hb1⟩
  have hB1 := belt6 hb0 (Nat.le_refl _) hb1
  have hn1 := (hb1.block _ (in_heap6 hn0)).trans hn0
  have hL1 := hLaid.below hB1
  have hx1 := hx0.below hb1 (Nat.le_refl _)
  obtain ⟨_, _, _, _, a0, a1, a2, a3, _⟩ := box_at hn1
  have c2 := enc_instr x w1 hL1.spaces hx1
  unfold InsV.val at c2
  clear c1 hb0 hL0 hn0 hx0 hb1
  go_wp2_with fail
  refine c2.mono ?_
  rintro e w2 ⟨rfl, hb2⟩
  have hB2 := belt6 hB1 (Nat.le_refl _) hb2
  have hn2 := (hb2.block _ (in_heap6 hn1)).trans hn1
  have hsz : (bs (ins5 x) ++ more).size ≤ 140737488381232 := by rw [ByteArray.size_append, bs_sz66]; omega
  have hz2 : ¬ 9223372036854775807 < (bs (ins5 x)).size + more.size := by rw [bs_sz66]; omega
  have c3 := dec_instr (bs (ins5 x) ++ more) 0 (by omega) w2 (hLaid.below hB2)
  unfold AnsIns at c3
  rw [app_list, bs_list6] at c3
  have HX := Lib.hid (hx1.below hb2 (Nat.le_refl _))
  have HB2 := Lib.hid hB2
  clear c2 hB1 hn1 hL1 hx1 a0 a1 a2 a3 hb2 hB2
  obtain ⟨R, hR⟩ : ∃ R, insAns (ins5 x ++ more.data.toList) 0 = R := ⟨_, rfl⟩
  obtain ⟨R1, R2, R3⟩ := R
  rw [hR] at c3 hback
  clear hR
  go_wp2_with fail
  refine c3.mono ?_
  rintro e w3 ⟨⟨yo, ya, yb, yp, yc, yl⟩, rfl, hy, hny, hb3⟩
  have hB3 := belt6 HB2.out (Nat.le_refl _) hb3
  have hn3 := (hb3.block _ (in_heap6 hn2)).trans hn2
  have hv := conv6 (w3.alloc (.cells #[.int .i64 yo, .int .i64 ya, .int .i64 yb, .slice yp yl.length yc] 46)) c
  rw [show (w3.alloc (.cells #[.int .i64 yo, .int .i64 ya, .int .i64 yb, .slice yp yl.length yc] 46)).heap.size = w3.heap.size + 1 by simp] at hv
  have hBY := hB3.alloc hB3.size (.cells #[.int .i64 yo, .int .i64 ya, .int .i64 yb, .slice yp yl.length yc] 46)
  have hBC := hBY.alloc hBY.size (.cells #[.int .u8 (c.toNat : Int)] 5)
  have hny3 := hny.insAt
  have hszc : ((⟨#[c]⟩ : ByteArray) ++ more).size ≤ 140737488381232 := by rw [ByteArray.size_append]; show 1 + more.size ≤ _; omega
  have hz3 : ¬ 9223372036854775807 < (⟨#[c]⟩ : ByteArray).size + more.size := by show ¬ 9223372036854775807 < 1 + more.size; omega
  have c5 := dec_instr (⟨#[c]⟩ ++ more) 0 (by omega) ((w3.alloc (.cells #[.int .i64 yo, .int .i64 ya, .int .i64 yb, .slice yp yl.length yc] 46)).alloc (.cells #[.int .u8 (c.toNat : Int)] 5)) (hLaid.below hBC)
  unfold AnsIns at c5
  obtain ⟨F, hF⟩ : ∃ F, insAns ((⟨#[c]⟩ : ByteArray) ++ more).data.toList 0 = F := ⟨_, rfl⟩
  obtain ⟨F1, F2, F3⟩ := F
  rw [hF] at c5 hkind
  simp only at c5 hkind
  have hBC' := hBC
  have HX3 : Hid (InsAt w3 x) := Lib.hid (HX.out.below hb3 (Nat.le_refl _))
  have hl3 := in_heap6 hn3
  have hb3C : Below w3.heap.size w3 ((w3.alloc (.cells #[.int .i64 yo, .int .i64 ya, .int .i64 yb, .slice yp yl.length yc] 46)).alloc (.cells #[.int .u8 (c.toNat : Int)] 5)) := ((Below.refl _ w3).alloc (Nat.le_refl _) (.cells #[.int .i64 yo, .int .i64 ya, .int .i64 yb, .slice yp yl.length yc] 46)).alloc (by simp) (.cells #[.int .u8 (c.toNat : Int)] 5)
  have hnY := (Below.heap_alloc (w3.alloc (.cells #[.int .i64 yo, .int .i64 ya, .int .i64 yb, .slice yp yl.length yc] 46)) (.cells #[.int .u8 (c.toNat : Int)] 5) w3.heap.size (by simp)).trans (heap_alloc_new w3 (.cells #[.int .i64 yo, .int .i64 ya, .int .i64 yb, .slice yp yl.length yc] 46))
  clear c3 hb3 hn2 hF hB3 hBY hny HX HB2
  dsimp only [InsV.val]
  go_wp2_with fail
  refine c5.mono ?_
  rintro e w5 ⟨⟨zo, za, zb, zp, zc, zl⟩, rfl, _, _, hb5⟩
  have hB5 := belt6 hBC (Nat.le_refl _) hb5
  have hx5 := (hb5.block _ (by simp; omega)).trans ((Below.heap_alloc _ (.cells #[.int .u8 (c.toNat : Int)] 5) _ (by simp; omega)).trans ((Below.heap_alloc w3 (.cells #[.int .i64 yo, .int .i64 ya, .int .i64 yb, .slice yp yl.length yc] 46) _ hl3).trans hn3))
  have hy5 := (hb5.block _ (in_heap6 hnY)).trans hnY
  have HY5 : Hid (InsAt w5 ⟨yo, ya, yb, yp, yc, yl⟩) := Lib.hid ((hny3.below hb3C (Nat.le_refl _)).below hb5 (Nat.le_refl _))
  have HB5 := Lib.hid hB5
  have HL5 := Lib.hid (hLaid.below hB5)
  clear c5 hv hb5 hBC hBC' hnY hn3 hny3 hb3C hB5 HX3
  dsimp only [InsV.val]
  obtain ⟨cc, hcc⟩ : ∃ cc : Int, (c.toNat : Int) = cc := ⟨_, rfl⟩
  have hcc0 : 0 ≤ cc := by omega
  have hcc1 : cc < 256 := by omega
  rw [hcc] at hkind ⊢
  have HCC := Lib.hid hcc
  clear hcc hcu
  go_upto_region 7 with fail
  obtain ⟨WZ, hWZ⟩ : ∃ W, W = w5.alloc (.cells #[.int .i64 zo, .int .i64 za, .int .i64 zb, .slice zp zl.length zc] 46) := ⟨_, rfl⟩
  rw [← hWZ]
  have hBZ : Below w5.heap.size w5 WZ := by rw [hWZ]; exact (Below.refl _ w5).alloc (Nat.le_refl _) _
  clear hWZ
  have hxZ := (hBZ.block _ (in_heap6 hx5)).trans hx5
  have hyZ := (hBZ.block _ (in_heap6 hy5)).trans hy5
  have cE := enc_instr ⟨yo, ya, yb, yp, yc, yl⟩ WZ (HL5.out.below hBZ).spaces (HY5.out.below hBZ (Nat.le_refl _))
  simp only [InsV.val] at cE
  have HBZ : Hid (Below w.heap.size w WZ) := Lib.hid (belt6 HB5.out (Nat.le_refl _) hBZ)
  clear HL5 HY5 HB5 hx5 hy5 hBZ
  go_cut [1, 16] from 19 (fun s1 s16 W => s1 = .int .u8 cc ∧ s16 = .bool (floatLaw cc) ∧ W = WZ)
  case first =>
    clear hkind hback cE hxZ hyZ hszc hz3 hsz hz2
    go_wp2
    all_goals
      go_meet
      refine ⟨by first | rfl | (refine congrArg (Value.int .u8) ?_; omega), congrArg Value.bool ?_, rfl⟩
      rw [Bool.eq_iff_iff]
      simp only [floatLaw, isFloat, Bool.or_eq_true, beq_iff_eq, decide_eq_true_eq, true_iff]
      omega
  case rest =>
    obtain ⟨rfl, rfl, rfl⟩ := hcut
    have hkinds : (floatLaw cc = true ∧ F3 = 3) ∨ (floatLaw cc = false ∧ (cc = 2 ∨ cc = 3 ∨ cc = 4)) ∨ (floatLaw cc = false ∧ ¬ (cc = 2 ∨ cc = 3 ∨ cc = 4) ∧ F3 ≠ 3) := by
      cases hf : floatLaw cc with
      | true => exact .inl ⟨rfl, hkind.1 hf⟩
      | false =>
        by_cases h2 : cc = 2 ∨ cc = 3 ∨ cc = 4
        · exact .inr (.inl ⟨rfl, h2⟩)
        · exact .inr (.inr ⟨rfl, h2, hkind.2 hf h2⟩)
    clear hkind
    obtain ⟨fl, hfl⟩ : ∃ fl, floatLaw cc = fl := ⟨_, rfl⟩
    rw [hfl] at hkinds ⊢
    obtain ⟨_, _, _, _, b0, b1, b2, b3, _⟩ := box_at hxZ
    obtain ⟨_, _, _, _, d0, d1, d2, d3, _⟩ := box_at hyZ
    clear hfl hsz hz2 hszc hz3
    cases hok : rightIns x with
    | false =>
      have hT : bs (ins5 x) = ⟨#[]⟩ := by
        unfold ins5
        cases byCode x.op with
        | none => rfl
        | some r => simp only [hok]; rfl
      rw [hT]
      clear hback hT cE
      rcases hkinds with ⟨rfl, rfl⟩ | ⟨rfl, h2⟩ | ⟨rfl, h2, h3⟩
      · go_wp2
        go_ret
        exact ⟨rfl, HBZ.out⟩
      · have q1 : ¬ cc < 2 := by omega
        have q2 : ¬ 4 < cc := by omega
        clear h2
        go_wp2
        go_ret
        exact ⟨rfl, HBZ.out⟩
      · have q3 : (F3 == 3) = false := beq_eq_false_iff_ne.2 h3
        clear h2 h3
        go_wp2
        all_goals
          go_ret
          exact ⟨rfl, HBZ.out⟩
    | true =>
      have hb := hback hok
      injection hb with hb1 hb2
      injection hb2 with hb2 hb3
      subst hb2 hb3
      have hyx := hy.trans hb1
      obtain ⟨xo, xa, xb, xp, xc, xl⟩ := x
      simp only [InsV.bare, InsV.mk.injEq, true_and] at hyx
      obtain ⟨rfl, rfl, rfl, rfl⟩ := hyx
      have hi : ins5 ⟨yo, ya, yb, yp, yc, yl⟩ = ins5 ⟨yo, ya, yb, xp, xc, yl⟩ := rfl
      have hr : rightIns ⟨yo, ya, yb, yp, yc, yl⟩ = true := hok
      rw [hi, hr] at cE
      have hsz6 : ((ins5 ⟨yo, ya, yb, xp, xc, yl⟩).length : Int) = ((bs (ins5 ⟨yo, ya, yb, xp, xc, yl⟩)).size : Int) := by rw [bs_sz66]
      rw [hsz6]
      clear hback hy hb1 hi hr hsz6 hfew hx hok
      generalize ins5 ⟨yo, ya, yb, xp, xc, yl⟩ = T at *
      simp only at b0 b1 b2 b3 ⊢
      rcases hkinds with ⟨rfl, rfl⟩ | ⟨rfl, h2⟩ | ⟨rfl, h2, h3⟩
      · go_wp2_with (go_at_call 30; (with_reducible refine cE.mono ?_); rintro e w8 ⟨rfl, hb8⟩; have hx8 := (hb8.block _ (in_heap6 hxZ)).trans hxZ; have hy8 := (hb8.block _ (in_heap6 hyZ)).trans hyZ; obtain ⟨_, _, _, _, m0, m1, m2, m3, _⟩ := box_at hx8; obtain ⟨_, _, _, _, n0, n1, n2, n3, _⟩ := box_at hy8)
        all_goals
          go_ret
          exact ⟨rfl, belt6 HBZ.out (Nat.le_refl _) hb8⟩
      · have q1 : ¬ cc < 2 := by omega
        have q2 : ¬ 4 < cc := by omega
        clear h2
        go_wp2_with (go_at_call 30; (with_reducible refine cE.mono ?_); rintro e w8 ⟨rfl, hb8⟩; have hx8 := (hb8.block _ (in_heap6 hxZ)).trans hxZ; have hy8 := (hb8.block _ (in_heap6 hyZ)).trans hyZ; obtain ⟨_, _, _, _, m0, m1, m2, m3, _⟩ := box_at hx8; obtain ⟨_, _, _, _, n0, n1, n2, n3, _⟩ := box_at hy8)
        all_goals
          go_ret
          exact ⟨rfl, belt6 HBZ.out (Nat.le_refl _) hb8⟩
      · have q3 : (F3 == 3) = false := beq_eq_false_iff_ne.2 h3
        clear h2 h3
        go_wp2_with (go_at_call 30; (with_reducible refine cE.mono ?_); rintro e w8 ⟨rfl, hb8⟩; have hx8 := (hb8.block _ (in_heap6 hxZ)).trans hxZ; have hy8 := (hb8.block _ (in_heap6 hyZ)).trans hyZ; obtain ⟨_, _, _, _, m0, m1, m2, m3, _⟩ := box_at hx8; obtain ⟨_, _, _, _, n0, n1, n2, n3, _⟩ := box_at hy8)
        all_goals
          go_ret
          exact ⟨rfl, belt6 HBZ.out (Nat.le_refl _) hb8⟩
theorem decInstr_all (x : InsV) (a : Int) (ha : 0 ≤ a ∧ a ≤ 255) (more : ByteArray) (hm : more.size ≤ 140737488351232) (w : World) (hLaid : Laid w) (hx : InsAt w x) :
    Calls Tryz.prog 8 #[x.val, .int .u8 a, .string more] w fun e w' => e = .returned (.bool true) ∧ Below w.heap.size w w' := by
  have e : ((UInt8.ofNat a.toNat).toNat : Int) = a := byte_of ha.1 (by omega)
  have h := decInstr_walk x (UInt8.ofNat a.toNat) more hm w hLaid hx
  rwa [e] at h
end Go.Proofs.YthfipknfdnfalaaGreatDoor
