/-
  Package dec's Module, walked. Contracts that the proofs call; no statement is proved here.
-/
import Derived.Test.YthfipknfdnfalaaGreatDoorKbDecSect
namespace Go.Proofs.YthfipknfdnfalaaGreatDoor
set_option maxRecDepth 100000
set_option maxHeartbeats 16000000
open Go.RowKit
set_option linter.unusedVariables false
def zeroBox : Array Value := #[.slice none 0 0, .slice none 0 0, .slice none 0 0, .slice none 0 0, .slice none 0 0, .int .i64 0, .slice none 0 0]
theorem results_cell_tmp6 {fn : Func} {p u : Tmp} {ty : TypeId} (h : fn.results = #[.cell p ty, .tmp u]) (tmps : Array Value) (P : Program) (w : World) :
    (results fn tmps).run P w =
      ((asAddr (tmps.getD p undef)).run P w).andThen fun a w₁ => ((loadVar ty a).run P w₁).andThen fun x w₂ => .ok (.tuple #[x, tmps.getD u undef]) w₂ := by
  simp only [results, h]
  simp [Sem.run_bind, Result.andThen]
theorem zero_at (w : World) : ModAt w zeroM :=
  { types := RowsAt.nil, typesIn := fun _ h => absurd h List.not_mem_nil, typesMost := Nat.zero_le _
    funcs := RowsAt.nil, funcsIn := fun _ h => absurd h List.not_mem_nil, funcsMost := Nat.zero_le _
    memory := RowsAt.nil, memoryIn := fun _ h => absurd h List.not_mem_nil, memoryMost := Nat.zero_le _
    globals := RowsAt.nil, globalsIn := fun _ h => absurd h List.not_mem_nil, globalsMost := Nat.zero_le _
    exports := RowsAt.nil, exportsIn := fun _ h => absurd h List.not_mem_nil, exportsMost := Nat.zero_le _
    startIn := ⟨by decide, by decide⟩
    data := RowsAt.nil, dataIn := fun _ h => absurd h List.not_mem_nil, dataMost := Nat.zero_le _ }
theorem box76 {W : World} {b : Nat} {u0 u1 u2 u3 u4 u5 u6 : Value} {t : TypeId} (h : W.heap[b]? = some (.cells #[u0, u1, u2, u3, u4, u5, u6] t)) :
    (W.cell? ⟨b, 0, none⟩ = some u0 ∧ W.cell? ⟨b, 1, none⟩ = some u1 ∧ W.cell? ⟨b, 2, none⟩ = some u2 ∧ W.cell? ⟨b, 3, none⟩ = some u3 ∧ W.cell? ⟨b, 4, none⟩ = some u4 ∧ W.cell? ⟨b, 5, none⟩ = some u5 ∧ W.cell? ⟨b, 6, none⟩ = some u6) ∧
    (W.frozen? ⟨b, 0, none⟩ = false ∧ W.frozen? ⟨b, 1, none⟩ = false ∧ W.frozen? ⟨b, 2, none⟩ = false ∧ W.frozen? ⟨b, 3, none⟩ = false ∧ W.frozen? ⟨b, 4, none⟩ = false ∧ W.frozen? ⟨b, 5, none⟩ = false ∧ W.frozen? ⟨b, 6, none⟩ = false) ∧ b < W.heap.size := by
  have c : ∀ j, W.cell? ⟨b, j, none⟩ = (#[u0, u1, u2, u3, u4, u5, u6] : Array Value)[j]? := fun j => by rw [World.cell?, h]; simp
  have f : ∀ j, W.frozen? ⟨b, j, none⟩ = false := fun j => by simp [World.frozen?, h]
  exact ⟨⟨c 0, c 1, c 2, c 3, c 4, c 5, c 6⟩, ⟨f 0, f 1, f 2, f 3, f 4, f 5, f 6⟩, in_heap6 h⟩
def set7 (W : World) (b : Nat) (u0 u1 u2 u3 u4 u5 u6 : Value) : World := ((((((W.setCell ⟨b, 0, none⟩ u0).setCell ⟨b, 1, none⟩ u1).setCell ⟨b, 2, none⟩ u2).setCell ⟨b, 3, none⟩ u3).setCell ⟨b, 4, none⟩ u4).setCell ⟨b, 5, none⟩ u5).setCell ⟨b, 6, none⟩ u6
theorem set7_below {w W : World} (h : Below w.heap.size w W) {b : Nat} (hb : w.heap.size ≤ b) (u0 u1 u2 u3 u4 u5 u6 : Value) : Below w.heap.size w (set7 W b u0 u1 u2 u3 u4 u5 u6) :=
  ((((((h.setCell hb _).setCell hb _).setCell hb _).setCell hb _).setCell hb _).setCell hb _).setCell hb _
theorem set7_other (W : World) (b : Nat) (u0 u1 u2 u3 u4 u5 u6 : Value) {k : Nat} (hk : k ≠ b) : (set7 W b u0 u1 u2 u3 u4 u5 u6).heap[k]? = W.heap[k]? := by
  unfold set7
  rw [Below.heap_setCell _ _ _ _ hk, Below.heap_setCell _ _ _ _ hk, Below.heap_setCell _ _ _ _ hk, Below.heap_setCell _ _ _ _ hk, Below.heap_setCell _ _ _ _ hk, Below.heap_setCell _ _ _ _ hk, Below.heap_setCell _ _ _ _ hk]
theorem mod_long (s : ByteArray) (w : World) (hs : 1048576 < s.size) : Calls Tryz.prog 19 #[.string s] w (AnsMod s w) := by
  have hans : modAns s.data.toList = (zeroM, 5) := by
    unfold modAns mod6
    rw [if_pos (by rw [Array.length_toList]; exact hs)]
  have hq : (1048576 : Int) < (s.size : Int) := by omega
  have hB := (Below.refl w.heap.size w).alloc (Nat.le_refl _) (.cells zeroBox 35)
  have HH := Lib.hid hans
  clear hans
  go_enter Tryz.func19, Tryz.ntmps19
  go_wp2
  refine bodyPost_ret (v := .tuple #[zeroM.val, .int .i64 5]) ?_ rfl ?_
  · rw [results_cell_tmp6 rfl]; simp [zeroM, MoV.val]; go_simp
  · refine ⟨zeroM, by rw [HH.out], by rw [HH.out]; rfl, zero_at _, ?_⟩
    first
      | exact hB
      | exact ((((((hB.setCell (Nat.le_refl _) _).setCell (Nat.le_refl _) _).setCell (Nat.le_refl _) _).setCell (Nat.le_refl _) _).setCell (Nat.le_refl _) _).setCell (Nat.le_refl _) _).setCell (Nat.le_refl _) _
theorem mod_head (s : ByteArray) (w : World) (hs : s.size ≤ 1048576) (hh : ¬ s.data.toList.take 8 = head6) : Calls Tryz.prog 19 #[.string s] w (AnsMod s w) := by
  have hans : modAns s.data.toList = (zeroM, 2) := by
    unfold modAns mod6
    rw [if_neg (by rw [Array.length_toList]; exact Nat.not_lt.2 hs), if_pos hh]
  have hq : ¬ (1048576 : Int) < (s.size : Int) := by omega
  have hB := (Below.refl w.heap.size w).alloc (Nat.le_refl _) (.cells zeroBox 35)
  have hn := heap_alloc_new w (.cells zeroBox 35)
  have c1 := prefix_of s (w.alloc (.cells zeroBox 35))
  rw [decide_eq_false hh] at c1
  have HH := Lib.hid hans
  unfold zeroBox headS at c1
  clear hans hh
  go_enter Tryz.func19, Tryz.ntmps19
  go_wp2_with fail
  refine c1.mono ?_
  rintro e w1 ⟨rfl, hb1⟩
  have hs1 := hb1.size
  have hbx := (hb1.block w.heap.size (by simp)).trans hn
  unfold zeroBox at hbx
  obtain ⟨⟨x0, x1, x2, x3, x4, x5, x6⟩, ⟨y0, y1, y2, y3, y4, y5, y6⟩, hlt⟩ := box76 hbx
  have hBel := set7_below (hB.trans (hb1.mono hB.size)) (Nat.le_refl _) (.slice none 0 0) (.slice none 0 0) (.slice none 0 0) (.slice none 0 0) (.slice none 0 0) (.int .i64 0) (.slice none 0 0)
  have HB := Lib.hid hBel
  clear c1 hB hn hb1 hs1 hbx hBel
  go_wp2
  refine bodyPost_ret (v := .tuple #[zeroM.val, .int .i64 2]) ?_ rfl ?_
  · rw [results_cell_tmp6 rfl]; simp [zeroM, MoV.val]; go_simp
  · exact ⟨zeroM, by rw [HH.out], by rw [HH.out]; rfl, zero_at _, HB.out⟩
def m06 : MoV := ⟨none, 0, [], none, 0, [], none, 0, [], none, 0, [], none, 0, [], -1, none, 0, []⟩
theorem PtsMem.start {base B M : Nat} (hB : B < base) (hM : M < base) (W : World) : PtsMem base B M m06 (.slice none 0 0) [] W :=
  { hB := hB, hM := hM
    types := World.ownsRow_nil _ _ _ _, typesIn := fun _ h => absurd h List.not_mem_nil, typesFew := Nat.zero_le _
    memory := World.ownsRow_nil _ _ _ _, memoryIn := fun _ h => absurd h List.not_mem_nil, memoryFew := Nat.zero_le _
    globals := World.ownsRow_nil _ _ _ _, globalsIn := fun _ h => absurd h List.not_mem_nil, globalsFew := Nat.zero_le _
    exports := World.ownsRow_nil _ _ _ _, exportsIn := fun _ h => absurd h List.not_mem_nil, exportsFew := Nat.zero_le _
    data := World.ownsRow_nil _ _ _ _, dataIn := fun _ h => absurd h List.not_mem_nil, dataFew := Nat.zero_le _
    funcs := World.ownsRow_nil _ _ _ _, funcsIn := fun _ h => absurd h List.not_mem_nil, funcsFew := Nat.zero_le _
    startIn := ⟨by decide, by decide⟩
    rows := World.ownsRow_nil _ _ _ _, codesIn := fun _ h => absurd h List.not_mem_nil, codesFew := Nat.zero_le _
    far := fun g hg => by cases hg }
theorem PtsMem.keep {base B M : Nat} {m : MoV} {cv : Value} {codes : List FnV} {W W1 : World} (h : PtsMem base B M m cv codes W) (hk : ∀ k, base ≤ k → k < W.heap.size → W1.heap[k]? = W.heap[k]?) : PtsMem base B M m cv codes W1 :=
  { hB := h.hB
    hM := h.hM
    types := own_same h.types fun g hg => hk g (own_lt6 h.types g hg).1 (own_lt6 h.types g hg).2
    typesIn := h.typesIn
    typesFew := h.typesFew
    memory := own_same h.memory fun g hg => hk g (own_lt6 h.memory g hg).1 (own_lt6 h.memory g hg).2
    memoryIn := h.memoryIn
    memoryFew := h.memoryFew
    globals := own_same h.globals fun g hg => hk g (own_lt6 h.globals g hg).1 (own_lt6 h.globals g hg).2
    globalsIn := h.globalsIn
    globalsFew := h.globalsFew
    exports := own_same h.exports fun g hg => hk g (own_lt6 h.exports g hg).1 (own_lt6 h.exports g hg).2
    exportsIn := h.exportsIn
    exportsFew := h.exportsFew
    data := own_same h.data fun g hg => hk g (own_lt6 h.data g hg).1 (own_lt6 h.data g hg).2
    dataIn := h.dataIn
    dataFew := h.dataFew
    funcs := own_same h.funcs fun g hg => hk g (own_lt6 h.funcs g hg).1 (own_lt6 h.funcs g hg).2
    funcsIn := fun f hf => (h.funcsIn f hf).keep hk
    funcsFew := h.funcsFew
    startIn := h.startIn
    rows := own_same h.rows fun g hg => hk g (own_lt6 h.rows g hg).1 (own_lt6 h.rows g hg).2
    codesIn := fun f hf => (h.codesIn f hf).keep hk
    codesFew := h.codesFew
    far := h.far }
def EndsAt (s : ByteArray) (w : World) (B M : Nat) (T : TypeId) (last : Int) (cv : Value) (codes : List FnV) (e : Ending) (w6 : World) : Prop :=
  e = .returned (.tuple #[]) ∧ ∃ (mJ : MoV) (rJ : RV), RdAt w B M T (restOf mJ last cv) rJ w6 ∧ PtsMem (B + 1) B M mJ cv codes w6 ∧ w6.heap[w.heap.size]? = some (.cells #[.slice none 0 0, .slice none 0 0, .slice none 0 0, .slice none 0 0, .slice none 0 0, .int .i64 0, .slice none 0 0] 35) ∧
    (rJ.e ≠ 0 → modAns s.data.toList = (zeroM, rJ.e)) ∧ (rJ.e = 0 → modAns s.data.toList = (mJ.bare, 0))
theorem join_ends {s : ByteArray} {w : World} {B M : Nat} {T : TypeId} {m : MoV} {last : Int} {cv : Value} {codes : List FnV} {rk : RV} {wr : World} (h1 : s.size ≤ 1048576) (h2 : s.data.toList.take 8 = head6) (hr : RdAt w B M T (restOf m last cv) rk wr) (hp : PtsMem (B + 1) B M m cv codes wr) (hwb : B + 1 ≤ wr.heap.size) (hBw : w.heap.size + 1 ≤ B) (hMw : w.heap.size + 1 ≤ M)
    (hn : wr.heap[w.heap.size]? = some (.cells #[.slice none 0 0, .slice none 0 0, .slice none 0 0, .slice none 0 0, .slice none 0 0, .int .i64 0, .slice none 0 0] 35)) (g : Got (sects pts0) ⟨s, 8, 0⟩ rk (ptsOf m last codes)) :
    Calls Tryz.prog 52 #[.pointer (some ⟨B, 0, none⟩)] wr (EndsAt s w B M T last cv codes) := by
  obtain ⟨a1, a2, a3⟩ := ans_read h1 h2 g
  by_cases hlen : codes.length = m.funcs.length
  · refine (join_all hr hp hwb (by omega) m.funcs.length rfl hlen).mono ?_
    rintro e w6 ⟨rfl, hk, hs, h6, p6⟩
    exact ⟨rfl, _, rk, h6, p6, (hk _ (by omega) (by omega) (by omega)).trans hn, a1, fun he => a3 he hlen⟩
  · refine (join_not hr hp hwb hlen).mono ?_
    rintro e w6 ⟨rfl, hk, hs, h6, p6⟩
    refine ⟨rfl, m, rk.bad 2, h6, p6, (hk _ (by omega) (by omega) (by omega)).trans hn, fun _ => ?_, fun he => absurd he (bad_e (by decide))⟩
    unfold RV.bad
    by_cases he : rk.e = 0
    · simp only [he, if_true]; exact a2 he hlen
    · simp only [he, if_false]; exact a1 he
theorem restOf_mod (m : MoV) (last : Int) (cv : Value) {w0 : World} {B M : Nat} {T : TypeId} {r : RV} {w : World} (h : RdAt w0 B M T (restOf m last cv) r w) :
    w.cell? ⟨B, 4, none⟩ = some (.slice m.tp m.types.length m.tc) ∧ w.cell? ⟨B, 5, none⟩ = some (.slice m.fp m.funcs.length m.fc) ∧ w.cell? ⟨B, 6, none⟩ = some (.slice m.mp m.memory.length m.mc) ∧ w.cell? ⟨B, 7, none⟩ = some (.slice m.gp m.globals.length m.gc) ∧ w.cell? ⟨B, 8, none⟩ = some (.slice m.ep m.exports.length m.ec) ∧ w.cell? ⟨B, 9, none⟩ = some (.int .i64 m.start) ∧ w.cell? ⟨B, 10, none⟩ = some (.slice m.dp m.data.length m.dc) := by
  have c : ∀ j, w.cell? ⟨B, j, none⟩ = (r.cells M ++ restOf m last cv)[j]? := fun j => by rw [World.cell?, h.box]; simp
  exact ⟨c 4, c 5, c 6, c 7, c 8, c 9, c 10⟩
theorem mod_reads (s : ByteArray) (w : World) (hLaid : Laid w) (hs : s.size ≤ 1048576) (hh : s.data.toList.take 8 = head6) : Calls Tryz.prog 19 #[.string s] w (AnsMod s w) := by
  have hq : ¬ (1048576 : Int) < (s.size : Int) := by omega
  have h8 : 8 ≤ s.size := by
    have h1 : (s.data.toList.take 8).length = 8 := by rw [hh]; rfl
    rw [List.length_take, Array.length_toList] at h1
    have e1 : s.size = s.data.size := rfl
    omega
  have hB0 := (Below.refl w.heap.size w).alloc (Nat.le_refl _) (.cells zeroBox 35)
  have hn0 := heap_alloc_new w (.cells zeroBox 35)
  have hz0 : (w.alloc (.cells zeroBox 35)).heap.size = w.heap.size + 1 := by simp
  have c1 := prefix_of s (w.alloc (.cells zeroBox 35))
  rw [decide_eq_true hh] at c1
  have HH := Lib.hid hh
  unfold headS at c1
  unfold zeroBox at c1 hB0 hn0 hz0
  clear hh
  go_enter Tryz.func19, Tryz.ntmps19
  go_wp2_with fail
  refine c1.mono ?_
  rintro e w1 ⟨rfl, hb1⟩
  have hB1 := hB0.trans (hb1.mono hB0.size)
  have hn1 := (hb1.block w.heap.size (by rw [hz0]; omega)).trans hn0
  have hs1 : w.heap.size + 1 ≤ w1.heap.size := by have := hb1.size; omega
  have c2 := new_reader s 8 w1
  clear c1 hb1 hB0 hn0 hz0
  go_wp2_with fail
  refine c2.mono ?_
  rintro e w2 ⟨M, rfl, hM, hD, hb2⟩
  have hB2 := hB1.trans (hb2.mono hB1.size)
  have hn2 := (hb2.block w.heap.size (by omega)).trans hn1
  have hMl : M < w2.heap.size := ownsMap_in hD.own
  have hs2 : w1.heap.size ≤ w2.heap.size := hb2.size
  obtain ⟨w3, hw3⟩ : ∃ w3, w3 = w2.alloc (.cells ((⟨s, 8, 0⟩ : RV).cells M ++ restOf m06 0 (.slice none 0 0)).toArray 114) := ⟨_, rfl⟩
  have hz3 : w3.heap.size = w2.heap.size + 1 := by rw [hw3]; simp
  have hbx3 : w3.heap[w2.heap.size]? = some (.cells ((⟨s, 8, 0⟩ : RV).cells M ++ restOf m06 0 (.slice none 0 0)).toArray 114) := by rw [hw3]; exact heap_alloc_new w2 _
  have hr3 : RdAt w w2.heap.size M 114 (restOf m06 0 (.slice none 0 0)) ⟨s, 8, 0⟩ w3 :=
    ⟨by rw [hw3]; exact hB2.alloc hB2.size _, hbx3, ⟨_, hD.same (by rw [hw3]; exact Below.heap_alloc _ _ _ hMl)⟩, by omega, hB2.size, by omega, by show s.size ≤ _; omega, h8⟩
  have hn3 : w3.heap[w.heap.size]? = _ := (by rw [hw3]; exact Below.heap_alloc w2 _ _ (by omega) : w3.heap[w.heap.size]? = w2.heap[w.heap.size]?).trans hn2
  have c3 := sections6 w3
  have HW3 := Lib.hid hw3
  have HZ3 := Lib.hid hz3
  clear c2 hb2 hB1 hn1 hn2 hD hbx3 hw3 hz3
  go_wp2_with fail
  change Calls _ _ _ (w2.alloc (.cells ((⟨s, 8, 0⟩ : RV).cells M ++ restOf m06 0 (.slice none 0 0)).toArray 114)) _
  rw [← HW3.out]
  refine c3.mono ?_
  rintro e w4 ⟨rfl, hK, hb4, hlt4⟩
  have hr4 := hr3.at' hb4
  have hz3 := HZ3.out
  have hn4 := (hb4.block w.heap.size (by omega)).trans hn3
  obtain ⟨B, hBd⟩ : ∃ B, w2.heap.size = B := ⟨_, rfl⟩
  obtain ⟨b, hbd⟩ : ∃ b, w3.heap.size = b := ⟨_, rfl⟩
  rw [hBd] at hMl hs2 hz3 hr4
  rw [hbd] at hK hlt4 hz3
  have hp4 : PtsMem (B + 1) B M m06 (.slice none 0 0) [] w4 := PtsMem.start (by omega) (by omega) w4
  have hG := Lib.hid (GoingS.start ⟨s, 8, 0⟩)
  have hBw : w.heap.size + 1 ≤ B := by omega
  have hMw : w.heap.size + 1 ≤ M := by omega
  have hbB : B < b := by omega
  have hwb : B + 1 ≤ w4.heap.size := by omega
  rw [hBd, hbd]
  obtain ⟨n0, hn0⟩ : ∃ n0, n0 = s.size + 1 := ⟨_, rfl⟩
  clear c3 hr3 hb4 hn3 hB2 HW3 HZ3 hbd hBd hs1 hM hs2 hlt4 hz3
  go_wp2
  go_loopg [] n0 (fun gg wr => ∃ (rk : RV) (m : MoV) (last : Int) (cv : Value) (codes : List FnV), RdAt w B M 114 (restOf m last cv) rk wr ∧ PtsMem (B + 1) B M m cv codes wr ∧ 0 ≤ last ∧ last ≤ 11 ∧ Hid (GoingS ⟨s, 8, 0⟩ rk (ptsOf m last codes)) ∧ rk.s = s ∧ (rk.e = 0 → s.size + 1 ≤ gg + rk.pos) ∧ Known wr b ∧ wr.heap[w.heap.size]? = some (.cells #[.slice none 0 0, .slice none 0 0, .slice none 0 0, .slice none 0 0, .slice none 0 0, .int .i64 0, .slice none 0 0] 35) ∧ B + 1 ≤ wr.heap.size)
  case atStart => exact ⟨⟨s, 8, 0⟩, m06, 0, _, [], hr4, hp4, by decide, by decide, hG, rfl, fun _ => by omega, hK, hn4, hwb⟩
  case round =>
    clear hr4 hp4 hG hK hn4 hwb hn0
    obtain ⟨rk, m, last, cv, codes, hr, hp, l0, l1, hG, hrs, hgk, hK, hn, hwb⟩ := hrel
    obtain ⟨x0, x1, x2, x3, y0, y1, y2, y3⟩ := hr.reads
    have hsz : rk.s.size = s.size := by rw [hrs]
    by_cases he : rk.e = 0
    · by_cases hpos : rk.pos < rk.s.size
      · have cs := sect_reads hLaid hr hp hwb (by omega) hK (by omega) (by omega) ⟨l0, l1⟩
        have hlt : (rk.pos : Int) < (rk.s.size : Int) := by omega
        have hgk2 := hgk he
        rw [he] at x2
        have HE := Lib.hid he
        have HP := Lib.hid hpos
        have hbl : b < wr.heap.size := ownsMap_in hK
        clear hgk he hpos
        go_wp2_with fail
        refine cs.mono ?_
        rintro e w5 ⟨m', last', cv', codes', r', rfl, g5, h5, m5, hp5, l0', l1'⟩
        have hK5 := hK.same (m5.block b hbl (by omega) (by omega))
        have hn5 := (m5.block w.heap.size (in_heap6 hn) (by omega) (by omega)).trans hn
        have hG5 := Lib.hid (hG.out.step HE.out HP.out g5)
        have hrs5 : r'.s = s := g5.1.trans hrs
        have hwb5 : B + 1 ≤ w5.heap.size := Nat.le_trans hwb m5.size
        have HG5 := Lib.hid g5
        have HS5 := Lib.hid hrs5
        have HN5 := Lib.hid hn5
        clear cs hr hp hG hK hn g5 m5 x0 x1 x2 x3 y0 y1 y2 y3 hrs5 hn5
        go_wp2
        go_roundg (gk - 1)
        case rel => exact ⟨r', m', last', cv', codes', h5, hp5, l0', l1', hG5, HS5.out, fun h0 => by have := HG5.out.sectEats HE.out h0; omega, hK5, HN5.out, hwb5⟩
        case measure => have := HP.out; omega
      · have hdone := hG.out.done (.inl (Nat.le_of_not_lt hpos))
        rw [he] at x2
        have hlt : ¬ (rk.pos : Int) < (rk.s.size : Int) := by omega
        clear hpos hgk he
        have cj := join_ends hs HH.out hr hp hwb hBw hMw hn hdone
        clear hdone hr hp hn hG hK
        go_wp2_with fail
        refine cj.mono ?_
        rintro e w6 ⟨rfl, mJ, rJ, h6, p6, hn6, a1, a2⟩
        obtain ⟨z0, z1, z2, z3, f0, f1, f2, f3⟩ := h6.reads
        obtain ⟨q4, q5, q6, q7, q8, q9, q10⟩ := restOf_mod _ _ _ h6
        obtain ⟨⟨b0, b1, b2, b3, b4, b5, b6⟩, ⟨v0, v1, v2, v3, v4, v5, v6⟩, hlt6⟩ := box76 hn6
        have hbel := h6.below
        clear cj x0 x1 x2 x3 y0 y1 y2 y3 hn6 h6
        by_cases heJ : rJ.e = 0
        · have hans := Lib.hid (a2 heJ)
          rw [heJ] at z2
          have hpz := p6.keep (W1 := set7 w6 w.heap.size (.slice mJ.tp mJ.types.length mJ.tc) (.slice mJ.fp mJ.funcs.length mJ.fc) (.slice mJ.mp mJ.memory.length mJ.mc) (.slice mJ.gp mJ.globals.length mJ.gc) (.slice mJ.ep mJ.exports.length mJ.ec) (.int .i64 mJ.start) (.slice mJ.dp mJ.data.length mJ.dc)) (fun k hk _ => set7_other _ _ _ _ _ _ _ _ _ (by omega))
          have HMA := Lib.hid hpz.modAt
          have HBL := Lib.hid (set7_below hbel (Nat.le_refl _) (.slice mJ.tp mJ.types.length mJ.tc) (.slice mJ.fp mJ.funcs.length mJ.fc) (.slice mJ.mp mJ.memory.length mJ.mc) (.slice mJ.gp mJ.globals.length mJ.gc) (.slice mJ.ep mJ.exports.length mJ.ec) (.int .i64 mJ.start) (.slice mJ.dp mJ.data.length mJ.dc))
          clear a1 a2 p6 heJ hbel hpz
          go_wp2
          refine bodyPost_ret (v := .tuple #[mJ.val, .int .i64 0]) ?_ rfl ?_
          · rw [results_cell_tmp6 rfl]; simp [MoV.val]; go_simp
          · exact ⟨mJ, by rw [hans.out], by rw [hans.out], HMA.out, HBL.out⟩
        · have hans := Lib.hid (a1 heJ)
          have hqJ : (rJ.e != 0) = true := by simpa using heJ
          have HBL := Lib.hid (set7_below hbel (Nat.le_refl _) (.slice none 0 0) (.slice none 0 0) (.slice none 0 0) (.slice none 0 0) (.slice none 0 0) (.int .i64 0) (.slice none 0 0)).drew
          clear a1 a2 p6 heJ hbel
          go_wp2
          go_region
          all_goals
            go_wp2
            refine bodyPost_ret (v := .tuple #[zeroM.val, .int .i64 rJ.e]) ?_ rfl ?_
            · rw [results_cell_tmp6 rfl]; simp [zeroM, MoV.val]; go_simp
            · exact ⟨zeroM, by rw [hans.out], by rw [hans.out]; rfl, zero_at _, HBL.out⟩
    · have hdone := hG.out.done (.inr he)
      have hqe : (rk.e == 0) = false := beq_eq_false_iff_ne.2 he
      clear hgk he
      have cj := join_ends hs HH.out hr hp hwb hBw hMw hn hdone
      clear hdone hr hp hn hG hK
      go_wp2_with fail
      refine cj.mono ?_
      rintro e w6 ⟨rfl, mJ, rJ, h6, p6, hn6, a1, a2⟩
      obtain ⟨z0, z1, z2, z3, f0, f1, f2, f3⟩ := h6.reads
      obtain ⟨q4, q5, q6, q7, q8, q9, q10⟩ := restOf_mod _ _ _ h6
      obtain ⟨⟨b0, b1, b2, b3, b4, b5, b6⟩, ⟨v0, v1, v2, v3, v4, v5, v6⟩, hlt6⟩ := box76 hn6
      have hbel := h6.below
      clear cj x0 x1 x2 x3 y0 y1 y2 y3 hn6 h6
      by_cases heJ : rJ.e = 0
      · have hans := Lib.hid (a2 heJ)
        rw [heJ] at z2
        have hpz := p6.keep (W1 := set7 w6 w.heap.size (.slice mJ.tp mJ.types.length mJ.tc) (.slice mJ.fp mJ.funcs.length mJ.fc) (.slice mJ.mp mJ.memory.length mJ.mc) (.slice mJ.gp mJ.globals.length mJ.gc) (.slice mJ.ep mJ.exports.length mJ.ec) (.int .i64 mJ.start) (.slice mJ.dp mJ.data.length mJ.dc)) (fun k hk _ => set7_other _ _ _ _ _ _ _ _ _ (by omega))
        have HMA := Lib.hid hpz.modAt
        have HBL := Lib.hid (set7_below hbel (Nat.le_refl _) (.slice mJ.tp mJ.types.length mJ.tc) (.slice mJ.fp mJ.funcs.length mJ.fc) (.slice mJ.mp mJ.memory.length mJ.mc) (.slice mJ.gp mJ.globals.length mJ.gc) (.slice mJ.ep mJ.exports.length mJ.ec) (.int .i64 mJ.start) (.slice mJ.dp mJ.data.length mJ.dc))
        clear a1 a2 p6 heJ hbel hpz
        go_wp2
        refine bodyPost_ret (v := .tuple #[mJ.val, .int .i64 0]) ?_ rfl ?_
        · rw [results_cell_tmp6 rfl]; simp [MoV.val]; go_simp
        · exact ⟨mJ, by rw [hans.out], by rw [hans.out], HMA.out, HBL.out⟩
      · have hans := Lib.hid (a1 heJ)
        have hqJ : (rJ.e != 0) = true := by simpa using heJ
        have HBL := Lib.hid (set7_below hbel (Nat.le_refl _) (.slice none 0 0) (.slice none 0 0) (.slice none 0 0) (.slice none 0 0) (.slice none 0 0) (.int .i64 0) (.slice none 0 0)).drew
        clear a1 a2 p6 heJ hbel
        go_wp2
        go_region
        all_goals
          go_wp2
          refine bodyPost_ret (v := .tuple #[zeroM.val, .int .i64 rJ.e]) ?_ rfl ?_
          · rw [results_cell_tmp6 rfl]; simp [zeroM, MoV.val]; go_simp
          · exact ⟨zeroM, by rw [hans.out], by rw [hans.out]; rfl, zero_at _, HBL.out⟩
theorem dec_mod (s : ByteArray) (w : World) (hLaid : Laid w) : Calls Tryz.prog 19 #[.string s] w (AnsMod s w) := by
  by_cases h1 : s.size ≤ 1048576
  · by_cases h2 : s.data.toList.take 8 = head6
    · exact mod_reads s w hLaid h1 h2
    · exact mod_head s w h1 h2
  · exact mod_long s w (by omega)
theorem belt6 {B : Nat} {w W W' : World} (h : Below B w W) (hB : B ≤ w.heap.size) (h2 : Below W.heap.size W W') : Below B w W' := h.trans (h2.mono (Nat.le_trans hB h.size))
theorem bare_none {m : MoV} {n : Int} (h : m.bare = ⟨none, 0, [], none, 0, [], none, 0, [], none, 0, [], none, 0, [], n, none, 0, []⟩) : ∃ tp tc fp fc mp mc gp gc ep ec dp dc, m = ⟨tp, tc, [], fp, fc, [], mp, mc, [], gp, gc, [], ep, ec, [], n, dp, dc, []⟩ := by
  obtain ⟨tp, tc, types, fp, fc, funcs, mp, mc, memory, gp, gc, globals, ep, ec, exports, start, dp, dc, data⟩ := m
  simp only [MoV.bare, MoV.mk.injEq, List.map_eq_nil_iff, true_and] at h
  obtain ⟨rfl, rfl, rfl, rfl, rfl, rfl, rfl⟩ := h
  exact ⟨tp, tc, fp, fc, mp, mc, gp, gc, ep, ec, dp, dc, rfl⟩
theorem examples6 (w : World) (hLaid : Laid w) : Calls Tryz.prog 15 #[] w fun e w' => e = .returned (.bool true) ∧ Below w.heap.size w w' := by
  have c1 : ∀ W, Laid W → Calls Tryz.prog 19 #[.string ⟨#[0, 97, 115, 109, 1, 0, 0, 0]⟩] W fun e w' => ∃ tp tc fp fc mp mc gp gc ep ec dp dc, e = .returned (.tuple #[.agg #[.slice tp 0 tc, .slice fp 0 fc, .slice mp 0 mc, .slice gp 0 gc, .slice ep 0 ec, .int .i64 (-1), .slice dp 0 dc], .int .i64 0]) ∧ Below W.heap.size W w' := fun W hW => by
    refine (dec_mod ⟨#[0, 97, 115, 109, 1, 0, 0, 0]⟩ W hW).mono ?_
    rintro e w' ⟨m, rfl, hb, _, hbel⟩
    have h2 : (modAns (⟨#[0, 97, 115, 109, 1, 0, 0, 0]⟩ : ByteArray).data.toList) = (⟨none, 0, [], none, 0, [], none, 0, [], none, 0, [], none, 0, [], -1, none, 0, []⟩, 0) := rfl
    rw [h2] at hb ⊢
    obtain ⟨tp, tc, fp, fc, mp, mc, gp, gc, ep, ec, dp, dc, rfl⟩ := bare_none hb
    exact ⟨tp, tc, fp, fc, mp, mc, gp, gc, ep, ec, dp, dc, rfl, hbel⟩
  have c2 : ∀ W, Laid W → Calls Tryz.prog 19 #[.string ⟨#[]⟩] W fun e w' => ∃ tp tc fp fc mp mc gp gc ep ec dp dc, e = .returned (.tuple #[.agg #[.slice tp 0 tc, .slice fp 0 fc, .slice mp 0 mc, .slice gp 0 gc, .slice ep 0 ec, .int .i64 0, .slice dp 0 dc], .int .i64 2]) ∧ Below W.heap.size W w' := fun W hW => by
    refine (dec_mod ⟨#[]⟩ W hW).mono ?_
    rintro e w' ⟨m, rfl, hb, _, hbel⟩
    have h2 : (modAns (⟨#[]⟩ : ByteArray).data.toList) = (zeroM, 2) := rfl
    rw [h2] at hb ⊢
    obtain ⟨tp, tc, fp, fc, mp, mc, gp, gc, ep, ec, dp, dc, rfl⟩ := bare_none hb
    exact ⟨tp, tc, fp, fc, mp, mc, gp, gc, ep, ec, dp, dc, rfl, hbel⟩
  have c3 : ∀ W, Laid W → Calls Tryz.prog 22 #[.string ⟨#[65, 127]⟩, .int .i64 0] W fun e w' => ∃ lp lc, e = .returned (.tuple #[.agg #[.int .i64 65, .int .i64 (-1), .int .i64 0, .slice lp 0 lc], .int .i64 2, .int .i64 0]) ∧ Below W.heap.size W w' := fun W hW => by
    refine (dec_instr ⟨#[65, 127]⟩ 0 (by decide) W hW).mono ?_
    rintro e w' ⟨x, rfl, hb, _, hbel⟩
    have h2 : (insAns (⟨#[65, 127]⟩ : ByteArray).data.toList 0) = (bareI 65 (-1) 0 [], 2, 0) := by kernel_rfl
    rw [h2] at hb ⊢
    obtain ⟨op, a, b, lp, lc, ls⟩ := x
    simp only [InsV.bare, bareI, InsV.mk.injEq, true_and] at hb
    obtain ⟨rfl, rfl, rfl, rfl⟩ := hb
    exact ⟨lp, lc, rfl, hbel⟩
  go_enter Tryz.func15, Tryz.ntmps15
  go_wp2_with fail
  refine (c1 _ hLaid).mono ?_
  rintro e w1 ⟨tp, tc, fp, fc, mp, mc, gp, gc, ep, ec, dp, dc, rfl, hb1⟩
  obtain ⟨wa, hwa⟩ : ∃ wa, wa = w1.alloc (.cells #[.slice tp 0 tc, .slice fp 0 fc, .slice mp 0 mc, .slice gp 0 gc, .slice ep 0 ec, .int .i64 (-1), .slice dp 0 dc] 35) := ⟨_, rfl⟩
  have hba : Below w.heap.size w wa := by rw [hwa]; exact hb1.alloc hb1.size _
  have hna : wa.heap[w1.heap.size]? = some (.cells #[.slice tp 0 tc, .slice fp 0 fc, .slice mp 0 mc, .slice gp 0 gc, .slice ep 0 ec, .int .i64 (-1), .slice dp 0 dc] 35) := by rw [hwa]; exact heap_alloc_new w1 _
  have hla : w1.heap.size < wa.heap.size := in_heap6 hna
  have HA := Lib.hid hwa
  have hLa := hLaid.below hba
  clear hwa hb1 c1
  go_wp2_with fail
  rw [← HA.out]
  refine (c3 _ hLa).mono ?_
  rintro e w2 ⟨lp, lc, rfl, hb2⟩
  obtain ⟨wb, hwb⟩ : ∃ wb, wb = w2.alloc (.cells #[.int .i64 65, .int .i64 (-1), .int .i64 0, .slice lp 0 lc] 46) := ⟨_, rfl⟩
  have hs2 := hb2.size
  have hB2 := belt6 hba (Nat.le_refl _) hb2
  have hbb : Below w.heap.size w wb := by rw [hwb]; exact hB2.alloc hB2.size _
  have hnb : wb.heap[w1.heap.size]? = some (.cells #[.slice tp 0 tc, .slice fp 0 fc, .slice mp 0 mc, .slice gp 0 gc, .slice ep 0 ec, .int .i64 (-1), .slice dp 0 dc] 35) := by rw [hwb]; exact (Below.heap_alloc w2 _ _ (by omega)).trans ((hb2.block _ hla).trans hna)
  have hxb : wb.heap[w2.heap.size]? = some (.cells #[.int .i64 65, .int .i64 (-1), .int .i64 0, .slice lp 0 lc] 46) := by rw [hwb]; exact heap_alloc_new w2 _
  have HB := Lib.hid hwb
  have hLb := hLaid.below hbb
  have hlb : w1.heap.size < wb.heap.size := in_heap6 hnb
  have hlb2 : w2.heap.size < wb.heap.size := in_heap6 hxb
  clear hwb hb2 hB2 hba hLa hna c3 HA
  go_wp2_with fail
  rw [← HB.out]
  refine (c2 _ hLb).mono ?_
  rintro e w3 ⟨tp3, tc3, fp3, fc3, mp3, mc3, gp3, gc3, ep3, ec3, dp3, dc3, rfl, hb3⟩
  have hn3 := (hb3.block _ hlb).trans hnb
  have hx3 := (hb3.block _ hlb2).trans hxb
  have hB3 := belt6 hbb (Nat.le_refl _) hb3
  obtain ⟨⟨a0, a1, a2, a3, a4, a5, a6⟩, _, hlt⟩ := box76 hn3
  obtain ⟨k0, k1, k2, k3, b0, b1, b2, b3, _⟩ := box_at hx3
  have hlt2 := in_heap6 hx3
  clear c2 hnb hxb hbb hLb hb3 hn3 hx3 HB
  go_wp2
  go_ret
  exact ⟨rfl, hB3.alloc hB3.size _⟩
end Go.Proofs.YthfipknfdnfalaaGreatDoor
