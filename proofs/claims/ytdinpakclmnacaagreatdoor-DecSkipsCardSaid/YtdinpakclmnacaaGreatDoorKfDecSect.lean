/-
  Facts and contracts that the proof calls.
-/
import Derived.Test.YtdinpakclmnacaaGreatDoorKfDecBodyM
import Derived.Laws.EntriesVeiled
namespace Go.Proofs.YtdinpakclmnacaaGreatDoor
set_option maxRecDepth 100000
set_option maxHeartbeats 16000000
open Go.RowKit
set_option linter.unusedVariables false
def IsPart (w0 : World) (n : Int) (k : Nat) : Prop :=
  (∀ args w, (callFunc k args).run Tryz.prog w = .ok (.enter k args) w) ∧
  ∀ (base B M : Nat) (T : TypeId) (m : MoV) (last : Int) (cv : Value) (codes : List FnV) (r : RV) (w : World), RdAt w0 B M T (restOf m last cv) r w → PtsMem base B M m cv codes w → base ≤ w.heap.size → r.s.size ≤ 1048576 →
    Calls Tryz.prog k #[.pointer (some ⟨B, 0, none⟩)] w (DidPart w0 base B M T last r w (pPart n (ptsOf m last codes)))
theorem part_of {w0 : World} (hLaid : Laid w0) {n : Int} (h0 : 0 ≤ n) (h1 : n ≤ 11) (h2 : ¬ (n = 2 ∨ n = 4 ∨ n = 9)) : ∃ k, secFn n = (.func (.func k) #[] #[], true) ∧ IsPart w0 n k := by
  rcases (show n = 0 ∨ n = 1 ∨ n = 3 ∨ n = 5 ∨ n = 6 ∨ n = 7 ∨ n = 8 ∨ n = 10 ∨ n = 11 by omega) with rfl | rfl | rfl | rfl | rfl | rfl | rfl | rfl | rfl
  · exact ⟨_, rfl, enters_of Tryz.func105 (by kernel_rfl) rfl, fun base B M T m last cv codes r w h hp hb hs => passOver_part hLaid h hp⟩
  · exact ⟨_, rfl, enters_of Tryz.func106 (by kernel_rfl) rfl, fun base B M T m last cv codes r w h hp hb hs => readTypes_part hLaid h hp hb⟩
  · exact ⟨_, rfl, enters_of Tryz.func107 (by kernel_rfl) rfl, fun base B M T m last cv codes r w h hp hb hs => readFuncs_part hLaid h hp hb hs⟩
  · exact ⟨_, rfl, enters_of Tryz.func108 (by kernel_rfl) rfl, fun base B M T m last cv codes r w h hp hb hs => readMemory_part hLaid h hp hb⟩
  · exact ⟨_, rfl, enters_of Tryz.func109 (by kernel_rfl) rfl, fun base B M T m last cv codes r w h hp hb hs => readGlobals_part hLaid h hp hb⟩
  · exact ⟨_, rfl, enters_of Tryz.func110 (by kernel_rfl) rfl, fun base B M T m last cv codes r w h hp hb hs => readExports_part hLaid h hp hb⟩
  · exact ⟨_, rfl, enters_of Tryz.func111 (by kernel_rfl) rfl, fun base B M T m last cv codes r w h hp hb hs => readStart_part h hp⟩
  · exact ⟨_, rfl, enters_of Tryz.func112 (by kernel_rfl) rfl, fun base B M T m last cv codes r w h hp hb hs => readCodes_part hLaid h hp hb hs⟩
  · exact ⟨_, rfl, enters_of Tryz.func113 (by kernel_rfl) rfl, fun base B M T m last cv codes r w h hp hb hs => readData_part hLaid h hp hb⟩
theorem sec_none {n : Int} (h : 11 < n) : secFn n = (.nilFunc, false) := by
  unfold secFn
  rw [if_neg (by omega), if_neg (by omega), if_neg (by omega), if_neg (by omega), if_neg (by omega), if_neg (by omega), if_neg (by omega), if_neg (by omega), if_neg (by omega)]
def InSect (base B M : Nat) (last : Int) (rest' : List Value) (W W1 : World) (x : Pts) : Prop :=
  ∃ (m' : MoV) (cv' : Value) (codes' : List FnV), rest' = restOf m' last cv' ∧ x = ptsOf m' last codes' ∧ PtsMem base B M m' cv' codes' W1
theorem enters_sect1 : ∀ args w, (callFunc 117 args).run Tryz.prog w = .ok (.enter 117 args) w := enters_of Tryz.func117 (by kernel_rfl) rfl
theorem sect_in {w0 : World} {n : Int} {k : Nat} (hk : IsPart w0 n k) {base B M rb pb : Nat} {T : TypeId} {m : MoV} {last : Int} {cv : Value} {codes : List FnV} {w : World} (hp : PtsMem base B M m cv codes w) (hb : base ≤ w.heap.size)
    (hr : w.heap[rb]? = some (.cells #[.func (.func k) #[] #[]] 164)) (hq : w.heap[pb]? = some (.cells #[.pointer (some ⟨B, 0, none⟩)] 165)) (n1 : rb ≠ B) (n2 : rb ≠ M) (n3 : pb ≠ B) (n4 : pb ≠ M) (N : Nat) (hN : N ≤ 1048576) :
    Within w0 B M B T (restOf m last cv) w N 117 #[.pointer (some ⟨rb, 0, none⟩), .pointer (some ⟨pb, 0, none⟩)] (pPart n (ptsOf m last codes)) (InSect base B M last) := by
  intro r2 W h hm hsz
  have hrW := (hm.block _ (in_heap6 hr) n1 n2).trans hr
  have hqW := (hm.block _ (in_heap6 hq) n3 n4).trans hq
  have x0 : W.cell? ⟨rb, 0, none⟩ = some (.func (.func k) #[] #[]) := by simp [World.cell?, hrW]
  have x1 : W.cell? ⟨pb, 0, none⟩ = some (.pointer (some ⟨B, 0, none⟩)) := by simp [World.cell?, hqW]
  have ek := hk.1
  have cq := hk.2 base B M T m last cv codes r2 W h (hp.mov hm) (Nat.le_trans hb hm.size) (by omega)
  clear hr hq hrW hqW h hp
  go_enter Tryz.func117, Tryz.ntmps117
  go_wp2_with fail
  refine cq.mono ?_
  rintro e w1 ⟨m', cv', codes', r', rfl, g1, h1, m1, hp1⟩
  have HG := Lib.hid g1
  clear cq g1
  go_wp2
  go_end0
  exact ⟨_, r', _, rfl, HG.out, h1, m1.on B, m', cv', codes', rfl, rfl, hp1⟩
def DidSect (w0 : World) (base B M : Nat) (T : TypeId) (r : RV) (w : World) (P : Pr Pts) (e : Ending) (w' : World) : Prop :=
  ∃ (m' : MoV) (last' : Int) (cv' : Value) (codes' : List FnV) (r' : RV), e = .returned (.tuple #[]) ∧ Got P r r' (ptsOf m' last' codes') ∧ RdAt w0 B M T (restOf m' last' cv') r' w' ∧ Mov B M w w' ∧ PtsMem base B M m' cv' codes' w' ∧ 0 ≤ last' ∧ last' ≤ 11
theorem sect_reads {w0 : World} (hLaid : Laid w0) {base B M b : Nat} {T : TypeId} {m : MoV} {last : Int} {cv : Value} {codes : List FnV} {r : RV} {w : World} (h : RdAt w0 B M T (restOf m last cv) r w) (hp : PtsMem base B M m cv codes w) (hb : base ≤ w.heap.size) (hs : r.s.size ≤ 1048576)
    (hK : Known w b) (b1 : b ≠ B) (b2 : b ≠ M) (hl : 0 ≤ last ∧ last ≤ 11) :
    Calls Tryz.prog 40 #[.pointer (some ⟨B, 0, none⟩), .map (some b)] w (DidSect w0 base B M T r w (pSect (ptsOf m last codes))) := by
  obtain ⟨n, r1, n0, n1, g1, c1⟩ := one_det w0 r
  have hlt := h.lt
  have hw0 := h.below.size
  have hbl := ownsMap_in hK
  obtain ⟨wa, hwa⟩ : ∃ wa, wa = w.alloc (.cells #[.pointer (some ⟨B, 0, none⟩)] 165) := ⟨_, rfl⟩
  have hqa : wa.heap[w.heap.size]? = some (.cells #[.pointer (some ⟨B, 0, none⟩)] 165) := by rw [hwa]; exact heap_alloc_new w _
  have ma : Mov B M w wa := by rw [hwa]; exact (Mov.refl B M w).alloc _
  have ha : RdAt w0 B M T (restOf m last cv) r wa := by rw [hwa]; exact h.alloc _
  have sa : wa.heap.size = w.heap.size + 1 := by rw [hwa]; simp
  have xa : wa.cell? ⟨w.heap.size, 0, none⟩ = some (.pointer (some ⟨B, 0, none⟩)) := by simp [World.cell?, hqa]
  have cq := c1 B M T _ wa ha
  have hKa : Known wa b := hK.same (ma.block b hbl b1 b2)
  have hbla : b < wa.heap.size := ownsMap_in hKa
  have p1 : w.heap.size ≠ B := by omega
  have p2 : w.heap.size ≠ M := by omega
  have hpa := hp.mov ma
  have HA := Lib.hid hwa
  have HSA := Lib.hid sa
  obtain ⟨fv, fo, hfv⟩ : ∃ fv fo, secFn n = (fv, fo) := ⟨_, _, rfl⟩
  have hlook : ∀ w1, Mov B M wa w1 → (Instr.lookup 102 (.map (some b)) (.int .i64 n) true).run Tryz.prog w1 = .ok (.tuple #[fv, .bool fo]) w1 := fun w1 m1 => by
    have := known_look (hKa.same (m1.block b hbla b1 b2)) n ⟨n0, n1⟩
    rw [hfv] at this
    exact this
  have HFV := Lib.hid hfv
  clear hfv
  clear c1 h hwa hp sa
  have hpost : ∀ (r2 : RV) (w2 : World), Got (pSect (ptsOf m last codes)) r r2 (ptsOf m last codes) → RdAt w0 B M T (restOf m last cv) r2 w2 → Mov B M wa w2 → DidSect w0 base B M T r w (pSect (ptsOf m last codes)) (.returned (.tuple #[])) w2 := fun r2 w2 hg hr hm =>
    ⟨m, last, cv, codes, r2, rfl, hg, hr, ma.trans hm, hpa.mov hm, hl.1, hl.2⟩
  by_cases hA : n = 2 ∨ n = 4 ∨ n = 9
  · have hgot : Got (pSect (ptsOf m last codes)) r (r1.bad 3) (ptsOf m last codes) := by
      unfold pSect
      exact g1.and (by rw [if_pos hA]; exact Got.no (by decide) _ _)
    have HG := Lib.hid hgot
    clear hgot g1
    rcases hA with rfl | rfl | rfl
    all_goals (
      obtain ⟨rfl, rfl⟩ := Prod.mk.inj ((show secFn _ = (Value.nilFunc, false) from rfl).symm.trans HFV.out)
      go_enter Tryz.func40, Tryz.ntmps40
      go_wp2_with fail
      rw [← HA.out]
      refine cq.mono ?_
      rintro e w1 ⟨rfl, h1, m1⟩
      have hq1 := (m1.block _ (in_heap6 hqa) p1 p2).trans hqa
      have x1 : w1.cell? ⟨w.heap.size, 0, none⟩ = some (.pointer (some ⟨B, 0, none⟩)) := by simp [World.cell?, hq1]
      have hlk := hlook w1 m1
      have hq2 := fun o => World.cell?_alloc_lt w1 o ⟨w.heap.size, 0, none⟩ (in_heap6 hq1)
      rw [x1] at hq2
      have h2 := h1.alloc (.cells #[.nilFunc] 164)
      have m2 := m1.alloc (.cells #[.nilFunc] 164)
      have cf := fail_of h2 3
      clear cq hlook
      go_wp2_with fail
      refine cf.mono ?_
      rintro e w3 ⟨rfl, h3, m3⟩
      have hd := hpost _ w3 HG.out h3 (m2.trans m3)
      have HD := Lib.hid hd
      clear cf hd h3 m3 h2 m2 h1 m1 hpost hpa
      go_wp2
      go_end0
      exact HD.out)
  have q2 : (n == 2) = false := beq_eq_false_iff_ne.2 (by omega)
  have q4 : (n == 4) = false := beq_eq_false_iff_ne.2 (by omega)
  have q9 : (n == 9) = false := beq_eq_false_iff_ne.2 (by omega)
  by_cases hB : 11 < n
  · have hgot : Got (pSect (ptsOf m last codes)) r (r1.bad 2) (ptsOf m last codes) := by
      unfold pSect
      exact g1.and (by rw [if_neg hA, if_pos (.inl hB)]; exact Got.no (by decide) _ _)
    have HG := Lib.hid hgot
    have hz := HFV.out
    rw [sec_none hB] at hz
    obtain ⟨rfl, rfl⟩ := Prod.mk.inj hz
    clear hgot g1 hz
    go_enter Tryz.func40, Tryz.ntmps40
    go_wp2_with fail
    rw [← HA.out]
    refine cq.mono ?_
    rintro e w1 ⟨rfl, h1, m1⟩
    have hq1 := (m1.block _ (in_heap6 hqa) p1 p2).trans hqa
    have x1 : w1.cell? ⟨w.heap.size, 0, none⟩ = some (.pointer (some ⟨B, 0, none⟩)) := by simp [World.cell?, hq1]
    have hlk := hlook w1 m1
    have hq2 := fun o => World.cell?_alloc_lt w1 o ⟨w.heap.size, 0, none⟩ (in_heap6 hq1)
    rw [x1] at hq2
    have h2 := h1.alloc (.cells #[.nilFunc] 164)
    have m2 := m1.alloc (.cells #[.nilFunc] 164)
    have cf := fail_of h2 2
    clear cq hlook
    go_wp2_with fail
    refine cf.mono ?_
    rintro e w3 ⟨rfl, h3, m3⟩
    have hd := hpost _ w3 HG.out h3 (m2.trans m3)
    have HD := Lib.hid hd
    clear cf hd h3 m3 h2 m2 h1 m1 hpost hpa
    go_wp2
    go_end0
    exact HD.out
  obtain ⟨k, hk, hpart⟩ := part_of hLaid n0 (by omega) hA
  rw [HFV.out] at hk
  obtain ⟨rfl, rfl⟩ := Prod.mk.inj hk
  by_cases hC : n ≠ 0 ∧ n ≤ last
  · have hgot : Got (pSect (ptsOf m last codes)) r (r1.bad 2) (ptsOf m last codes) := by
      unfold pSect
      exact g1.and (by rw [if_neg hA, if_pos (.inr hC)]; exact Got.no (by decide) _ _)
    have HG := Lib.hid hgot
    obtain ⟨hC1, hC2⟩ := hC
    have qz : (n != 0) = true := by simpa using hC1
    clear hgot g1 hk
    go_enter Tryz.func40, Tryz.ntmps40
    go_wp2_with fail
    rw [← HA.out]
    refine cq.mono ?_
    rintro e w1 ⟨rfl, h1, m1⟩
    have hq1 := (m1.block _ (in_heap6 hqa) p1 p2).trans hqa
    have x1 : w1.cell? ⟨w.heap.size, 0, none⟩ = some (.pointer (some ⟨B, 0, none⟩)) := by simp [World.cell?, hq1]
    have hlk := hlook w1 m1
    have hq2 := fun o => World.cell?_alloc_lt w1 o ⟨w.heap.size, 0, none⟩ (in_heap6 hq1)
    rw [x1] at hq2
    have h2 := h1.alloc (.cells #[.func (.func k) #[] #[]] 164)
    have m2 := m1.alloc (.cells #[.func (.func k) #[] #[]] 164)
    have hcl := fun o => ((restOf_cells m last cv (h1.alloc o)).1).2.1
    have cf := fail_of h2 2
    clear cq hlook
    go_wp2_with fail
    refine cf.mono ?_
    rintro e w3 ⟨rfl, h3, m3⟩
    have hd := hpost _ w3 HG.out h3 (m2.trans m3)
    have HD := Lib.hid hd
    clear cf hd h3 m3 h2 m2 h1 m1 hpost hpa
    go_wp2
    go_end0
    exact HD.out
  · have hgot : ∀ r2 x, Got (pWhole (pPart n (ptsOf m (max last n) codes))) r1 r2 x → Got (pSect (ptsOf m last codes)) r r2 x := fun r2 x hg => by
      unfold pSect
      exact g1.and (by rw [if_neg hA, if_neg (by intro h; rcases h with h | h; exact hB h; exact hC h)]; exact hg)
    have HG := Lib.hid hgot
    have hs1 : r1.s.size ≤ 1048576 := by rw [g1.1]; exact hs
    clear hgot g1 hk
    by_cases hz : n = 0
    · subst hz
      go_enter Tryz.func40, Tryz.ntmps40
      go_wp2_with fail
      rw [← HA.out]
      refine cq.mono ?_
      rintro e w1 ⟨rfl, h1, m1⟩
      have hq1 := (m1.block _ (in_heap6 hqa) p1 p2).trans hqa
      have x1 : w1.cell? ⟨w.heap.size, 0, none⟩ = some (.pointer (some ⟨B, 0, none⟩)) := by simp [World.cell?, hq1]
      have hlk := hlook w1 m1
      have hq2 := fun o => World.cell?_alloc_lt w1 o ⟨w.heap.size, 0, none⟩ (in_heap6 hq1)
      rw [x1] at hq2
      have h2 := h1.alloc (.cells #[.func (.func k) #[] #[]] 164)
      have m2 := m1.alloc (.cells #[.func (.func k) #[] #[]] 164)
      have hr2 := heap_alloc_new w1 (.cells #[.func (.func k) #[] #[]] 164)
      have hq3 := (Below.heap_alloc w1 (.cells #[.func (.func k) #[] #[]] 164) _ (in_heap6 hq1)).trans hq1
      have hf2 := (restOf_cells m last cv h2).2 11
      have hcl := ((restOf_cells m last cv h2).1).2.1
      clear cq hlook
      go_wp2_with fail
      have x2 : (w1.alloc (.cells #[.func (.func k) #[] #[]] 164)).cell? ⟨w.heap.size, 0, none⟩ = some (.pointer (some ⟨B, 0, none⟩)) := hq2 _
      have hw1 : w.heap.size + 1 ≤ w1.heap.size := by have := m1.size; have := HSA.out; omega
      generalize w1.alloc (.cells #[.func (.func k) #[] #[]] 164) = w2 at *
      clear hq2 hlk h1 m1 hq1 x1
      go_region
      have h3 := (h2.setRest (rest' := restOf m (max last 0) cv) 7 (.int .i64 (max last 0)) rfl).drew
      have m3 : Mov B M w2 (w2.setCell ⟨B, 11, none⟩ (.int .i64 (max last 0))).drew := ((Mov.refl B M w2).set 11 (.int .i64 (max last 0))).drew
      generalize (w2.setCell ⟨B, 11, none⟩ (.int .i64 (max last 0))).drew = w3 at *
      have hq4 := (m3.block _ (in_heap6 hq3) p1 p2).trans hq3
      have hr4 := (m3.block _ (in_heap6 hr2) (by omega) (by omega)).trans hr2
      have x4 : w3.cell? ⟨w.heap.size, 0, none⟩ = some (.pointer (some ⟨B, 0, none⟩)) := by simp [World.cell?, hq4]
      have mm : Mov B M w w3 := (ma.trans m2).trans m3
      have hp3 := (hpa.mov m2).mov m3
      have cw := whole_of h3 117 #[.pointer (some ⟨w1.heap.size, 0, none⟩), .pointer (some ⟨w.heap.size, 0, none⟩)] enters_sect1 (sect_in hpart hp3 (Nat.le_trans hb mm.size) hr4 hq4 (by omega) (by omega) p1 p2 _ hs1)
      clear x2 hcl hf2 h2 h3 m2 m3 hq3 hr2 hq4 hr4 hp3 hpost hpa
      go_wp2_with fail
      refine cw.mono ?_
      rintro e w5 ⟨x, r', rest', W, W1, rfl, g5, h5, mW, mF, ⟨m', cv', codes', rfl, rfl, hp5⟩, m5⟩
      have hgot := HG.out _ _ g5
      have HGT := Lib.hid hgot
      have mall := ((mm.trans mW).trans mF.off).trans m5
      have hp6 := hp5.mov m5
      clear cw hgot g5 HG
      go_wp2
      go_end0
      exact ⟨m', max last 0, cv', codes', r', rfl, HGT.out, h5, mall, hp6, by omega, by omega⟩
    · have qz : (n != 0) = true := by simpa using hz
      have hlt' : ¬ n ≤ last := fun h => hC ⟨hz, h⟩
      go_enter Tryz.func40, Tryz.ntmps40
      go_wp2_with fail
      rw [← HA.out]
      refine cq.mono ?_
      rintro e w1 ⟨rfl, h1, m1⟩
      have hq1 := (m1.block _ (in_heap6 hqa) p1 p2).trans hqa
      have x1 : w1.cell? ⟨w.heap.size, 0, none⟩ = some (.pointer (some ⟨B, 0, none⟩)) := by simp [World.cell?, hq1]
      have hlk := hlook w1 m1
      have hq2 := fun o => World.cell?_alloc_lt w1 o ⟨w.heap.size, 0, none⟩ (in_heap6 hq1)
      rw [x1] at hq2
      have h2 := h1.alloc (.cells #[.func (.func k) #[] #[]] 164)
      have m2 := m1.alloc (.cells #[.func (.func k) #[] #[]] 164)
      have hr2 := heap_alloc_new w1 (.cells #[.func (.func k) #[] #[]] 164)
      have hq3 := (Below.heap_alloc w1 (.cells #[.func (.func k) #[] #[]] 164) _ (in_heap6 hq1)).trans hq1
      have hf2 := (restOf_cells m last cv h2).2 11
      have hcl := ((restOf_cells m last cv h2).1).2.1
      clear cq hlook
      go_wp2_with fail
      have x2 : (w1.alloc (.cells #[.func (.func k) #[] #[]] 164)).cell? ⟨w.heap.size, 0, none⟩ = some (.pointer (some ⟨B, 0, none⟩)) := hq2 _
      have hw1 : w.heap.size + 1 ≤ w1.heap.size := by have := m1.size; have := HSA.out; omega
      generalize w1.alloc (.cells #[.func (.func k) #[] #[]] 164) = w2 at *
      clear hq2 hlk h1 m1 hq1 x1
      go_region
      have h3 := (h2.setRest (rest' := restOf m (max last n) cv) 7 (.int .i64 (max last n)) rfl).drew
      have m3 : Mov B M w2 (w2.setCell ⟨B, 11, none⟩ (.int .i64 (max last n))).drew := ((Mov.refl B M w2).set 11 (.int .i64 (max last n))).drew
      generalize (w2.setCell ⟨B, 11, none⟩ (.int .i64 (max last n))).drew = w3 at *
      have hq4 := (m3.block _ (in_heap6 hq3) p1 p2).trans hq3
      have hr4 := (m3.block _ (in_heap6 hr2) (by omega) (by omega)).trans hr2
      have x4 : w3.cell? ⟨w.heap.size, 0, none⟩ = some (.pointer (some ⟨B, 0, none⟩)) := by simp [World.cell?, hq4]
      have mm : Mov B M w w3 := (ma.trans m2).trans m3
      have hp3 := (hpa.mov m2).mov m3
      have cw := whole_of h3 117 #[.pointer (some ⟨w1.heap.size, 0, none⟩), .pointer (some ⟨w.heap.size, 0, none⟩)] enters_sect1 (sect_in hpart hp3 (Nat.le_trans hb mm.size) hr4 hq4 (by omega) (by omega) p1 p2 _ hs1)
      clear x2 hcl hf2 h2 h3 m2 m3 hq3 hr2 hq4 hr4 hp3 hpost hpa
      go_wp2_with fail
      refine cw.mono ?_
      rintro e w5 ⟨x, r', rest', W, W1, rfl, g5, h5, mW, mF, ⟨m', cv', codes', rfl, rfl, hp5⟩, m5⟩
      have hgot := HG.out _ _ g5
      have HGT := Lib.hid hgot
      have mall := ((mm.trans mW).trans mF.off).trans m5
      have hp6 := hp5.mov m5
      clear cw hgot g5 HG
      go_wp2
      go_end0
      exact ⟨m', max last n, cv', codes', r', rfl, HGT.out, h5, mall, hp6, by omega, by omega⟩
theorem own_apart {w : World} {b1 b2 e1 e2 s1 s2 n1 n2 g : Nat} {v1 v2 : Value} {x1 x2 : List Value} (h1 : w.ownsRow b1 e1 s1 v1 n1 x1) (h2 : w.ownsRow b2 e2 s2 v2 n2 x2) (he : e1 ≠ e2) (hg : v1.ownBlock = some g) : v2.ownBlock ≠ some g := fun hg2 => by
  rcases h1.2 with ⟨rfl, _⟩ | ⟨g1, c1, cur1, rfl, _, hh1, _⟩
  · cases hg
  rcases h2.2 with ⟨rfl, _⟩ | ⟨g2, c2, cur2, rfl, _, hh2, _⟩
  · cases hg2
  cases hg
  cases hg2
  rw [hh1] at hh2
  cases hh2
  exact he rfl
def joinV (f c : FnV) : FnV := ⟨f.type, c.locals, c.cp, c.cc, c.code⟩
def joinK : List FnV → List FnV → Nat → List FnV
  | [], _, _ => []
  | f :: fs, _, 0 => f :: fs
  | f :: fs, [], _ + 1 => f :: fs
  | f :: fs, c :: cs, k + 1 => joinV f c :: joinK fs cs k
theorem joinK_len : ∀ (fs cs : List FnV) (k : Nat), (joinK fs cs k).length = fs.length
  | [], _, _ => by simp [joinK]
  | f :: fs, _, 0 => by simp [joinK]
  | f :: fs, [], _ + 1 => by simp [joinK]
  | f :: fs, c :: cs, k + 1 => by simp [joinK, joinK_len fs cs k]
theorem joinK_zero : ∀ (fs cs : List FnV), joinK fs cs 0 = fs
  | [], _ => by simp [joinK]
  | f :: fs, _ => by simp [joinK]
theorem joinK_all : ∀ (fs cs : List FnV), fs.length = cs.length → joinK fs cs fs.length = List.zipWith joinV fs cs
  | [], cs, h => by simp [joinK]
  | f :: fs, [], h => by simp at h
  | f :: fs, c :: cs, h => by simp only [List.length_cons, joinK, List.zipWith_cons_cons]; rw [joinK_all fs cs (by simpa using h)]
theorem joinK_succ : ∀ (fs cs : List FnV) (k : Nat) (h1 : k < (joinK fs cs k).length) (h2 : k < cs.length), joinK fs cs (k + 1) = (joinK fs cs k).set k (joinV ((joinK fs cs k)[k]) cs[k])
  | [], cs, k, h1, h2 => by simp [joinK] at h1
  | f :: fs, [], k, h1, h2 => by simp at h2
  | f :: fs, c :: cs, 0, h1, h2 => by simp [joinK, joinK_zero]
  | f :: fs, c :: cs, k + 1, h1, h2 => by
    simp only [joinK, List.set_cons_succ, List.getElem_cons_succ]
    rw [joinK_succ fs cs k (by simpa [joinK] using h1) (by simpa using h2)]
theorem rows_set (l : List FnV) (k : Nat) (hk : k < l.length) (c : FnV) : (((l.flatMap FnV.row).set (k * 3 + 1) (.string c.locals)).set (k * 3 + 2) (.slice c.cp c.code.length c.cc)) = (l.set k (joinV l[k] c)).flatMap FnV.row := by
  induction l generalizing k with
  | nil => simp at hk
  | cons f l ih =>
    cases k with
    | zero => simp [FnV.row, joinV]
    | succ k =>
      have := ih k (by simpa using hk)
      simp only [List.flatMap_cons, List.set_cons_succ, List.getElem_cons_succ]
      rw [← this]
      have e1 : (k + 1) * 3 + 1 = f.row.length + (k * 3 + 1) := by simp [FnV.row]; omega
      have e2 : (k + 1) * 3 + 2 = f.row.length + (k * 3 + 2) := by simp [FnV.row]; omega
      rw [e1, e2]
      simp
theorem PtsMem.join {base B M : Nat} {m : MoV} {cv : Value} {codes : List FnV} {W : World} (h : PtsMem base B M m cv codes W) (k : Nat) (h1 : k < m.funcs.length) (h2 : k < codes.length) (g : Nat) (hg : m.fp = some ⟨g, 0, none⟩) :
    PtsMem base B M (m.with_funcs m.fp m.fc (m.funcs.set k (joinV m.funcs[k] codes[k]))) cv codes ((W.setCell ⟨g, k * 3 + 1, none⟩ (.string codes[k].locals)).setCell ⟨g, k * 3 + 2, none⟩ (.slice codes[k].cp codes[k].code.length codes[k].cc)) := by
  have hf := h.funcs
  rw [hg] at hf
  obtain ⟨o1, g1⟩ := hf.stored (k * 3 + 1) (.string codes[k].locals)
  obtain ⟨o2, g2⟩ := o1.stored (k * 3 + 2) (.slice codes[k].cp codes[k].code.length codes[k].cc)
  rw [rows_set m.funcs k h1] at o2
  have hgo : (Value.slice m.fp m.funcs.length m.fc).ownBlock = some g := by rw [hg]; rfl
  have hk : ∀ b, b ≠ g → ((W.setCell ⟨g, k * 3 + 1, none⟩ (.string codes[k].locals)).setCell ⟨g, k * 3 + 2, none⟩ (.slice codes[k].cp codes[k].code.length codes[k].cc)).heap[b]? = W.heap[b]? := fun b hb => (Below.heap_setCell _ _ _ _ hb).trans (Below.heap_setCell _ _ _ _ hb)
  have hc : ∀ f, FnOwn base W f → FnOwn base ((W.setCell ⟨g, k * 3 + 1, none⟩ (.string codes[k].locals)).setCell ⟨g, k * 3 + 2, none⟩ (.slice codes[k].cp codes[k].code.length codes[k].cc)) f := fun f hfo => hfo.same fun b hb => hk b (fun e => by
    subst e
    rcases hb with hb | ⟨x, hx, hb⟩
    · exact own_apart hfo.own h.funcs (by decide) hb hgo
    · exact own_apart (hfo.ins x hx).1 h.funcs (by decide) hb hgo)
  exact {
    hB := h.hB
    hM := h.hM
    types := own_same h.types fun b hb => hk b (fun e => by subst e; exact own_apart h.types h.funcs (by decide) hb hgo)
    typesIn := h.typesIn
    typesFew := h.typesFew
    memory := own_same h.memory fun b hb => hk b (fun e => by subst e; exact own_apart h.memory h.funcs (by decide) hb hgo)
    memoryIn := h.memoryIn
    memoryFew := h.memoryFew
    globals := own_same h.globals fun b hb => hk b (fun e => by subst e; exact own_apart h.globals h.funcs (by decide) hb hgo)
    globalsIn := h.globalsIn
    globalsFew := h.globalsFew
    exports := own_same h.exports fun b hb => hk b (fun e => by subst e; exact own_apart h.exports h.funcs (by decide) hb hgo)
    exportsIn := h.exportsIn
    exportsFew := h.exportsFew
    data := own_same h.data fun b hb => hk b (fun e => by subst e; exact own_apart h.data h.funcs (by decide) hb hgo)
    dataIn := h.dataIn
    dataFew := h.dataFew
    funcs := by
      show World.ownsRow _ base _ 3 (.slice m.fp (m.funcs.set k _).length m.fc) (m.funcs.set k _).length _
      rw [List.length_set, hg]
      exact o2
    funcsIn := fun f hf => by
      have hf' : f ∈ m.funcs.set k (joinV m.funcs[k] codes[k]) := hf
      rcases List.mem_or_eq_of_mem_set hf' with h3 | h3
      · exact hc f (h.funcsIn f h3)
      · have a := h.funcsIn m.funcs[k] (List.getElem_mem h1)
        have b := hc _ (h.codesIn codes[k] (List.getElem_mem h2))
        rw [h3]
        exact ⟨b.own, b.ins, b.len, b.loc, a.type⟩
    funcsFew := by
      show (m.funcs.set k _).length ≤ 4096
      rw [List.length_set]
      exact h.funcsFew
    startIn := h.startIn
    rows := own_same h.rows fun b hb => hk b (fun e => by subst e; exact (h.far b hgo).1 hb)
    codesIn := fun f hf => hc f (h.codesIn f hf)
    codesFew := h.codesFew
    far := fun b hb => h.far b (by rw [← hb]; show (Value.slice m.fp m.funcs.length m.fc).ownBlock = (Value.slice m.fp (m.funcs.set k _).length m.fc).ownBlock; rw [List.length_set]) }
def DidJoin (w0 : World) (base B M : Nat) (T : TypeId) (m : MoV) (last : Int) (cv : Value) (codes : List FnV) (r : RV) (w : World) (e : Ending) (w' : World) : Prop :=
  e = .returned (.tuple #[]) ∧ (∀ k, k < base → k ≠ B → k ≠ M → w'.heap[k]? = w.heap[k]?) ∧ w.heap.size ≤ w'.heap.size ∧ RdAt w0 B M T (restOf m last cv) r w' ∧ PtsMem base B M m cv codes w'
theorem rest_same (m : MoV) (last : Int) (cv : Value) (l : List FnV) (h : l.length = m.funcs.length) : restOf (m.with_funcs m.fp m.fc l) last cv = restOf m last cv := by
  unfold restOf MoV.with_funcs MoV.cells
  rw [h]
theorem flat_at6 {α : Type} {c : Nat} {row : α → List Value} (i : Nat) (hi : i < c) : ∀ (l : List α) (_ : ∀ x ∈ l, (row x).length = c) (j : Nat) (hj : j < l.length), (l.flatMap row)[j * c + i]? = (row l[j])[i]? := by
  intro l
  induction l with
  | nil => intro _ j hj; simp at hj
  | cons x l ih =>
    intro hc j hj
    have hx := hc x (by simp)
    cases j with
    | zero => simp only [List.flatMap_cons, List.getElem_cons_zero, Nat.zero_mul, Nat.zero_add]; rw [List.getElem?_append_left (by omega)]
    | succ j =>
      simp only [List.flatMap_cons, List.getElem_cons_succ]
      rw [List.getElem?_append_right (by rw [hx, Nat.succ_mul]; omega), hx, show (j + 1) * c + i - c = j * c + i by rw [Nat.succ_mul]; omega]
      exact ih (fun y hy => hc y (by simp [hy])) j (by simpa using hj)
theorem own_some6 {w : World} {base e sz n c : Nat} {p : Option Addr} {xs : List Value} (h : w.ownsRow base e sz (.slice p n c) n xs) (hn : 0 < n) : ∃ g, p = some ⟨g, 0, none⟩ ∧ base ≤ g ∧ g < w.heap.size := by
  rcases h.2 with ⟨h0, h1⟩ | ⟨g, cap, cur, hv, hb, hg, _⟩
  · omega
  · cases hv
    exact ⟨g, rfl, hb, in_heap6 hg⟩
theorem fn_cells {w : World} {base g c n : Nat} {l : List FnV} (h : w.ownsRow base 72 3 (.slice (some ⟨g, 0, none⟩) n c) n (l.flatMap FnV.row)) (hn : l.length = n) (k : Nat) (hk : k < l.length) :
    (w.cell? ⟨g, k * 3, none⟩ = some (.int .i64 l[k].type) ∧ w.cell? ⟨g, k * 3 + 1, none⟩ = some (.string l[k].locals) ∧ w.cell? ⟨g, k * 3 + 2, none⟩ = some (.slice l[k].cp l[k].code.length l[k].cc)) ∧ ∀ j, w.frozen? ⟨g, j, none⟩ = false := by
  have f : ∀ i, i < 3 → w.cell? ⟨g, k * 3 + i, none⟩ = (FnV.row l[k])[i]? := fun i hi => by
    rw [h.cellAt (k * 3 + i) (by omega)]
    exact flat_at6 i hi l (fun x _ => rfl) k hk
  exact ⟨⟨f 0 (by decide), f 1 (by decide), f 2 (by decide)⟩, fun j => h.frozenAt j⟩
theorem join_not {w0 : World} {base B M : Nat} {T : TypeId} {m : MoV} {last : Int} {cv : Value} {codes : List FnV} {r : RV} {w : World} (h : RdAt w0 B M T (restOf m last cv) r w) (hp : PtsMem base B M m cv codes w) (hb : base ≤ w.heap.size) (hne : codes.length ≠ m.funcs.length) :
    Calls Tryz.prog 41 #[.pointer (some ⟨B, 0, none⟩)] w (DidJoin w0 base B M T m last cv codes (r.bad 2) w) := by
  obtain ⟨cp, cc, rfl⟩ := own_any6 hp.rows
  obtain ⟨⟨x5, _, x12⟩, hf⟩ := restOf_cells m last _ h
  have qn : ((codes.length : Int) != (m.funcs.length : Int)) = true := by simp; omega
  have hne' : ¬ (codes.length : Int) = (m.funcs.length : Int) := by omega
  have cf := fail_of h.drew 2
  have hd : ∀ w2, RdAt w0 B M T (restOf m last (.slice cp codes.length cc)) (r.bad 2) w2 → Mov B M w.drew w2 → DidJoin w0 base B M T m last (.slice cp codes.length cc) codes (r.bad 2) w (.returned (.tuple #[])) w2 := fun w2 h2 m2 =>
    ⟨rfl, fun k hk h1 h3 => m2.block k (Nat.lt_of_lt_of_le hk hb) h1 h3, m2.size, h2, hp.mov (((Mov.refl B M w).drew).trans m2)⟩
  have HD := Lib.hid hd
  clear h hp hd hne
  go_enter Tryz.func41, Tryz.ntmps41
  go_wp2
  go_region
  go_wp2_with fail
  refine cf.mono ?_
  rintro e w2 ⟨rfl, h2, m2⟩
  have hd2 := Lib.hid (HD.out w2 h2 m2)
  clear cf h2 m2
  go_wp2
  go_end0
  exact hd2.out
theorem join_all {w0 : World} {base B M : Nat} {T : TypeId} {m : MoV} {last : Int} {cv : Value} {codes : List FnV} {r : RV} {w : World} (h : RdAt w0 B M T (restOf m last cv) r w) (hp : PtsMem base B M m cv codes w) (hb : base ≤ w.heap.size) (hw : w0.heap.size ≤ base) (n : Nat) (hn : m.funcs.length = n) (hne : codes.length = n) :
    Calls Tryz.prog 41 #[.pointer (some ⟨B, 0, none⟩)] w (DidJoin w0 base B M T (m.with_funcs m.fp m.fc (joinK m.funcs codes n)) last cv codes r w) := by
  obtain ⟨cp, cc, rfl⟩ := own_any6 hp.rows
  rw [hne] at h hp ⊢
  have hB := hp.hB
  have hM := hp.hM
  obtain ⟨⟨x5, _, x12⟩, hf⟩ := restOf_cells m last _ h
  rw [hn] at x5
  obtain ⟨fp0, hfp⟩ : ∃ p, p = m.fp := ⟨_, rfl⟩
  rw [← hfp] at x5
  have HFP := Lib.hid hfp
  clear hfp
  have hfew : n ≤ 4096 := by have := hp.funcsFew; omega
  have HN := Lib.hid hn
  have HC := Lib.hid hne
  have hr0 : RdAt w0 B M T (restOf (m.with_funcs m.fp m.fc (joinK m.funcs codes 0)) last (.slice cp n cc)) r w.drew := by rw [joinK_zero]; exact h.drew
  have hp0 : PtsMem base B M (m.with_funcs m.fp m.fc (joinK m.funcs codes 0)) (.slice cp n cc) codes w.drew := by rw [joinK_zero]; exact hp.mov ((Mov.refl B M w).drew)
  clear hn hne h hp
  go_enter Tryz.func41, Tryz.ntmps41
  go_wp2
  go_region
  go_wp2
  go_loopw [25] (fun i wr => ∃ k : Nat, k ≤ n ∧ i = .int .i64 k ∧ RdAt w0 B M T (restOf (m.with_funcs m.fp m.fc (joinK m.funcs codes k)) last (.slice cp n cc)) r wr ∧ PtsMem base B M (m.with_funcs m.fp m.fc (joinK m.funcs codes k)) (.slice cp n cc) codes wr ∧ (∀ j, j < base → j ≠ B → j ≠ M → wr.heap[j]? = w.heap[j]?) ∧ w.heap.size ≤ wr.heap.size) (fun i _ => n - (intOf i).toNat)
  case atStart => exact ⟨0, Nat.zero_le _, rfl, hr0, hp0, fun j _ _ _ => rfl, Nat.le_refl _⟩
  case round =>
    clear hr0 hp0
    obtain ⟨k, hk, rfl, hr, hp, hkeep, hsz⟩ := hrel
    have hpr := hp.rows
    have hpf := hp.funcs
    obtain ⟨⟨z5, _, _⟩, hzf⟩ := restOf_cells _ last _ hr
    have hfl : (m.with_funcs m.fp m.fc (joinK m.funcs codes k)).funcs.length = n := (joinK_len m.funcs codes k).trans HN.out
    rw [hfl] at z5 hpf
    change wr.cell? ⟨B, 5, none⟩ = some (.slice m.fp n m.fc) at z5
    by_cases hlt : k < n
    · rw [HC.out] at hpr
      obtain ⟨gc, hgc, hgc1, hgc2⟩ := own_some6 hpr (by omega)
      obtain ⟨g, hg, hg1, hg2⟩ := own_some6 hpf (by omega)
      change m.fp = some ⟨g, 0, none⟩ at hg
      have hg0 : fp0 = some ⟨g, 0, none⟩ := HFP.out.trans hg
      subst hg0
      subst hgc
      have hkc : k < codes.length := by rw [HC.out]; exact hlt
      have hkf : k < (m.with_funcs m.fp m.fc (joinK m.funcs codes k)).funcs.length := by rw [hfl]; exact hlt
      obtain ⟨⟨c0, c1, c2⟩, _⟩ := fn_cells hpr HC.out k hkc
      obtain ⟨⟨d0, d1, d2⟩, hdf⟩ := fn_cells (c := m.fc) (by rw [← hg]; exact hpf) hfl k hkf
      obtain ⟨ck, hck⟩ : ∃ c, codes[k] = c := ⟨_, rfl⟩
      rw [hck] at c0 c1 c2
      have hp2 := hp.mov ((Mov.refl B M wr).alloc (.cells #[.int .i64 ck.type, .string ck.locals, .slice ck.cp ck.code.length ck.cc] 72))
      have hr2 := hr.alloc (.cells #[.int .i64 ck.type, .string ck.locals, .slice ck.cp ck.code.length ck.cc] 72)
      have hj := hp2.join k hkf hkc g hg
      have hj' : PtsMem base B M (m.with_funcs m.fp m.fc (joinK m.funcs codes (k + 1))) (.slice (some ⟨gc, 0, none⟩) n cc) codes (((wr.alloc (.cells #[.int .i64 ck.type, .string ck.locals, .slice ck.cp ck.code.length ck.cc] 72)).setCell ⟨g, k * 3 + 1, none⟩ (.string ck.locals)).setCell ⟨g, k * 3 + 2, none⟩ (.slice ck.cp ck.code.length ck.cc)) := by
        rw [hck] at hj
        rw [joinK_succ m.funcs codes k hkf hkc, hck]
        exact hj
      have HJ := Lib.hid hj'
      clear hj'
      rw [hg] at z5
      clear hj hpr hpf
      obtain ⟨⟨e5, _, _⟩, hef⟩ := restOf_cells _ last _ hr2
      rw [hfl] at e5
      change _ = some (Value.slice m.fp n m.fc) at e5
      rw [hg] at e5
      have a1 : (wr.alloc (.cells #[.int .i64 ck.type, .string ck.locals, .slice ck.cp ck.code.length ck.cc] 72)).cell? ⟨wr.heap.size, 1, none⟩ = some (.string ck.locals) := by rw [World.cell?_alloc_new]; rfl
      have a2 : (wr.alloc (.cells #[.int .i64 ck.type, .string ck.locals, .slice ck.cp ck.code.length ck.cc] 72)).cell? ⟨wr.heap.size, 2, none⟩ = some (.slice ck.cp ck.code.length ck.cc) := by rw [World.cell?_alloc_new]; rfl
      have hpf2 := hp2.funcs
      rw [hfl] at hpf2
      obtain ⟨⟨_, f1, f2⟩, hff⟩ := fn_cells (c := m.fc) (by rw [← hg]; exact hpf2) hfl k hkf
      have hgB : g ≠ B := by omega
      have hgM : g ≠ M := by omega
      have hk2 : ∀ j, j < base → j ≠ B → j ≠ M → (wr.alloc (.cells #[.int .i64 ck.type, .string ck.locals, .slice ck.cp ck.code.length ck.cc] 72)).heap[j]? = w.heap[j]? := fun j h1 h2 h3 => (Below.heap_alloc wr _ j (by omega)).trans (hkeep j h1 h2 h3)
      have hs2 : w.heap.size ≤ (wr.alloc (.cells #[.int .i64 ck.type, .string ck.locals, .slice ck.cp ck.code.length ck.cc] 72)).heap.size := by simp; omega
      have HK := Lib.hid hk2
      have HR := Lib.hid hr2
      have HS2 := Lib.hid hs2
      clear hp2 hpf2 hr hp hk2 hkeep hs2
      clear hr2
      go_wp2
      generalize wr.alloc (.cells #[.int .i64 ck.type, .string ck.locals, .slice ck.cp ck.code.length ck.cc] 72) = w2 at *
      go_region
      have hr3 := ((HR.out.other (k * 3 + 1) (.string ck.locals) hgB hgM (by omega)).other (k * 3 + 2) (.slice ck.cp ck.code.length ck.cc) hgB hgM (by omega)).drew
      have hp3 := HJ.out.mov ((Mov.refl B M _).drew)
      rw [rest_same m last _ _ (joinK_len m.funcs codes k), ← rest_same m last _ _ (joinK_len m.funcs codes (k + 1))] at hr3
      have hk3 : ∀ j, j < base → j ≠ B → j ≠ M → ((w2.setCell ⟨g, k * 3 + 1, none⟩ (.string ck.locals)).setCell ⟨g, k * 3 + 2, none⟩ (.slice ck.cp ck.code.length ck.cc)).drew.heap[j]? = w.heap[j]? := fun j h1 h2 h3 => ((Below.heap_setCell _ _ _ _ (by show j ≠ g; omega)).trans (Below.heap_setCell _ _ _ _ (by show j ≠ g; omega))).trans (HK.out j h1 h2 h3)
      have hs3 : w.heap.size ≤ ((w2.setCell ⟨g, k * 3 + 1, none⟩ (.string ck.locals)).setCell ⟨g, k * 3 + 2, none⟩ (.slice ck.cp ck.code.length ck.cc)).drew.heap.size := by have := HS2.out; simp [World.setCell, World.drew]; exact this
      generalize ((w2.setCell ⟨g, k * 3 + 1, none⟩ (.string ck.locals)).setCell ⟨g, k * 3 + 2, none⟩ (.slice ck.cp ck.code.length ck.cc)).drew = w3 at *
      have HP3 := Lib.hid hp3
      have HR3 := Lib.hid hr3
      have HK3 := Lib.hid hk3
      have HS3 := Lib.hid hs3
      clear hp3 hr3 hk3 hs3 HR HK HS2 HJ a1 a2 e5 f1 f2 z5 c0 c1 c2 d0 d1 d2 hef hff hdf hzf
      go_wp2
      go_roundw
      case rel => exact ⟨k + 1, by omega, by go_num, HR3.out, HP3.out, HK3.out, HS3.out⟩
      case measure => simp [intOf]; omega
    · have hkn : k = n := by omega
      subst hkn
      clear hlt
      go_wp2
      go_end0
      exact ⟨rfl, hkeep, hsz, hr, hp⟩
end Go.Proofs.YtdinpakclmnacaaGreatDoor
namespace Go.Proofs.YtdinpakclmnacaaGreatDoor
set_option maxRecDepth 100000
set_option maxHeartbeats 16000000
set_option linter.unusedVariables false
theorem Got.at' {α : Type} {P Q : Pr α} {r r' : RV} {x : α} (h : Got P r r' x) (e : P r.rem = Q r.rem) : Got Q r r' x := by
  unfold Got at h ⊢
  rw [← e]
  exact h
theorem shr_text : Shr pText := shr_num.and fun n l x m h => by
  split at h
  · cases h
  · cases h; simp
theorem shr_in {α : Type} (p : Pr α) (t : List UInt8) : Shr (pIn p t) := fun l x m h => by
  unfold pIn at h
  split at h
  · cases h; exact Nat.le_refl _
  · cases h
  · cases h
theorem shr_whole {α : Type} (p : Pr α) : Shr (pWhole p) := shr_text.and fun t => shr_in p t
theorem sect_eats {p q : Pts} {l m : List UInt8} (h : pSect p l = .ok q m) : m.length < l.length := by
  obtain ⟨b, n, h1, h2⟩ := and_of h
  have := one_eats _ _ _ h1
  have hs : Shr (if b = 2 ∨ b = 4 ∨ b = 9 then (Pr.no 3 : Pr Pts) else if 11 < b ∨ (b ≠ 0 ∧ b ≤ p.last) then .no 2 else pWhole (pPart b { p with last := max p.last b })) := shr_ite (shr_no _) (shr_ite (shr_no _) (shr_whole _))
  have := hs n q m h2
  omega
theorem sects_fuel : ∀ (f g : Nat) (p : Pts) (l : List UInt8), l.length ≤ f → l.length ≤ g → pSects f p l = pSects g p l := by
  have z : ∀ (g : Nat) (p : Pts), pSects g p [] = .ok p [] := fun g p => by cases g <;> rfl
  intro f
  induction f with
  | zero =>
    intro g p l h1 h2
    have : l = [] := List.length_eq_zero_iff.1 (by omega)
    subst this
    rw [z, z]
  | succ f ih =>
    intro g p l h1 h2
    cases l with
    | nil => rw [z, z]
    | cons b t =>
      cases g with
      | zero => simp at h2
      | succ g =>
        show ((pSect p).and (pSects f)) (b :: t) = ((pSect p).and (pSects g)) (b :: t)
        cases hi : pSect p (b :: t) with
        | bad e => rw [and_bad hi, and_bad hi]
        | ok x m =>
          have := sect_eats hi
          rw [and_ok hi, and_ok hi]
          exact ih g x m (by simp at *; omega) (by simp at *; omega)
def sects (p : Pts) : Pr Pts := fun l => pSects l.length p l
theorem sects_nil (p : Pts) : sects p [] = .ok p [] := rfl
theorem sects_step (p : Pts) (l : List UInt8) (h : l ≠ []) : sects p l = ((pSect p).and sects) l := by
  cases l with
  | nil => exact absurd rfl h
  | cons b t =>
    show ((pSect p).and (pSects t.length)) (b :: t) = _
    cases hi : pSect p (b :: t) with
    | bad e => rw [and_bad hi, and_bad hi]
    | ok x m =>
      have := sect_eats hi
      rw [and_ok hi, and_ok hi]
      exact sects_fuel _ _ x m (by simp at this; omega) (Nat.le_refl _)
def GoingS (r rk : RV) (p : Pts) : Prop := (rk.e = 0 → ∀ r2 y, Got (sects p) rk r2 y → Got (sects pts0) r r2 y) ∧ (rk.e ≠ 0 → ∀ y, Got (sects pts0) r rk y)
theorem GoingS.start (r : RV) : GoingS r r pts0 := ⟨fun _ _ _ h => h, fun he y => ⟨rfl, .inl ⟨he, rfl⟩⟩⟩
theorem rem_nil6 {r : RV} (h : r.s.size ≤ r.pos) : r.rem = [] := by
  unfold RV.rem
  rw [List.drop_eq_nil_iff, Array.length_toList]
  exact h
theorem rem_ne6 {r : RV} (h : r.pos < r.s.size) : r.rem ≠ [] := fun e => by
  unfold RV.rem at e
  rw [List.drop_eq_nil_iff, Array.length_toList] at e
  have e1 : r.s.size = r.s.data.size := rfl
  omega
theorem GoingS.step {r rk r1 : RV} {p q : Pts} (h : GoingS r rk p) (he : rk.e = 0) (hl : rk.pos < rk.s.size) (g : Got (pSect p) rk r1 q) : GoingS r r1 q := by
  have hs : ∀ r2 y, Got ((pSect p).and sects) rk r2 y → Got (sects pts0) r r2 y := fun r2 y h2 => h.1 he r2 y (h2.at' (sects_step p rk.rem (rem_ne6 hl)).symm)
  refine ⟨fun _ r2 y h2 => hs r2 y (g.and h2), fun h1 y => ?_⟩
  exact hs r1 y (g.and ⟨rfl, .inl ⟨h1, rfl⟩⟩)
theorem GoingS.done {r rk : RV} {p : Pts} (h : GoingS r rk p) (hq : rk.s.size ≤ rk.pos ∨ rk.e ≠ 0) : Got (sects pts0) r rk p := by
  by_cases he : rk.e = 0
  · rcases hq with hq | hq
    · refine h.1 he rk p ⟨rfl, .inr (.inl ⟨he, he, ?_⟩)⟩
      rw [rem_nil6 hq]
      rfl
    · exact absurd he hq
  · exact h.2 he p
theorem Got.sectEats {r r1 : RV} {p q : Pts} (h : Got (pSect p) r r1 q) (h0 : r.e = 0) (h1 : r1.e = 0) : r.pos < r1.pos := by
  rcases h.2 with ⟨a, _⟩ | ⟨_, _, a⟩ | ⟨_, a, _⟩
  · exact absurd h0 a
  · have := sect_eats a
    unfold RV.rem at this
    rw [h.1, List.length_drop, List.length_drop] at this
    omega
  · exact absurd h1 a
def Ext {α : Type} (p : Pr α) : Prop := ∀ l v r, p l = .ok v r → ∀ t, p (l ++ t) = .ok v (r ++ t)
theorem Ext.and {α β : Type} {p : Pr α} {f : α → Pr β} (hp : Ext p) (hf : ∀ x, Ext (f x)) : Ext (p.and f) := fun l v r h t => by
  obtain ⟨x, m, h1, h2⟩ := and_of h
  rw [and_ok (hp _ _ _ h1 t)]
  exact hf x _ _ _ h2 t
theorem ext_one : Ext pOne := fun l v r h t => by
  cases l with
  | nil => cases h
  | cons b l => cases h; rfl
theorem dec_more {p : Int → Int} : ∀ (l : List UInt8) (v : Int) (n : Nat), dec p l = some (v, n) → ∀ t, dec p (l ++ t) = some (v, n) ∧ n ≤ l.length
  | [], v, n, h, t => by cases h
  | b :: l, v, n, h, t => by
    rw [List.cons_append]
    unfold dec at h ⊢
    by_cases hb : b.toNat < 128
    · rw [if_pos hb] at h ⊢
      cases h
      exact ⟨rfl, by simp⟩
    · rw [if_neg hb] at h ⊢
      cases hd : dec p l with
      | none => rw [hd] at h; cases h
      | some x =>
        obtain ⟨x1, x2⟩ := x
        rw [hd] at h
        obtain ⟨h1, h2⟩ := dec_more l x1 x2 hd t
        rw [h1]
        simp only [Option.map_some, Option.some.injEq, Prod.mk.injEq] at h ⊢
        exact ⟨h, by rw [List.length_cons]; omega⟩
theorem ext_fit (K : IntKind) (p : Int → Int) (most : Nat) : Ext (pFit K p most) := fun l v r h t => by
  unfold pFit at h ⊢
  cases hd : dec p l with
  | none => rw [hd] at h; cases h
  | some x =>
    obtain ⟨x1, x2⟩ := x
    obtain ⟨h1, h2⟩ := dec_more l x1 x2 hd t
    rw [h1]
    rw [hd] at h
    unfold fit at h ⊢
    simp only at h ⊢
    split at h
    · cases h
    · rename_i y1 y2 heq
      split at heq
      · cases heq
        cases h
        rw [List.drop_append_of_le_length h2]
      · cases heq
theorem ext_num : Ext pNum := ext_fit _ _ _
theorem ext_text : Ext pText := ext_num.and fun n l v r h t => by
  split at h
  · cases h
  · rename_i hn
    cases h
    rw [if_neg (by rw [List.length_append]; omega), List.take_append_of_le_length (by omega), List.drop_append_of_le_length (by omega)]
theorem ext_in {α : Type} (p : Pr α) (s : List UInt8) : Ext (pIn p s) := fun l v r h t => by
  unfold pIn at h ⊢
  split at h
  · cases h; rfl
  · cases h
  · cases h
theorem ext_whole {α : Type} (p : Pr α) : Ext (pWhole p) := ext_text.and fun s => ext_in p s
theorem ext_no {α : Type} (e : Int) : Ext (Pr.no e : Pr α) := fun l v r h t => by cases h
theorem ext_ite {α : Type} {c : Prop} [Decidable c] {p q : Pr α} (hp : Ext p) (hq : Ext q) : Ext (if c then p else q) := by
  split
  · exact hp
  · exact hq
theorem ext_sect (p : Pts) : Ext (pSect p) := ext_one.and fun id => ext_ite (ext_no _) (ext_ite (ext_no _) (ext_whole _))
theorem sects_ext : ∀ (n : Nat) (p q : Pts) (l : List UInt8), l.length ≤ n → sects p l = .ok q [] → ∀ t, sects p (l ++ t) = sects q t
  | n, p, q, [], _, h, t => by rw [sects_nil] at h; cases h; rfl
  | 0, p, q, b :: l, hn, _, t => by simp at hn
  | n + 1, p, q, b :: l, hn, h, t => by
    rw [sects_step p (b :: l) (by simp)] at h
    obtain ⟨x, m, h1, h2⟩ := and_of h
    have hm := sect_eats h1
    rw [sects_step p (b :: l ++ t) (by simp), and_ok (ext_sect p _ _ _ h1 t)]
    exact sects_ext n x q m (by simp at hn hm; omega) h2 t
theorem mod6_sects (s : List UInt8) : mod6 s = if 1048576 < s.length then .bad 5 else if s.take 8 ≠ head6 then .bad 2 else match sects pts0 (s.drop 8) with
    | .bad e => .bad e
    | .ok p r => if p.codes.length = p.funcs.length then .ok (modOf p) r else .bad 2 := by
  unfold mod6
  rw [show pSects s.length pts0 (s.drop 8) = sects pts0 (s.drop 8) from sects_fuel _ _ _ _ (by simp) (Nat.le_refl _)]
  rfl
theorem mod6_in {s : List UInt8} (hl : s.length ≤ 1048568) : mod6 (head6 ++ s) = match sects pts0 s with
    | .bad e => .bad e
    | .ok p r => if p.codes.length = p.funcs.length then .ok (modOf p) r else .bad 2 := by
  rw [mod6_sects, if_neg (by rw [List.length_append]; show ¬ 1048576 < 8 + s.length; omega), if_neg (fun h => h rfl)]
  rfl
def own6 (nm tx : List UInt8) : List UInt8 := one5 0 ++ txt5 (txt5 nm ++ tx)
theorem own6_sect {nm tx : List UInt8} (hn : nm.length ≤ 100) (ht : tx.length ≤ 100) {p : Pts} (hp : 0 ≤ p.last) (t : List UInt8) : pSect p (own6 nm tx ++ t) = if isName nm then .ok p t else .bad 2 := by
  have h1 := txt5_len (s := nm) (by omega)
  unfold own6 pSect
  rw [List.append_assoc, and_ok (pOne_one (by omega) (by omega) _), if_neg (by omega), if_neg (by omega), show max p.last 0 = p.last by omega]
  unfold pWhole
  rw [and_ok (pText_put (by rw [List.length_append]; omega) t)]
  unfold pIn pPart
  rw [if_pos rfl]
  unfold pName
  cases hi : isName nm with
  | true =>
    have e : (pText.and fun t => if isName t then Pr.val t else Pr.no 2) (txt5 nm ++ tx) = .ok nm tx := by
      rw [and_ok (pText_put (by omega) tx), hi]; rfl
    rw [and_ok e]
    rfl
  | false =>
    have e : (pText.and fun t => if isName t then Pr.val t else Pr.no 2) (txt5 nm ++ tx) = .bad 2 := by
      rw [and_ok (pText_put (by omega) tx), hi]; rfl
    rw [and_bad e]
    rfl
theorem sects_end {p : Pts} {l : List UInt8} (q : Pts) (h : pSect p l = .ok q []) (hl : l ≠ []) : sects p l = .ok q [] := by rw [sects_step p l hl, and_ok h]; rfl
theorem last_sect {p q : Pts} {l m : List UInt8} (hp : 0 ≤ p.last) (h : pSect p l = .ok q m) : 0 ≤ q.last := by
  obtain ⟨id, n, h1, h2⟩ := and_of h
  split at h2
  · cases h2
  · split at h2
    · cases h2
    · obtain ⟨t, ht⟩ := pWhole_of h2
      have hq : q.last = max p.last id := by
        unfold pPart at ht
        split at ht
        · obtain ⟨s, m, _, h3⟩ := and_of ht; injection h3 with h4 _; rw [← h4]
        · repeat' split at ht
          all_goals (obtain ⟨s, m, _, h3⟩ := and_of ht; obtain ⟨rfl, _⟩ := val_of h3; rfl)
      omega
theorem last_sects : ∀ (n : Nat) (p q : Pts) (l m : List UInt8), l.length ≤ n → 0 ≤ p.last → sects p l = .ok q m → 0 ≤ q.last
  | n, p, q, [], m, _, hp, h => by rw [sects_nil] at h; cases h; exact hp
  | 0, p, q, b :: l, m, hn, _, _ => by simp at hn
  | n + 1, p, q, b :: l, m, hn, hp, h => by
    rw [sects_step p (b :: l) (by simp)] at h
    obtain ⟨x, k, h1, h2⟩ := and_of h
    have hm := sect_eats h1
    exact last_sects n x q k m (by simp at hn hm; omega) (last_sect hp h1) h2
theorem put_sects {m : MoV} {R : List UInt8} (hR : mod5 m = head6 ++ R) (h : mod6 (mod5 m) = .ok m.bare []) : ∃ p, sects pts0 R = .ok p [] ∧ 0 ≤ p.last ∧ p.codes.length = p.funcs.length ∧ modOf p = m.bare := by
  rw [hR, mod6_sects] at h
  split at h
  · cases h
  · split at h
    · cases h
    · rw [show (head6 ++ R).drop 8 = R from rfl] at h
      cases hs : sects pts0 R with
      | bad e => rw [hs] at h; cases h
      | ok p r =>
        rw [hs] at h
        simp only at h
        split at h
        · injection h with h1 h2
          subst h2
          exact ⟨p, rfl, last_sects _ _ _ _ _ (Nat.le_refl _) (by decide) hs, by assumption, h1⟩
        · cases h
theorem skip_ans {m : MoV} {R nm tx : List UInt8} (hR : mod5 m = head6 ++ R) (h : mod6 (mod5 m) = .ok m.bare []) (hl : R.length ≤ 1000000) (hn : nm.length ≤ 100) (ht : tx.length ≤ 100) :
    mod6 (head6 ++ own6 nm tx ++ R ++ own6 nm tx) = if isName nm then .ok m.bare [] else .bad 2 := by
  obtain ⟨p, h1, h2, h3, h4⟩ := put_sects hR h
  have h5 := txt5_len (s := nm) (by omega)
  have h6 := txt5_len (s := txt5 nm ++ tx) (by rw [List.length_append]; omega)
  have ho : (own6 nm tx).length ≤ 1000 := by unfold own6; rw [List.length_append, one5_len]; rw [List.length_append] at h6; omega
  have hne : ∀ t : List UInt8, own6 nm tx ++ t ≠ [] := fun t => by unfold own6; simp [one5]
  rw [List.append_assoc, List.append_assoc, mod6_in (by simp only [List.length_append]; omega), sects_step _ _ (hne _)]
  cases hi : isName nm with
  | true =>
    have a1 := own6_sect hn ht (p := pts0) (by decide) (R ++ own6 nm tx)
    have a2 := own6_sect hn ht h2 []
    rw [hi] at a1 a2
    rw [List.append_nil] at a2
    rw [and_ok a1, sects_ext _ _ _ _ (Nat.le_refl _) h1, sects_end p a2 (by have := hne []; rwa [List.append_nil] at this)]
    simp only [if_true]
    rw [if_pos h3, h4]
  | false =>
    have a1 := own6_sect hn ht (p := pts0) (by decide) (R ++ own6 nm tx)
    rw [hi] at a1
    rw [and_bad a1]
    rfl
theorem kind_ans {R : List UInt8} {b : UInt8} (hb : b = 2 ∨ b = 4 ∨ b = 9) (hl : R.length ≤ 1000000) : mod6 (head6 ++ [b] ++ [1, 0] ++ R) = .bad 3 := by
  rw [List.append_assoc, List.append_assoc, mod6_in (by simp only [List.length_append, List.length_cons, List.length_nil]; omega), sects_step _ _ (by simp)]
  have a1 : pSect pts0 ([b] ++ ([1, 0] ++ R)) = .bad 3 := by
    unfold pSect
    rw [List.singleton_append, and_ok (pOne_cons b _), if_pos (by rcases hb with rfl | rfl | rfl <;> decide)]
    rfl
  rw [and_bad a1]
theorem form_ans {m : MoV} {R : List UInt8} {b : UInt8} (hR : mod5 m = head6 ++ R) (h : mod6 (mod5 m) = .ok m.bare []) (hb : 12 ≤ b.toNat) (hl : R.length ≤ 1000000) : mod6 (mod5 m ++ [b] ++ [1, 0]) = .bad 2 := by
  obtain ⟨p, h1, h2, h3, h4⟩ := put_sects hR h
  rw [hR, List.append_assoc, List.append_assoc, mod6_in (by simp only [List.length_append, List.length_cons, List.length_nil]; omega), sects_ext _ _ _ _ (Nat.le_refl _) h1, sects_step _ _ (by simp)]
  have a1 : pSect p ([b] ++ [1, 0]) = .bad 2 := by
    unfold pSect
    rw [List.singleton_append, and_ok (pOne_cons b _), if_neg (by omega), if_pos (.inl (by omega))]
    rfl
  rw [and_bad a1]
theorem bare_code {l m : List InsV} (h : l.map InsV.bare = m.map InsV.bare) : sameCode l m = true := by
  induction l generalizing m with
  | nil => cases m with
    | nil => rfl
    | cons y m => cases h
  | cons x l ih =>
    cases m with
    | nil => cases h
    | cons y m =>
      simp only [List.map_cons, List.cons.injEq] at h
      unfold sameCode
      rw [ih h.2, Bool.and_true]
      have h1 := h.1
      obtain ⟨op, a, b, lp, lc, ls⟩ := x
      obtain ⟨op', a', b', lp', lc', ls'⟩ := y
      simp only [InsV.bare, InsV.mk.injEq] at h1
      unfold sameIns
      simp [h1]
end Go.Proofs.YtdinpakclmnacaaGreatDoor
namespace Go.Proofs.YtdinpakclmnacaaGreatDoor
set_option maxRecDepth 100000
set_option maxHeartbeats 16000000
open Go.RowKit
set_option linter.unusedVariables false
def headS : ByteArray := ⟨#[0, 97, 115, 109, 1, 0, 0, 0]⟩
theorem prefix_ne {a b : ByteArray} (h : ¬ a = b) : (a.toList == b.toList) = false := by
  refine beq_eq_false_iff_ne.2 fun e => h ?_
  obtain ⟨⟨x⟩⟩ := a
  obtain ⟨⟨y⟩⟩ := b
  rw [ByteArray.toList_mk, ByteArray.toList_mk] at e
  rw [e]
theorem head_same (s : ByteArray) : (s.extract 0 8 = headS) ↔ s.data.toList.take 8 = head6 := by
  have e : (s.extract 0 8).data.toList = s.data.toList.take 8 := by simp
  constructor
  · intro h; rw [← e, h]; rfl
  · intro h
    apply ByteArray.ext
    apply Array.ext'
    rw [e, h]
    rfl
theorem lite_of (s : ByteArray) (w : World) : Calls Tryz.prog 104 #[.string s, .string headS] w fun e w' => e = .returned (.bool (decide (s.data.toList.take 8 = head6))) ∧ Below w.heap.size w w' := by
  obtain ⟨hd, hhd⟩ : ∃ h, h = headS := ⟨_, rfl⟩
  have hsz : hd.size = 8 := by rw [hhd]; rfl
  have hz : (hd.size : Int) = 8 := by rw [hsz]; rfl
  rw [← hhd]
  have HH := Lib.hid hhd
  clear hhd
  by_cases h8 : s.size < 8
  · have hne : ¬ s.data.toList.take 8 = head6 := fun e => by
      have h1 : (s.data.toList.take 8).length = 8 := by rw [e]; rfl
      rw [List.length_take, Array.length_toList] at h1
      have e1 : s.size = s.data.size := rfl
      omega
    have hd0 : decide (s.data.toList.take 8 = head6) = false := decide_eq_false hne
    rw [hd0]
    have hlt : ¬ (8 : Int) ≤ (s.size : Int) := by omega
    clear hne hd0
    go_enter Tryz.func104, Tryz.ntmps104
    go_wp2
    go_ret
    exact ⟨rfl, Below.refl _ _⟩
  · have hle : (8 : Int) ≤ (s.size : Int) := by omega
    have hle8 : 8 ≤ s.size := by omega
    by_cases he : s.extract 0 8 = hd
    · have hd1 : decide (s.data.toList.take 8 = head6) = true := decide_eq_true ((head_same s).1 (by rw [he, HH.out]))
      rw [hd1]
      clear hd1
      go_enter Tryz.func104, Tryz.ntmps104
      go_wp2
      go_ret
      exact ⟨rfl, Below.refl _ _⟩
    · have hd1 : decide (s.data.toList.take 8 = head6) = false := decide_eq_false (fun e => he (by rw [(head_same s).2 e, HH.out]))
      rw [hd1]
      have hq : ((s.extract 0 8).toList == hd.toList) = false := prefix_ne he
      clear hd1
      go_enter Tryz.func104, Tryz.ntmps104
      go_wp2
      go_ret
      exact ⟨by simp, Below.refl _ _⟩
theorem prefix_of (s : ByteArray) (w : World) : Calls Tryz.prog 37 #[.string s, .string headS] w fun e w' => e = .returned (.bool (decide (s.data.toList.take 8 = head6))) ∧ Below w.heap.size w w' := by
  have cl := lite_of s w
  obtain ⟨b, hb⟩ : ∃ b, decide (s.data.toList.take 8 = head6) = b := ⟨_, rfl⟩
  rw [hb] at cl ⊢
  clear hb
  go_enter Tryz.func37, Tryz.ntmps37
  go_wp2_with fail
  refine cl.mono ?_
  rintro e w1 ⟨rfl, hb⟩
  clear cl
  go_wp2
  go_ret
  exact ⟨rfl, hb⟩
def zeroM : MoV := ⟨none, 0, [], none, 0, [], none, 0, [], none, 0, [], none, 0, [], 0, none, 0, []⟩
def modAns (s : List UInt8) : MoV × Int := match mod6 s with
  | .bad e => (zeroM, e)
  | .ok m _ => (m, 0)
theorem rows_own6 {α : Type} {w : World} {lo : Nat} {t : TypeId} {c n cap : Nat} {p : Option Addr} {row : α → List Value} {l : List α} (h : w.ownsRow lo t c (.slice p n cap) n (l.flatMap row)) (hn : l.length = n) (hc : ∀ x ∈ l, (row x).length = c) : RowsAt w p c row l := by
  intro j hj i v hv
  have hi : i < c := by
    have := hc l[j] (List.getElem_mem hj)
    have h2 := (List.getElem?_eq_some_iff.1 hv).1
    omega
  have hf := flat_at6 i hi l hc j hj
  rw [hv] at hf
  obtain ⟨g, rfl, _, hg⟩ := own_some6 h (by omega)
  have := World.ownsRow.cells h (g := g) rfl (j * c + i) v hf
  rw [Go.WideShapes.add_plain] at this
  exact ⟨g, 0, rfl, hg, by simpa using this⟩
theorem InsOwn.insAt {base : Nat} {w : World} {x : InsV} (h : InsOwn base w x) : InsAt w x :=
  ⟨intsAt_own h.1 rfl, by have := h.2.1; omega, h.2.2.2.1, h.2.2.2.2.1, h.2.2.2.2.2, fun n hn => i64_word (h.2.2.1 n hn)⟩
theorem FnOwn.fnAt {base : Nat} {w : World} {f : FnV} (h : FnOwn base w f) : FnAt w f :=
  ⟨⟨rows_own6 h.own rfl (fun x _ => rfl), fun x hx => (h.ins x hx).insAt, by have := h.len; omega⟩, by have := h.loc; unfold maxLen; omega, h.type⟩
theorem PtsMem.modAt {base B M : Nat} {m : MoV} {cv : Value} {codes : List FnV} {W : World} (h : PtsMem base B M m cv codes W) : ModAt W m :=
  { types := rows_own6 h.types rfl (fun x _ => rfl)
    typesIn := fun t ht => ⟨by have := (h.typesIn t ht).1; unfold maxLen; omega, by have := (h.typesIn t ht).2; unfold maxLen; omega⟩
    typesMost := by have := h.typesFew; unfold mostThings; omega
    funcs := rows_own6 h.funcs rfl (fun x _ => rfl)
    funcsIn := fun f hf => (h.funcsIn f hf).fnAt
    funcsMost := by have := h.funcsFew; unfold mostThings; omega
    memory := rows_own6 h.memory rfl (fun x _ => rfl)
    memoryIn := fun t ht => h.memoryIn t ht
    memoryMost := by have := h.memoryFew; unfold mostThings; omega
    globals := rows_own6 h.globals rfl (fun x _ => rfl)
    globalsIn := fun t ht => h.globalsIn t ht
    globalsMost := by have := h.globalsFew; unfold mostThings; omega
    exports := rows_own6 h.exports rfl (fun x _ => rfl)
    exportsIn := fun t ht => ⟨by have := (h.exportsIn t ht).1; unfold maxLen; omega, (h.exportsIn t ht).2⟩
    exportsMost := by have := h.exportsFew; unfold mostThings; omega
    startIn := h.startIn
    data := rows_own6 h.data rfl (fun x _ => rfl)
    dataIn := fun t ht => ⟨(h.dataIn t ht).1, by have := (h.dataIn t ht).2; unfold maxLen; omega⟩
    dataMost := by have := h.dataFew; unfold mostThings; omega }
theorem join_bare (fs cs : List FnV) : (List.zipWith joinV fs cs).map FnV.bare = List.zipWith joinFn (fs.map FnV.bare) (cs.map FnV.bare) := by
  induction fs generalizing cs with
  | nil => rfl
  | cons f fs ih =>
    cases cs with
    | nil => rfl
    | cons c cs => simp only [List.zipWith_cons_cons, List.map_cons, ih]; rfl
theorem ans_read {s : ByteArray} {rk : RV} {m : MoV} {last : Int} {codes : List FnV} (h1 : s.size ≤ 1048576) (h2 : s.data.toList.take 8 = head6) (g : Got (sects pts0) ⟨s, 8, 0⟩ rk (ptsOf m last codes)) :
    (rk.e ≠ 0 → modAns s.data.toList = (zeroM, rk.e)) ∧
    (rk.e = 0 → codes.length ≠ m.funcs.length → modAns s.data.toList = (zeroM, 2)) ∧
    (rk.e = 0 → codes.length = m.funcs.length → modAns s.data.toList = ((m.with_funcs m.fp m.fc (joinK m.funcs codes m.funcs.length)).bare, 0)) := by
  have hl : s.data.toList.length = s.size := Array.length_toList
  have hm : mod6 s.data.toList = match sects pts0 (⟨s, 8, 0⟩ : RV).rem with
      | .bad e => .bad e
      | .ok p r => if p.codes.length = p.funcs.length then .ok (modOf p) r else .bad 2 := by
    unfold mod6
    rw [if_neg (by omega), if_neg (by simpa using h2)]
    rw [show pSects s.data.toList.length pts0 (s.data.toList.drop 8) = sects pts0 (⟨s, 8, 0⟩ : RV).rem from sects_fuel _ _ _ _ (by simp) (Nat.le_refl _)]
    cases sects pts0 (⟨s, 8, 0⟩ : RV).rem <;> rfl
  unfold modAns
  rw [hm]
  rcases g.2 with ⟨a, _⟩ | ⟨_, a, b⟩ | ⟨_, a, b⟩
  · exact absurd rfl a
  · rw [b]
    refine ⟨fun h => absurd a h, fun _ hne => ?_, fun _ heq => ?_⟩
    · dsimp only
      rw [if_neg (by simpa [ptsOf] using hne)]
    · dsimp only
      rw [if_pos (by simpa [ptsOf] using heq)]
      rw [joinK_all m.funcs codes heq.symm]
      simp only [modOf, ptsOf, MoV.bare, MoV.with_funcs, join_bare]
  · rw [b]
    exact ⟨fun _ => rfl, fun h => absurd h a, fun h => absurd h a⟩
def ModNew (w w' : World) (m : MoV) : Prop := ∀ W : World, (∀ k, w.heap.size ≤ k → k < w'.heap.size → W.heap[k]? = w'.heap[k]?) → ModAt W m
theorem ModNew.at7 {w w' : World} {m : MoV} (h : ModNew w w' m) : ModAt w' m := h w' fun _ _ _ => rfl
def AnsMod (s : ByteArray) (w : World) (e : Ending) (w' : World) : Prop :=
  ∃ m : MoV, e = .returned (.tuple #[m.val, .int .i64 (modAns s.data.toList).2]) ∧ m.bare = (modAns s.data.toList).1 ∧ ModNew w w' m ∧ Below w.heap.size w w'
def zeroBox : Array Value := #[.slice none 0 0, .slice none 0 0, .slice none 0 0, .slice none 0 0, .slice none 0 0, .int .i64 0, .slice none 0 0]
theorem results_cell_tmp6 {fn : Func} {p u : Tmp} {ty : TypeId} (h : fn.results = #[.cell p ty, .tmp u]) (tmps : Array Value) (P : Program) (w : World) :
    (results fn tmps).run P w =
      ((asAddr (tmps.getD p undef)).run P w).andThen fun a w₁ => ((loadVar ty a).run P w₁).andThen fun x w₂ => .ok (.tuple #[x, tmps.getD u undef]) w₂ := by
  simp only [results, h]
  simp [Sem.run_bind, Result.andThen]
theorem zero_at (w : World) : ModAt w zeroM :=
  { types := RowsAt.nil, typesIn := fun _ h => absurd h List.not_mem_nil, typesMost := Nat.zero_le _
    funcs := RowsAt.nil, funcsIn := fun _ h => absurd h List.not_mem_nil, funcsMost := Nat.zero_le _
    memory := RowsAt.nil, memoryIn := fun _ h => absurd h List.not_mem_nil, memoryMost := Nat.zero_le _
    globals := RowsAt.nil, globalsIn := fun _ h => absurd h List.not_mem_nil, globalsMost := Nat.zero_le _
    exports := RowsAt.nil, exportsIn := fun _ h => absurd h List.not_mem_nil, exportsMost := Nat.zero_le _
    startIn := ⟨by decide, by decide⟩
    data := RowsAt.nil, dataIn := fun _ h => absurd h List.not_mem_nil, dataMost := Nat.zero_le _ }
theorem box76 {W : World} {b : Nat} {u0 u1 u2 u3 u4 u5 u6 : Value} {t : TypeId} (h : W.heap[b]? = some (.cells #[u0, u1, u2, u3, u4, u5, u6] t)) :
    (W.cell? ⟨b, 0, none⟩ = some u0 ∧ W.cell? ⟨b, 1, none⟩ = some u1 ∧ W.cell? ⟨b, 2, none⟩ = some u2 ∧ W.cell? ⟨b, 3, none⟩ = some u3 ∧ W.cell? ⟨b, 4, none⟩ = some u4 ∧ W.cell? ⟨b, 5, none⟩ = some u5 ∧ W.cell? ⟨b, 6, none⟩ = some u6) ∧
    (W.frozen? ⟨b, 0, none⟩ = false ∧ W.frozen? ⟨b, 1, none⟩ = false ∧ W.frozen? ⟨b, 2, none⟩ = false ∧ W.frozen? ⟨b, 3, none⟩ = false ∧ W.frozen? ⟨b, 4, none⟩ = false ∧ W.frozen? ⟨b, 5, none⟩ = false ∧ W.frozen? ⟨b, 6, none⟩ = false) ∧ b < W.heap.size := by
  have c : ∀ j, W.cell? ⟨b, j, none⟩ = (#[u0, u1, u2, u3, u4, u5, u6] : Array Value)[j]? := fun j => by rw [World.cell?, h]; simp
  have f : ∀ j, W.frozen? ⟨b, j, none⟩ = false := fun j => by simp [World.frozen?, h]
  exact ⟨⟨c 0, c 1, c 2, c 3, c 4, c 5, c 6⟩, ⟨f 0, f 1, f 2, f 3, f 4, f 5, f 6⟩, in_heap6 h⟩
def set7 (W : World) (b : Nat) (u0 u1 u2 u3 u4 u5 u6 : Value) : World := ((((((W.setCell ⟨b, 0, none⟩ u0).setCell ⟨b, 1, none⟩ u1).setCell ⟨b, 2, none⟩ u2).setCell ⟨b, 3, none⟩ u3).setCell ⟨b, 4, none⟩ u4).setCell ⟨b, 5, none⟩ u5).setCell ⟨b, 6, none⟩ u6
theorem set7_below {w W : World} (h : Below w.heap.size w W) {b : Nat} (hb : w.heap.size ≤ b) (u0 u1 u2 u3 u4 u5 u6 : Value) : Below w.heap.size w (set7 W b u0 u1 u2 u3 u4 u5 u6) :=
  ((((((h.setCell hb _).setCell hb _).setCell hb _).setCell hb _).setCell hb _).setCell hb _).setCell hb _
theorem set7_other (W : World) (b : Nat) (u0 u1 u2 u3 u4 u5 u6 : Value) {k : Nat} (hk : k ≠ b) : (set7 W b u0 u1 u2 u3 u4 u5 u6).heap[k]? = W.heap[k]? := by
  unfold set7
  rw [Below.heap_setCell _ _ _ _ hk, Below.heap_setCell _ _ _ _ hk, Below.heap_setCell _ _ _ _ hk, Below.heap_setCell _ _ _ _ hk, Below.heap_setCell _ _ _ _ hk, Below.heap_setCell _ _ _ _ hk, Below.heap_setCell _ _ _ _ hk]
theorem mod_long (s : ByteArray) (w : World) (hs : 1048576 < s.size) : Calls Tryz.prog 13 #[.string s] w (AnsMod s w) := by
  have hans : modAns s.data.toList = (zeroM, 5) := by
    unfold modAns mod6
    rw [if_pos (by rw [Array.length_toList]; exact hs)]
  have hq : (1048576 : Int) < (s.size : Int) := by omega
  have hB := (Below.refl w.heap.size w).alloc (Nat.le_refl _) (.cells zeroBox 35)
  have HH := Lib.hid hans
  clear hans
  go_enter Tryz.func13, Tryz.ntmps13
  go_wp2
  refine bodyPost_ret (v := .tuple #[zeroM.val, .int .i64 5]) ?_ rfl ?_
  · rw [results_cell_tmp6 rfl]; simp [zeroM, MoV.val]; go_simp
  · refine ⟨zeroM, by rw [HH.out], by rw [HH.out]; rfl, fun _ _ => zero_at _, ?_⟩
    first
      | exact hB
      | exact ((((((hB.setCell (Nat.le_refl _) _).setCell (Nat.le_refl _) _).setCell (Nat.le_refl _) _).setCell (Nat.le_refl _) _).setCell (Nat.le_refl _) _).setCell (Nat.le_refl _) _).setCell (Nat.le_refl _) _
theorem mod_head (s : ByteArray) (w : World) (hs : s.size ≤ 1048576) (hh : ¬ s.data.toList.take 8 = head6) : Calls Tryz.prog 13 #[.string s] w (AnsMod s w) := by
  have hans : modAns s.data.toList = (zeroM, 2) := by
    unfold modAns mod6
    rw [if_neg (by rw [Array.length_toList]; exact Nat.not_lt.2 hs), if_pos hh]
  have hq : ¬ (1048576 : Int) < (s.size : Int) := by omega
  have hB := (Below.refl w.heap.size w).alloc (Nat.le_refl _) (.cells zeroBox 35)
  have hn := heap_alloc_new w (.cells zeroBox 35)
  have c1 := prefix_of s (w.alloc (.cells zeroBox 35))
  rw [decide_eq_false hh] at c1
  have HH := Lib.hid hans
  unfold zeroBox headS at c1
  clear hans hh
  go_enter Tryz.func13, Tryz.ntmps13
  go_wp2_with fail
  refine c1.mono ?_
  rintro e w1 ⟨rfl, hb1⟩
  have hs1 := hb1.size
  have hbx := (hb1.block w.heap.size (by simp)).trans hn
  unfold zeroBox at hbx
  obtain ⟨⟨x0, x1, x2, x3, x4, x5, x6⟩, ⟨y0, y1, y2, y3, y4, y5, y6⟩, hlt⟩ := box76 hbx
  have hBel := set7_below (hB.trans (hb1.mono hB.size)) (Nat.le_refl _) (.slice none 0 0) (.slice none 0 0) (.slice none 0 0) (.slice none 0 0) (.slice none 0 0) (.int .i64 0) (.slice none 0 0)
  have HB := Lib.hid hBel
  clear c1 hB hn hb1 hs1 hbx hBel
  go_wp2
  refine bodyPost_ret (v := .tuple #[zeroM.val, .int .i64 2]) ?_ rfl ?_
  · rw [results_cell_tmp6 rfl]; simp [zeroM, MoV.val]; go_simp
  · exact ⟨zeroM, by rw [HH.out], by rw [HH.out]; rfl, fun _ _ => zero_at _, HB.out⟩
def m06 : MoV := ⟨none, 0, [], none, 0, [], none, 0, [], none, 0, [], none, 0, [], -1, none, 0, []⟩
theorem PtsMem.start {base B M : Nat} (hB : B < base) (hM : M < base) (W : World) : PtsMem base B M m06 (.slice none 0 0) [] W :=
  { hB := hB, hM := hM
    types := World.ownsRow_nil _ _ _ _, typesIn := fun _ h => absurd h List.not_mem_nil, typesFew := Nat.zero_le _
    memory := World.ownsRow_nil _ _ _ _, memoryIn := fun _ h => absurd h List.not_mem_nil, memoryFew := Nat.zero_le _
    globals := World.ownsRow_nil _ _ _ _, globalsIn := fun _ h => absurd h List.not_mem_nil, globalsFew := Nat.zero_le _
    exports := World.ownsRow_nil _ _ _ _, exportsIn := fun _ h => absurd h List.not_mem_nil, exportsFew := Nat.zero_le _
    data := World.ownsRow_nil _ _ _ _, dataIn := fun _ h => absurd h List.not_mem_nil, dataFew := Nat.zero_le _
    funcs := World.ownsRow_nil _ _ _ _, funcsIn := fun _ h => absurd h List.not_mem_nil, funcsFew := Nat.zero_le _
    startIn := ⟨by decide, by decide⟩
    rows := World.ownsRow_nil _ _ _ _, codesIn := fun _ h => absurd h List.not_mem_nil, codesFew := Nat.zero_le _
    far := fun g hg => by cases hg }
theorem PtsMem.keep {base B M : Nat} {m : MoV} {cv : Value} {codes : List FnV} {W W1 : World} (h : PtsMem base B M m cv codes W) (hk : ∀ k, base ≤ k → k < W.heap.size → W1.heap[k]? = W.heap[k]?) : PtsMem base B M m cv codes W1 :=
  { hB := h.hB
    hM := h.hM
    types := own_same h.types fun g hg => hk g (own_lt6 h.types g hg).1 (own_lt6 h.types g hg).2
    typesIn := h.typesIn
    typesFew := h.typesFew
    memory := own_same h.memory fun g hg => hk g (own_lt6 h.memory g hg).1 (own_lt6 h.memory g hg).2
    memoryIn := h.memoryIn
    memoryFew := h.memoryFew
    globals := own_same h.globals fun g hg => hk g (own_lt6 h.globals g hg).1 (own_lt6 h.globals g hg).2
    globalsIn := h.globalsIn
    globalsFew := h.globalsFew
    exports := own_same h.exports fun g hg => hk g (own_lt6 h.exports g hg).1 (own_lt6 h.exports g hg).2
    exportsIn := h.exportsIn
    exportsFew := h.exportsFew
    data := own_same h.data fun g hg => hk g (own_lt6 h.data g hg).1 (own_lt6 h.data g hg).2
    dataIn := h.dataIn
    dataFew := h.dataFew
    funcs := own_same h.funcs fun g hg => hk g (own_lt6 h.funcs g hg).1 (own_lt6 h.funcs g hg).2
    funcsIn := fun f hf => (h.funcsIn f hf).keep hk
    funcsFew := h.funcsFew
    startIn := h.startIn
    rows := own_same h.rows fun g hg => hk g (own_lt6 h.rows g hg).1 (own_lt6 h.rows g hg).2
    codesIn := fun f hf => (h.codesIn f hf).keep hk
    codesFew := h.codesFew
    far := h.far }
def EndsAt (s : ByteArray) (w : World) (B M : Nat) (T : TypeId) (last : Int) (cv : Value) (codes : List FnV) (e : Ending) (w6 : World) : Prop :=
  e = .returned (.tuple #[]) ∧ ∃ (mJ : MoV) (rJ : RV), RdAt w B M T (restOf mJ last cv) rJ w6 ∧ PtsMem (B + 1) B M mJ cv codes w6 ∧ w6.heap[w.heap.size]? = some (.cells #[.slice none 0 0, .slice none 0 0, .slice none 0 0, .slice none 0 0, .slice none 0 0, .int .i64 0, .slice none 0 0] 35) ∧
    (rJ.e ≠ 0 → modAns s.data.toList = (zeroM, rJ.e)) ∧ (rJ.e = 0 → modAns s.data.toList = (mJ.bare, 0))
theorem join_ends {s : ByteArray} {w : World} {B M : Nat} {T : TypeId} {m : MoV} {last : Int} {cv : Value} {codes : List FnV} {rk : RV} {wr : World} (h1 : s.size ≤ 1048576) (h2 : s.data.toList.take 8 = head6) (hr : RdAt w B M T (restOf m last cv) rk wr) (hp : PtsMem (B + 1) B M m cv codes wr) (hwb : B + 1 ≤ wr.heap.size) (hBw : w.heap.size + 1 ≤ B) (hMw : w.heap.size + 1 ≤ M)
    (hn : wr.heap[w.heap.size]? = some (.cells #[.slice none 0 0, .slice none 0 0, .slice none 0 0, .slice none 0 0, .slice none 0 0, .int .i64 0, .slice none 0 0] 35)) (g : Got (sects pts0) ⟨s, 8, 0⟩ rk (ptsOf m last codes)) :
    Calls Tryz.prog 41 #[.pointer (some ⟨B, 0, none⟩)] wr (EndsAt s w B M T last cv codes) := by
  obtain ⟨a1, a2, a3⟩ := ans_read h1 h2 g
  by_cases hlen : codes.length = m.funcs.length
  · refine (join_all hr hp hwb (by omega) m.funcs.length rfl hlen).mono ?_
    rintro e w6 ⟨rfl, hk, hs, h6, p6⟩
    exact ⟨rfl, _, rk, h6, p6, (hk _ (by omega) (by omega) (by omega)).trans hn, a1, fun he => a3 he hlen⟩
  · refine (join_not hr hp hwb hlen).mono ?_
    rintro e w6 ⟨rfl, hk, hs, h6, p6⟩
    refine ⟨rfl, m, rk.bad 2, h6, p6, (hk _ (by omega) (by omega) (by omega)).trans hn, fun _ => ?_, fun he => absurd he (bad_e (by decide))⟩
    unfold RV.bad
    by_cases he : rk.e = 0
    · simp only [he, if_true]; exact a2 he hlen
    · simp only [he, if_false]; exact a1 he
theorem restOf_mod (m : MoV) (last : Int) (cv : Value) {w0 : World} {B M : Nat} {T : TypeId} {r : RV} {w : World} (h : RdAt w0 B M T (restOf m last cv) r w) :
    w.cell? ⟨B, 4, none⟩ = some (.slice m.tp m.types.length m.tc) ∧ w.cell? ⟨B, 5, none⟩ = some (.slice m.fp m.funcs.length m.fc) ∧ w.cell? ⟨B, 6, none⟩ = some (.slice m.mp m.memory.length m.mc) ∧ w.cell? ⟨B, 7, none⟩ = some (.slice m.gp m.globals.length m.gc) ∧ w.cell? ⟨B, 8, none⟩ = some (.slice m.ep m.exports.length m.ec) ∧ w.cell? ⟨B, 9, none⟩ = some (.int .i64 m.start) ∧ w.cell? ⟨B, 10, none⟩ = some (.slice m.dp m.data.length m.dc) := by
  have c : ∀ j, w.cell? ⟨B, j, none⟩ = (r.cells M ++ restOf m last cv)[j]? := fun j => by rw [World.cell?, h.box]; simp
  exact ⟨c 4, c 5, c 6, c 7, c 8, c 9, c 10⟩
theorem mod_reads (s : ByteArray) (w : World) (hLaid : Laid w) (hs : s.size ≤ 1048576) (hh : s.data.toList.take 8 = head6) : Calls Tryz.prog 13 #[.string s] w (AnsMod s w) := by
  have hq : ¬ (1048576 : Int) < (s.size : Int) := by omega
  have h8 : 8 ≤ s.size := by
    have h1 : (s.data.toList.take 8).length = 8 := by rw [hh]; rfl
    rw [List.length_take, Array.length_toList] at h1
    have e1 : s.size = s.data.size := rfl
    omega
  have hB0 := (Below.refl w.heap.size w).alloc (Nat.le_refl _) (.cells zeroBox 35)
  have hn0 := heap_alloc_new w (.cells zeroBox 35)
  have hz0 : (w.alloc (.cells zeroBox 35)).heap.size = w.heap.size + 1 := by simp
  have c1 := prefix_of s (w.alloc (.cells zeroBox 35))
  rw [decide_eq_true hh] at c1
  have HH := Lib.hid hh
  unfold headS at c1
  unfold zeroBox at c1 hB0 hn0 hz0
  clear hh
  go_enter Tryz.func13, Tryz.ntmps13
  go_wp2_with fail
  refine c1.mono ?_
  rintro e w1 ⟨rfl, hb1⟩
  have hB1 := hB0.trans (hb1.mono hB0.size)
  have hn1 := (hb1.block w.heap.size (by rw [hz0]; omega)).trans hn0
  have hs1 : w.heap.size + 1 ≤ w1.heap.size := by have := hb1.size; omega
  have c2 := new_reader s 8 w1
  clear c1 hb1 hB0 hn0 hz0
  go_wp2_with fail
  refine c2.mono ?_
  rintro e w2 ⟨M, rfl, hM, hD, hb2⟩
  have hB2 := hB1.trans (hb2.mono hB1.size)
  have hn2 := (hb2.block w.heap.size (by omega)).trans hn1
  have hMl : M < w2.heap.size := ownsMap_in hD.own
  have hs2 : w1.heap.size ≤ w2.heap.size := hb2.size
  obtain ⟨w3, hw3⟩ : ∃ w3, w3 = w2.alloc (.cells ((⟨s, 8, 0⟩ : RV).cells M ++ restOf m06 0 (.slice none 0 0)).toArray 101) := ⟨_, rfl⟩
  have hz3 : w3.heap.size = w2.heap.size + 1 := by rw [hw3]; simp
  have hbx3 : w3.heap[w2.heap.size]? = some (.cells ((⟨s, 8, 0⟩ : RV).cells M ++ restOf m06 0 (.slice none 0 0)).toArray 101) := by rw [hw3]; exact heap_alloc_new w2 _
  have hr3 : RdAt w w2.heap.size M 101 (restOf m06 0 (.slice none 0 0)) ⟨s, 8, 0⟩ w3 :=
    ⟨by rw [hw3]; exact hB2.alloc hB2.size _, hbx3, ⟨_, hD.same (by rw [hw3]; exact Below.heap_alloc _ _ _ hMl)⟩, by omega, hB2.size, by omega, by show s.size ≤ _; omega, h8⟩
  have hn3 : w3.heap[w.heap.size]? = _ := (by rw [hw3]; exact Below.heap_alloc w2 _ _ (by omega) : w3.heap[w.heap.size]? = w2.heap[w.heap.size]?).trans hn2
  have c3 := sections6 w3
  have HW3 := Lib.hid hw3
  have HZ3 := Lib.hid hz3
  clear c2 hb2 hB1 hn1 hn2 hD hbx3 hw3 hz3
  go_wp2_with fail
  change Calls _ _ _ (w2.alloc (.cells ((⟨s, 8, 0⟩ : RV).cells M ++ restOf m06 0 (.slice none 0 0)).toArray 101)) _
  rw [← HW3.out]
  refine c3.mono ?_
  rintro e w4 ⟨rfl, hK, hb4, hlt4⟩
  have hr4 := hr3.at' hb4
  have hz3 := HZ3.out
  have hn4 := (hb4.block w.heap.size (by omega)).trans hn3
  obtain ⟨B, hBd⟩ : ∃ B, w2.heap.size = B := ⟨_, rfl⟩
  obtain ⟨b, hbd⟩ : ∃ b, w3.heap.size = b := ⟨_, rfl⟩
  rw [hBd] at hMl hs2 hz3 hr4
  rw [hbd] at hK hlt4 hz3
  have hp4 : PtsMem (B + 1) B M m06 (.slice none 0 0) [] w4 := PtsMem.start (by omega) (by omega) w4
  have hG := Lib.hid (GoingS.start ⟨s, 8, 0⟩)
  have hBw : w.heap.size + 1 ≤ B := by omega
  have hMw : w.heap.size + 1 ≤ M := by omega
  have hbB : B < b := by omega
  have hwb : B + 1 ≤ w4.heap.size := by omega
  rw [hBd, hbd]
  obtain ⟨n0, hn0⟩ : ∃ n0, n0 = s.size + 1 := ⟨_, rfl⟩
  clear c3 hr3 hb4 hn3 hB2 HW3 HZ3 hbd hBd hs1 hM hs2 hlt4 hz3
  go_wp2
  go_loopg [] n0 (fun gg wr => ∃ (rk : RV) (m : MoV) (last : Int) (cv : Value) (codes : List FnV), RdAt w B M 101 (restOf m last cv) rk wr ∧ PtsMem (B + 1) B M m cv codes wr ∧ 0 ≤ last ∧ last ≤ 11 ∧ Hid (GoingS ⟨s, 8, 0⟩ rk (ptsOf m last codes)) ∧ rk.s = s ∧ (rk.e = 0 → s.size + 1 ≤ gg + rk.pos) ∧ Known wr b ∧ wr.heap[w.heap.size]? = some (.cells #[.slice none 0 0, .slice none 0 0, .slice none 0 0, .slice none 0 0, .slice none 0 0, .int .i64 0, .slice none 0 0] 35) ∧ B + 1 ≤ wr.heap.size)
  case atStart => exact ⟨⟨s, 8, 0⟩, m06, 0, _, [], hr4, hp4, by decide, by decide, hG, rfl, fun _ => by omega, hK, hn4, hwb⟩
  case round =>
    clear hr4 hp4 hG hK hn4 hwb hn0
    obtain ⟨rk, m, last, cv, codes, hr, hp, l0, l1, hG, hrs, hgk, hK, hn, hwb⟩ := hrel
    obtain ⟨x0, x1, x2, x3, y0, y1, y2, y3⟩ := hr.reads
    have hsz : rk.s.size = s.size := by rw [hrs]
    by_cases he : rk.e = 0
    · by_cases hpos : rk.pos < rk.s.size
      · have cs := sect_reads hLaid hr hp hwb (by omega) hK (by omega) (by omega) ⟨l0, l1⟩
        have hlt : (rk.pos : Int) < (rk.s.size : Int) := by omega
        have hgk2 := hgk he
        rw [he] at x2
        have HE := Lib.hid he
        have HP := Lib.hid hpos
        have hbl : b < wr.heap.size := ownsMap_in hK
        clear hgk he hpos
        go_wp2_with fail
        refine cs.mono ?_
        rintro e w5 ⟨m', last', cv', codes', r', rfl, g5, h5, m5, hp5, l0', l1'⟩
        have hK5 := hK.same (m5.block b hbl (by omega) (by omega))
        have hn5 := (m5.block w.heap.size (in_heap6 hn) (by omega) (by omega)).trans hn
        have hG5 := Lib.hid (hG.out.step HE.out HP.out g5)
        have hrs5 : r'.s = s := g5.1.trans hrs
        have hwb5 : B + 1 ≤ w5.heap.size := Nat.le_trans hwb m5.size
        have HG5 := Lib.hid g5
        have HS5 := Lib.hid hrs5
        have HN5 := Lib.hid hn5
        clear cs hr hp hG hK hn g5 m5 x0 x1 x2 x3 y0 y1 y2 y3 hrs5 hn5
        go_wp2
        go_roundg (gk - 1)
        case rel => exact ⟨r', m', last', cv', codes', h5, hp5, l0', l1', hG5, HS5.out, fun h0 => by have := HG5.out.sectEats HE.out h0; omega, hK5, HN5.out, hwb5⟩
        case measure => have := HP.out; omega
      · have hdone := hG.out.done (.inl (Nat.le_of_not_lt hpos))
        rw [he] at x2
        have hlt : ¬ (rk.pos : Int) < (rk.s.size : Int) := by omega
        clear hpos hgk he
        have cj := join_ends hs HH.out hr hp hwb hBw hMw hn hdone
        clear hdone hr hp hn hG hK
        go_wp2_with fail
        refine cj.mono ?_
        rintro e w6 ⟨rfl, mJ, rJ, h6, p6, hn6, a1, a2⟩
        obtain ⟨z0, z1, z2, z3, f0, f1, f2, f3⟩ := h6.reads
        obtain ⟨q4, q5, q6, q7, q8, q9, q10⟩ := restOf_mod _ _ _ h6
        obtain ⟨⟨b0, b1, b2, b3, b4, b5, b6⟩, ⟨v0, v1, v2, v3, v4, v5, v6⟩, hlt6⟩ := box76 hn6
        have hbel := h6.below
        clear cj x0 x1 x2 x3 y0 y1 y2 y3 hn6 h6
        by_cases heJ : rJ.e = 0
        · have hans := Lib.hid (a2 heJ)
          rw [heJ] at z2
          have hpz := p6.keep (W1 := set7 w6 w.heap.size (.slice mJ.tp mJ.types.length mJ.tc) (.slice mJ.fp mJ.funcs.length mJ.fc) (.slice mJ.mp mJ.memory.length mJ.mc) (.slice mJ.gp mJ.globals.length mJ.gc) (.slice mJ.ep mJ.exports.length mJ.ec) (.int .i64 mJ.start) (.slice mJ.dp mJ.data.length mJ.dc)) (fun k hk _ => set7_other _ _ _ _ _ _ _ _ _ (by omega))
          have HMA : Hid (ModNew w _ mJ) := Lib.hid (fun W hk => (hpz.keep fun k h1 h2 => hk k (by omega) h2).modAt)
          have HBL := Lib.hid (set7_below hbel (Nat.le_refl _) (.slice mJ.tp mJ.types.length mJ.tc) (.slice mJ.fp mJ.funcs.length mJ.fc) (.slice mJ.mp mJ.memory.length mJ.mc) (.slice mJ.gp mJ.globals.length mJ.gc) (.slice mJ.ep mJ.exports.length mJ.ec) (.int .i64 mJ.start) (.slice mJ.dp mJ.data.length mJ.dc))
          clear a1 a2 p6 heJ hbel hpz
          go_wp2
          refine bodyPost_ret (v := .tuple #[mJ.val, .int .i64 0]) ?_ rfl ?_
          · rw [results_cell_tmp6 rfl]; simp [MoV.val]; go_simp
          · exact ⟨mJ, by rw [hans.out], by rw [hans.out], HMA.out, HBL.out⟩
        · have hans := Lib.hid (a1 heJ)
          have hqJ : (rJ.e != 0) = true := by simpa using heJ
          have HBL := Lib.hid (set7_below hbel (Nat.le_refl _) (.slice none 0 0) (.slice none 0 0) (.slice none 0 0) (.slice none 0 0) (.slice none 0 0) (.int .i64 0) (.slice none 0 0)).drew
          clear a1 a2 p6 heJ hbel
          go_wp2
          go_region
          all_goals
            go_wp2
            refine bodyPost_ret (v := .tuple #[zeroM.val, .int .i64 rJ.e]) ?_ rfl ?_
            · rw [results_cell_tmp6 rfl]; simp [zeroM, MoV.val]; go_simp
            · exact ⟨zeroM, by rw [hans.out], by rw [hans.out]; rfl, fun _ _ => zero_at _, HBL.out⟩
    · have hdone := hG.out.done (.inr he)
      have hqe : (rk.e == 0) = false := beq_eq_false_iff_ne.2 he
      clear hgk he
      have cj := join_ends hs HH.out hr hp hwb hBw hMw hn hdone
      clear hdone hr hp hn hG hK
      go_wp2_with fail
      refine cj.mono ?_
      rintro e w6 ⟨rfl, mJ, rJ, h6, p6, hn6, a1, a2⟩
      obtain ⟨z0, z1, z2, z3, f0, f1, f2, f3⟩ := h6.reads
      obtain ⟨q4, q5, q6, q7, q8, q9, q10⟩ := restOf_mod _ _ _ h6
      obtain ⟨⟨b0, b1, b2, b3, b4, b5, b6⟩, ⟨v0, v1, v2, v3, v4, v5, v6⟩, hlt6⟩ := box76 hn6
      have hbel := h6.below
      clear cj x0 x1 x2 x3 y0 y1 y2 y3 hn6 h6
      by_cases heJ : rJ.e = 0
      · have hans := Lib.hid (a2 heJ)
        rw [heJ] at z2
        have hpz := p6.keep (W1 := set7 w6 w.heap.size (.slice mJ.tp mJ.types.length mJ.tc) (.slice mJ.fp mJ.funcs.length mJ.fc) (.slice mJ.mp mJ.memory.length mJ.mc) (.slice mJ.gp mJ.globals.length mJ.gc) (.slice mJ.ep mJ.exports.length mJ.ec) (.int .i64 mJ.start) (.slice mJ.dp mJ.data.length mJ.dc)) (fun k hk _ => set7_other _ _ _ _ _ _ _ _ _ (by omega))
        have HMA : Hid (ModNew w _ mJ) := Lib.hid (fun W hk => (hpz.keep fun k h1 h2 => hk k (by omega) h2).modAt)
        have HBL := Lib.hid (set7_below hbel (Nat.le_refl _) (.slice mJ.tp mJ.types.length mJ.tc) (.slice mJ.fp mJ.funcs.length mJ.fc) (.slice mJ.mp mJ.memory.length mJ.mc) (.slice mJ.gp mJ.globals.length mJ.gc) (.slice mJ.ep mJ.exports.length mJ.ec) (.int .i64 mJ.start) (.slice mJ.dp mJ.data.length mJ.dc))
        clear a1 a2 p6 heJ hbel hpz
        go_wp2
        refine bodyPost_ret (v := .tuple #[mJ.val, .int .i64 0]) ?_ rfl ?_
        · rw [results_cell_tmp6 rfl]; simp [MoV.val]; go_simp
        · exact ⟨mJ, by rw [hans.out], by rw [hans.out], HMA.out, HBL.out⟩
      · have hans := Lib.hid (a1 heJ)
        have hqJ : (rJ.e != 0) = true := by simpa using heJ
        have HBL := Lib.hid (set7_below hbel (Nat.le_refl _) (.slice none 0 0) (.slice none 0 0) (.slice none 0 0) (.slice none 0 0) (.slice none 0 0) (.int .i64 0) (.slice none 0 0)).drew
        clear a1 a2 p6 heJ hbel
        go_wp2
        go_region
        all_goals
          go_wp2
          refine bodyPost_ret (v := .tuple #[zeroM.val, .int .i64 rJ.e]) ?_ rfl ?_
          · rw [results_cell_tmp6 rfl]; simp [zeroM, MoV.val]; go_simp
          · exact ⟨zeroM, by rw [hans.out], by rw [hans.out]; rfl, fun _ _ => zero_at _, HBL.out⟩
theorem dec_mod (s : ByteArray) (w : World) (hLaid : Laid w) : Calls Tryz.prog 13 #[.string s] w (AnsMod s w) := by
  by_cases h1 : s.size ≤ 1048576
  · by_cases h2 : s.data.toList.take 8 = head6
    · exact mod_reads s w hLaid h1 h2
    · exact mod_head s w h1 h2
  · exact mod_long s w (by omega)
theorem belt6 {B : Nat} {w W W' : World} (h : Below B w W) (hB : B ≤ w.heap.size) (h2 : Below W.heap.size W W') : Below B w W' := h.trans (h2.mono (Nat.le_trans hB h.size))
theorem bare_none {m : MoV} {n : Int} (h : m.bare = ⟨none, 0, [], none, 0, [], none, 0, [], none, 0, [], none, 0, [], n, none, 0, []⟩) : ∃ tp tc fp fc mp mc gp gc ep ec dp dc, m = ⟨tp, tc, [], fp, fc, [], mp, mc, [], gp, gc, [], ep, ec, [], n, dp, dc, []⟩ := by
  obtain ⟨tp, tc, types, fp, fc, funcs, mp, mc, memory, gp, gc, globals, ep, ec, exports, start, dp, dc, data⟩ := m
  simp only [MoV.bare, MoV.mk.injEq, List.map_eq_nil_iff, true_and] at h
  obtain ⟨rfl, rfl, rfl, rfl, rfl, rfl, rfl⟩ := h
  exact ⟨tp, tc, fp, fc, mp, mc, gp, gc, ep, ec, dp, dc, rfl⟩
theorem examples6 (w : World) (hLaid : Laid w) : Calls Tryz.prog 9 #[] w fun e w' => e = .returned (.bool true) ∧ Below w.heap.size w w' := by
  have c1 : ∀ W, Laid W → Calls Tryz.prog 13 #[.string ⟨#[0, 97, 115, 109, 1, 0, 0, 0]⟩] W fun e w' => ∃ tp tc fp fc mp mc gp gc ep ec dp dc, e = .returned (.tuple #[.agg #[.slice tp 0 tc, .slice fp 0 fc, .slice mp 0 mc, .slice gp 0 gc, .slice ep 0 ec, .int .i64 (-1), .slice dp 0 dc], .int .i64 0]) ∧ Below W.heap.size W w' := fun W hW => by
    refine (dec_mod ⟨#[0, 97, 115, 109, 1, 0, 0, 0]⟩ W hW).mono ?_
    rintro e w' ⟨m, rfl, hb, _, hbel⟩
    have h2 : (modAns (⟨#[0, 97, 115, 109, 1, 0, 0, 0]⟩ : ByteArray).data.toList) = (⟨none, 0, [], none, 0, [], none, 0, [], none, 0, [], none, 0, [], -1, none, 0, []⟩, 0) := rfl
    rw [h2] at hb ⊢
    obtain ⟨tp, tc, fp, fc, mp, mc, gp, gc, ep, ec, dp, dc, rfl⟩ := bare_none hb
    exact ⟨tp, tc, fp, fc, mp, mc, gp, gc, ep, ec, dp, dc, rfl, hbel⟩
  have c2 : ∀ W, Laid W → Calls Tryz.prog 13 #[.string ⟨#[]⟩] W fun e w' => ∃ tp tc fp fc mp mc gp gc ep ec dp dc, e = .returned (.tuple #[.agg #[.slice tp 0 tc, .slice fp 0 fc, .slice mp 0 mc, .slice gp 0 gc, .slice ep 0 ec, .int .i64 0, .slice dp 0 dc], .int .i64 2]) ∧ Below W.heap.size W w' := fun W hW => by
    refine (dec_mod ⟨#[]⟩ W hW).mono ?_
    rintro e w' ⟨m, rfl, hb, _, hbel⟩
    have h2 : (modAns (⟨#[]⟩ : ByteArray).data.toList) = (zeroM, 2) := rfl
    rw [h2] at hb ⊢
    obtain ⟨tp, tc, fp, fc, mp, mc, gp, gc, ep, ec, dp, dc, rfl⟩ := bare_none hb
    exact ⟨tp, tc, fp, fc, mp, mc, gp, gc, ep, ec, dp, dc, rfl, hbel⟩
  have c3 : ∀ W, Laid W → Calls Tryz.prog 16 #[.string ⟨#[65, 127]⟩, .int .i64 0] W fun e w' => ∃ lp lc, e = .returned (.tuple #[.agg #[.int .i64 65, .int .i64 (-1), .int .i64 0, .slice lp 0 lc], .int .i64 2, .int .i64 0]) ∧ Below W.heap.size W w' := fun W hW => by
    refine (dec_instr ⟨#[65, 127]⟩ 0 (by decide) W hW).mono ?_
    rintro e w' ⟨x, rfl, hb, _, hbel⟩
    have h2 : (insAns (⟨#[65, 127]⟩ : ByteArray).data.toList 0) = (bareI 65 (-1) 0 [], 2, 0) := by kernel_rfl
    rw [h2] at hb ⊢
    obtain ⟨op, a, b, lp, lc, ls⟩ := x
    simp only [InsV.bare, bareI, InsV.mk.injEq, true_and] at hb
    obtain ⟨rfl, rfl, rfl, rfl⟩ := hb
    exact ⟨lp, lc, rfl, hbel⟩
  go_enter Tryz.func9, Tryz.ntmps9
  go_wp2_with fail
  refine (c1 _ hLaid).mono ?_
  rintro e w1 ⟨tp, tc, fp, fc, mp, mc, gp, gc, ep, ec, dp, dc, rfl, hb1⟩
  obtain ⟨wa, hwa⟩ : ∃ wa, wa = w1.alloc (.cells #[.slice tp 0 tc, .slice fp 0 fc, .slice mp 0 mc, .slice gp 0 gc, .slice ep 0 ec, .int .i64 (-1), .slice dp 0 dc] 35) := ⟨_, rfl⟩
  have hba : Below w.heap.size w wa := by rw [hwa]; exact hb1.alloc hb1.size _
  have hna : wa.heap[w1.heap.size]? = some (.cells #[.slice tp 0 tc, .slice fp 0 fc, .slice mp 0 mc, .slice gp 0 gc, .slice ep 0 ec, .int .i64 (-1), .slice dp 0 dc] 35) := by rw [hwa]; exact heap_alloc_new w1 _
  have hla : w1.heap.size < wa.heap.size := in_heap6 hna
  have HA := Lib.hid hwa
  have hLa := hLaid.below hba
  clear hwa hb1 c1
  go_wp2_with fail
  rw [← HA.out]
  refine (c3 _ hLa).mono ?_
  rintro e w2 ⟨lp, lc, rfl, hb2⟩
  obtain ⟨wb, hwb⟩ : ∃ wb, wb = w2.alloc (.cells #[.int .i64 65, .int .i64 (-1), .int .i64 0, .slice lp 0 lc] 46) := ⟨_, rfl⟩
  have hs2 := hb2.size
  have hB2 := belt6 hba (Nat.le_refl _) hb2
  have hbb : Below w.heap.size w wb := by rw [hwb]; exact hB2.alloc hB2.size _
  have hnb : wb.heap[w1.heap.size]? = some (.cells #[.slice tp 0 tc, .slice fp 0 fc, .slice mp 0 mc, .slice gp 0 gc, .slice ep 0 ec, .int .i64 (-1), .slice dp 0 dc] 35) := by rw [hwb]; exact (Below.heap_alloc w2 _ _ (by omega)).trans ((hb2.block _ hla).trans hna)
  have hxb : wb.heap[w2.heap.size]? = some (.cells #[.int .i64 65, .int .i64 (-1), .int .i64 0, .slice lp 0 lc] 46) := by rw [hwb]; exact heap_alloc_new w2 _
  have HB := Lib.hid hwb
  have hLb := hLaid.below hbb
  have hlb : w1.heap.size < wb.heap.size := in_heap6 hnb
  have hlb2 : w2.heap.size < wb.heap.size := in_heap6 hxb
  clear hwb hb2 hB2 hba hLa hna c3 HA
  go_wp2_with fail
  rw [← HB.out]
  refine (c2 _ hLb).mono ?_
  rintro e w3 ⟨tp3, tc3, fp3, fc3, mp3, mc3, gp3, gc3, ep3, ec3, dp3, dc3, rfl, hb3⟩
  have hn3 := (hb3.block _ hlb).trans hnb
  have hx3 := (hb3.block _ hlb2).trans hxb
  have hB3 := belt6 hbb (Nat.le_refl _) hb3
  obtain ⟨⟨a0, a1, a2, a3, a4, a5, a6⟩, _, hlt⟩ := box76 hn3
  obtain ⟨k0, k1, k2, k3, b0, b1, b2, b3, _⟩ := box_at hx3
  have hlt2 := in_heap6 hx3
  clear c2 hnb hxb hbb hLb hb3 hn3 hx3 HB
  go_wp2
  go_ret
  exact ⟨rfl, hB3.alloc hB3.size _⟩
end Go.Proofs.YtdinpakclmnacaaGreatDoor
