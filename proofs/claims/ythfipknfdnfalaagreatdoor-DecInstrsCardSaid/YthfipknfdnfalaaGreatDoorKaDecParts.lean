/-
  Package dec's methods that read a part of a module: walked. Contracts that the proofs call; no statement is proved here.
-/
import Derived.Test.YthfipknfdnfalaaGreatDoorKaDecBody
import Derived.Test.YthfipknfdnfalaaGreatDoorKaFnMap
import Derived.WalkArith
namespace Go.Proofs.YthfipknfdnfalaaGreatDoor
open Go.RowKit
set_option linter.unusedVariables false
theorem enters_funcType : ∀ args w, (callFunc 207 args).run Tryz.prog w = .ok (.enter 207 args) w := enters_of Tryz.func207 (by kernel_rfl) rfl
set_option maxRecDepth 100000 in
set_option maxHeartbeats 4000000 in
theorem readTypes_part {w0 : World} (hLaid : Laid w0) {base B M : Nat} {T : TypeId} {m : MoV} {last : Int} {cv : Value} {codes : List FnV} {r : RV} {w : World} (h : RdAt w0 B M T (restOf m last cv) r w) (hp : PtsMem base B M m cv codes w) (hb : base ≤ w.heap.size) :
    Calls Tryz.prog 129 #[.pointer (some ⟨B, 0, none⟩)] w (DidPart w0 base B M T last r w (pPart 1 (ptsOf m last codes))) := by
  have c1 := list_FuncType (lb := #[]) (P := pTy) (ok := okTy w w) enters_funcType (functype_reads w0) h
  go_enter Tryz.func129, Tryz.ntmps129
  go_wp2_with fail
  refine c1.mono ?_
  rintro e w1 ⟨l, r1, v, rfl, g1, h1, m1, hown, hok, hl⟩
  obtain ⟨vp, vc, rfl⟩ := own_any6 hown
  obtain ⟨u, hu⟩ := restOf_all m last cv h1 4 (by decide)
  have hf := (restOf_cells m last cv h1).2 4
  have h2 := h1.setRest (rest' := restOf (m.with_types vp vc l) last cv) 0 (.slice vp l.length vc) rfl
  have m2 := m1.set 4 (.slice vp l.length vc)
  have hp2 : PtsMem base B M (m.with_types vp vc l) cv codes (w1.setCell ⟨B, 4, none⟩ (.slice vp l.length vc)) := ((hp.mov m1).set_types hb hown hok hl).mov ((Mov.refl B M w1).set 4 _)
  have hgot : Got (pPart 1 (ptsOf m last codes)) r r1 (ptsOf (m.with_types vp vc l) last codes) := by
    rw [show pPart 1 (ptsOf m last codes) = (pList pTy).and fun l => .val { ptsOf m last codes with types := l } from by unfold pPart; simp]
    exact g1.map (fun l => ({ ptsOf m last codes with types := l } : Pts))
  have HG := Lib.hid hgot
  clear c1 h1 m1 hown hgot g1
  go_wp2
  go_end0
  exact ⟨m.with_types vp vc l, cv, codes, r1, rfl, HG.out, h2, m2, hp2⟩
theorem enters_memory : ∀ args w, (callFunc 211 args).run Tryz.prog w = .ok (.enter 211 args) w := enters_of Tryz.func211 (by kernel_rfl) rfl
set_option maxRecDepth 100000 in
set_option maxHeartbeats 4000000 in
theorem readMemory_part {w0 : World} (hLaid : Laid w0) {base B M : Nat} {T : TypeId} {m : MoV} {last : Int} {cv : Value} {codes : List FnV} {r : RV} {w : World} (h : RdAt w0 B M T (restOf m last cv) r w) (hp : PtsMem base B M m cv codes w) (hb : base ≤ w.heap.size) :
    Calls Tryz.prog 131 #[.pointer (some ⟨B, 0, none⟩)] w (DidPart w0 base B M T last r w (pPart 5 (ptsOf m last codes))) := by
  have c1 := list_Memory (lb := #[]) (P := pMem) (ok := okMem w w) enters_memory (memory_reads w0) h
  go_enter Tryz.func131, Tryz.ntmps131
  go_wp2_with fail
  refine c1.mono ?_
  rintro e w1 ⟨l, r1, v, rfl, g1, h1, m1, hown, hok, hl⟩
  obtain ⟨vp, vc, rfl⟩ := own_any6 hown
  obtain ⟨u, hu⟩ := restOf_all m last cv h1 6 (by decide)
  have hf := (restOf_cells m last cv h1).2 6
  have h2 := h1.setRest (rest' := restOf (m.with_memory vp vc l) last cv) 2 (.slice vp l.length vc) rfl
  have m2 := m1.set 6 (.slice vp l.length vc)
  have hp2 : PtsMem base B M (m.with_memory vp vc l) cv codes (w1.setCell ⟨B, 6, none⟩ (.slice vp l.length vc)) := ((hp.mov m1).set_memory hb hown hok hl).mov ((Mov.refl B M w1).set 6 _)
  have hgot : Got (pPart 5 (ptsOf m last codes)) r r1 (ptsOf (m.with_memory vp vc l) last codes) := by
    rw [show pPart 5 (ptsOf m last codes) = (pList pMem).and fun l => .val { ptsOf m last codes with memory := l } from by unfold pPart; simp]
    exact g1.map (fun l => ({ ptsOf m last codes with memory := l } : Pts))
  have HG := Lib.hid hgot
  clear c1 h1 m1 hown hgot g1
  go_wp2
  go_end0
  exact ⟨m.with_memory vp vc l, cv, codes, r1, rfl, HG.out, h2, m2, hp2⟩
theorem enters_global : ∀ args w, (callFunc 213 args).run Tryz.prog w = .ok (.enter 213 args) w := enters_of Tryz.func213 (by kernel_rfl) rfl
set_option maxRecDepth 100000 in
set_option maxHeartbeats 4000000 in
theorem readGlobals_part {w0 : World} (hLaid : Laid w0) {base B M : Nat} {T : TypeId} {m : MoV} {last : Int} {cv : Value} {codes : List FnV} {r : RV} {w : World} (h : RdAt w0 B M T (restOf m last cv) r w) (hp : PtsMem base B M m cv codes w) (hb : base ≤ w.heap.size) :
    Calls Tryz.prog 132 #[.pointer (some ⟨B, 0, none⟩)] w (DidPart w0 base B M T last r w (pPart 6 (ptsOf m last codes))) := by
  have c1 := list_Global (lb := #[]) (P := pGlob) (ok := okGlob w w) enters_global (global_reads w0) h
  go_enter Tryz.func132, Tryz.ntmps132
  go_wp2_with fail
  refine c1.mono ?_
  rintro e w1 ⟨l, r1, v, rfl, g1, h1, m1, hown, hok, hl⟩
  obtain ⟨vp, vc, rfl⟩ := own_any6 hown
  obtain ⟨u, hu⟩ := restOf_all m last cv h1 7 (by decide)
  have hf := (restOf_cells m last cv h1).2 7
  have h2 := h1.setRest (rest' := restOf (m.with_globals vp vc l) last cv) 3 (.slice vp l.length vc) rfl
  have m2 := m1.set 7 (.slice vp l.length vc)
  have hp2 : PtsMem base B M (m.with_globals vp vc l) cv codes (w1.setCell ⟨B, 7, none⟩ (.slice vp l.length vc)) := ((hp.mov m1).set_globals hb hown hok hl).mov ((Mov.refl B M w1).set 7 _)
  have hgot : Got (pPart 6 (ptsOf m last codes)) r r1 (ptsOf (m.with_globals vp vc l) last codes) := by
    rw [show pPart 6 (ptsOf m last codes) = (pList pGlob).and fun l => .val { ptsOf m last codes with globals := l } from by unfold pPart; simp]
    exact g1.map (fun l => ({ ptsOf m last codes with globals := l } : Pts))
  have HG := Lib.hid hgot
  clear c1 h1 m1 hown hgot g1
  go_wp2
  go_end0
  exact ⟨m.with_globals vp vc l, cv, codes, r1, rfl, HG.out, h2, m2, hp2⟩
theorem enters_export : ∀ args w, (callFunc 215 args).run Tryz.prog w = .ok (.enter 215 args) w := enters_of Tryz.func215 (by kernel_rfl) rfl
set_option maxRecDepth 100000 in
set_option maxHeartbeats 4000000 in
theorem readExports_part {w0 : World} (hLaid : Laid w0) {base B M : Nat} {T : TypeId} {m : MoV} {last : Int} {cv : Value} {codes : List FnV} {r : RV} {w : World} (h : RdAt w0 B M T (restOf m last cv) r w) (hp : PtsMem base B M m cv codes w) (hb : base ≤ w.heap.size) :
    Calls Tryz.prog 133 #[.pointer (some ⟨B, 0, none⟩)] w (DidPart w0 base B M T last r w (pPart 7 (ptsOf m last codes))) := by
  have c1 := list_Export (lb := #[]) (P := pExp) (ok := okExp w w) enters_export (fun _ _ _ _ _ _ h => export_reads hLaid h) h
  go_enter Tryz.func133, Tryz.ntmps133
  go_wp2_with fail
  refine c1.mono ?_
  rintro e w1 ⟨l, r1, v, rfl, g1, h1, m1, hown, hok, hl⟩
  obtain ⟨vp, vc, rfl⟩ := own_any6 hown
  obtain ⟨u, hu⟩ := restOf_all m last cv h1 8 (by decide)
  have hf := (restOf_cells m last cv h1).2 8
  have h2 := h1.setRest (rest' := restOf (m.with_exports vp vc l) last cv) 4 (.slice vp l.length vc) rfl
  have m2 := m1.set 8 (.slice vp l.length vc)
  have hp2 : PtsMem base B M (m.with_exports vp vc l) cv codes (w1.setCell ⟨B, 8, none⟩ (.slice vp l.length vc)) := ((hp.mov m1).set_exports hb hown hok hl).mov ((Mov.refl B M w1).set 8 _)
  have hgot : Got (pPart 7 (ptsOf m last codes)) r r1 (ptsOf (m.with_exports vp vc l) last codes) := by
    rw [show pPart 7 (ptsOf m last codes) = (pList pExp).and fun l => .val { ptsOf m last codes with exports := l } from by unfold pPart; simp]
    exact g1.map (fun l => ({ ptsOf m last codes with exports := l } : Pts))
  have HG := Lib.hid hgot
  clear c1 h1 m1 hown hgot g1
  go_wp2
  go_end0
  exact ⟨m.with_exports vp vc l, cv, codes, r1, rfl, HG.out, h2, m2, hp2⟩
theorem enters_data : ∀ args w, (callFunc 218 args).run Tryz.prog w = .ok (.enter 218 args) w := enters_of Tryz.func218 (by kernel_rfl) rfl
set_option maxRecDepth 100000 in
set_option maxHeartbeats 4000000 in
theorem readData_part {w0 : World} (hLaid : Laid w0) {base B M : Nat} {T : TypeId} {m : MoV} {last : Int} {cv : Value} {codes : List FnV} {r : RV} {w : World} (h : RdAt w0 B M T (restOf m last cv) r w) (hp : PtsMem base B M m cv codes w) (hb : base ≤ w.heap.size) :
    Calls Tryz.prog 136 #[.pointer (some ⟨B, 0, none⟩)] w (DidPart w0 base B M T last r w (pPart 11 (ptsOf m last codes))) := by
  have c1 := list_Data (lb := #[]) (P := pDat) (ok := okDat w w) enters_data (data_reads w0) h
  go_enter Tryz.func136, Tryz.ntmps136
  go_wp2_with fail
  refine c1.mono ?_
  rintro e w1 ⟨l, r1, v, rfl, g1, h1, m1, hown, hok, hl⟩
  obtain ⟨vp, vc, rfl⟩ := own_any6 hown
  obtain ⟨u, hu⟩ := restOf_all m last cv h1 10 (by decide)
  have hf := (restOf_cells m last cv h1).2 10
  have h2 := h1.setRest (rest' := restOf (m.with_data vp vc l) last cv) 6 (.slice vp l.length vc) rfl
  have m2 := m1.set 10 (.slice vp l.length vc)
  have hp2 : PtsMem base B M (m.with_data vp vc l) cv codes (w1.setCell ⟨B, 10, none⟩ (.slice vp l.length vc)) := ((hp.mov m1).set_data hb hown hok hl).mov ((Mov.refl B M w1).set 10 _)
  have hgot : Got (pPart 11 (ptsOf m last codes)) r r1 (ptsOf (m.with_data vp vc l) last codes) := by
    rw [show pPart 11 (ptsOf m last codes) = (pList pDat).and fun l => .val { ptsOf m last codes with data := l } from by unfold pPart; simp]
    exact g1.map (fun l => ({ ptsOf m last codes with data := l } : Pts))
  have HG := Lib.hid hgot
  clear c1 h1 m1 hown hgot g1
  go_wp2
  go_end0
  exact ⟨m.with_data vp vc l, cv, codes, r1, rfl, HG.out, h2, m2, hp2⟩
theorem enters_funcs1 : ∀ args w, (callFunc 209 args).run Tryz.prog w = .ok (.enter 209 args) w := enters_of Tryz.func209 (by kernel_rfl) rfl
theorem enters_code : ∀ args w, (callFunc 216 args).run Tryz.prog w = .ok (.enter 216 args) w := enters_of Tryz.func216 (by kernel_rfl) rfl
set_option maxRecDepth 100000 in
set_option maxHeartbeats 4000000 in
theorem funcs1_reads {w0 : World} {B M : Nat} {T : TypeId} {rest : List Value} {r : RV} {w : World} (h : RdAt w0 B M T rest r w) :
    Calls Tryz.prog 209 #[.pointer (some ⟨B, 0, none⟩)] w (DidFn w0 B M T rest r w pFn) := by
  have hlt := h.lt
  have hw0 := h.below.size
  have hr := heap_alloc_new w (.cells #[.int .i64 0, .string ⟨#[]⟩, .slice none 0 0] 70)
  have c1 := number_reads w0 B M T rest r _ (h.alloc (.cells #[.int .i64 0, .string ⟨#[]⟩, .slice none 0 0] 70))
  clear h
  go_enter Tryz.func209, Tryz.ntmps209
  go_wp2_with fail
  refine c1.mono ?_
  rintro e w1 ⟨n, r1, rfl, g1, h1, m1, ok1⟩
  have n1 : w.heap.size ≠ B := by omega
  have n2 : w.heap.size ≠ M := by omega
  have hr1 := (m1.block _ (in_heap6 hr) n1 n2).trans hr
  have d0 : w1.cell? ⟨w.heap.size, 0, none⟩ = some (.int .i64 0) := by simp [World.cell?, hr1]
  have d1 : w1.cell? ⟨w.heap.size, 1, none⟩ = some (.string ⟨#[]⟩) := by simp [World.cell?, hr1]
  have d2 : w1.cell? ⟨w.heap.size, 2, none⟩ = some (.slice none 0 0) := by simp [World.cell?, hr1]
  have e0 : w1.frozen? ⟨w.heap.size, 0, none⟩ = false := by simp [World.frozen?, hr1]
  have e1 : w1.frozen? ⟨w.heap.size, 1, none⟩ = false := by simp [World.frozen?, hr1]
  have e2 : w1.frozen? ⟨w.heap.size, 2, none⟩ = false := by simp [World.frozen?, hr1]
  have hlt1 := in_heap6 hr1
  have hn : inI64 n := i64_word ok1
  have hgot : Got pFn r r1 (FnV.bare ⟨n, ⟨#[]⟩, none, 0, []⟩) := g1.map (fun n => (⟨n, bs [], none, 0, []⟩ : FnV))
  have HG := Lib.hid hgot
  have mm := ((Mov.refl B M w).alloc (.cells #[.int .i64 0, .string ⟨#[]⟩, .slice none 0 0] 70)).trans m1
  clear c1 hr hr1 g1 m1 hgot
  dsimp only [valInt]
  go_wp2
  refine bodyPost_ret (v := FnV.val ⟨n, ⟨#[]⟩, none, 0, []⟩) ?_ rfl ?_
  · rw [results_one_cell rfl]; simp [FnV.val]; go_simp
  · exact ⟨⟨n, ⟨#[]⟩, none, 0, []⟩, r1, rfl, HG.out, ((h1.other 0 _ n1 n2 (by omega)).other 1 _ n1 n2 (by omega)).other 2 _ n1 n2 (by omega), ((mm.setNew 0 _ (by omega)).setNew 1 _ (by omega)).setNew 2 _ (by omega), World.ownsRow_nil _ _ _ _, fun x hx => absurd hx List.not_mem_nil, by simp, by show (0 : Nat) ≤ 16384; decide, hn⟩
set_option maxRecDepth 100000 in
set_option maxHeartbeats 4000000 in
theorem readFuncs_part {w0 : World} (hLaid : Laid w0) {base B M : Nat} {T : TypeId} {m : MoV} {last : Int} {cv : Value} {codes : List FnV} {r : RV} {w : World} (h : RdAt w0 B M T (restOf m last cv) r w) (hp : PtsMem base B M m cv codes w) (hb : base ≤ w.heap.size) (hs : r.s.size ≤ 1048576) :
    Calls Tryz.prog 130 #[.pointer (some ⟨B, 0, none⟩)] w (DidPart w0 base B M T last r w (pPart 3 (ptsOf m last codes))) := by
  have c1 := list_fns (lb := #[]) (P := pFn) (N := 1048576) enters_funcs1 (fun _ _ _ _ _ _ h _ => funcs1_reads h) h hs
  go_enter Tryz.func130, Tryz.ntmps130
  go_wp2_with fail
  refine c1.mono ?_
  rintro e w1 ⟨l, r1, v, rfl, g1, h1, m1, hown, hfs, hl⟩
  obtain ⟨vp, vc, rfl⟩ := own_any6 hown
  obtain ⟨u, hu⟩ := restOf_all m last cv h1 5 (by decide)
  have hf := (restOf_cells m last cv h1).2 5
  have h2 := h1.setRest (rest' := restOf (m.with_funcs vp vc l) last cv) 1 (.slice vp l.length vc) rfl
  have m2 := m1.set 5 (.slice vp l.length vc)
  have hp2 : PtsMem base B M (m.with_funcs vp vc l) cv codes (w1.setCell ⟨B, 5, none⟩ (.slice vp l.length vc)) := (PtsMem.set_funcs hp (hp.mov m1) hb hown hfs hl).mov ((Mov.refl B M w1).set 5 _)
  have hgot : Got (pPart 3 (ptsOf m last codes)) r r1 (ptsOf (m.with_funcs vp vc l) last codes) := by
    rw [show pPart 3 (ptsOf m last codes) = (pList pFn).and fun l => .val { ptsOf m last codes with funcs := l } from by unfold pPart; simp]
    exact g1.map (fun l => ({ ptsOf m last codes with funcs := l } : Pts))
  have HG := Lib.hid hgot
  clear c1 h1 m1 hown hgot g1
  go_wp2
  go_end0
  exact ⟨m.with_funcs vp vc l, cv, codes, r1, rfl, HG.out, h2, m2, hp2⟩
set_option maxRecDepth 100000 in
set_option maxHeartbeats 4000000 in
theorem readCodes_part {w0 : World} (hLaid : Laid w0) {base B M : Nat} {T : TypeId} {m : MoV} {last : Int} {cv : Value} {codes : List FnV} {r : RV} {w : World} (h : RdAt w0 B M T (restOf m last cv) r w) (hp : PtsMem base B M m cv codes w) (hb : base ≤ w.heap.size) (hs : r.s.size ≤ 1048576) :
    Calls Tryz.prog 135 #[.pointer (some ⟨B, 0, none⟩)] w (DidPart w0 base B M T last r w (pPart 10 (ptsOf m last codes))) := by
  have c1 := list_fns (lb := #[]) (P := pCode) (N := 1048576) enters_code (fun _ _ _ _ _ _ h hs => code_reads hLaid h hs) h hs
  go_enter Tryz.func135, Tryz.ntmps135
  go_wp2_with fail
  refine c1.mono ?_
  rintro e w1 ⟨l, r1, v, rfl, g1, h1, m1, hown, hfs, hl⟩
  obtain ⟨vp, vc, rfl⟩ := own_any6 hown
  obtain ⟨u, hu⟩ := restOf_all m last cv h1 12 (by decide)
  have hf := (restOf_cells m last cv h1).2 12
  have h2 := h1.setRest (rest' := restOf m last (.slice vp l.length vc)) 8 (.slice vp l.length vc) rfl
  have m2 := m1.set 12 (.slice vp l.length vc)
  have hp2 : PtsMem base B M m (.slice vp l.length vc) l (w1.setCell ⟨B, 12, none⟩ (.slice vp l.length vc)) := (PtsMem.set_codes hp (hp.mov m1) hb hown hfs hl).mov ((Mov.refl B M w1).set 12 _)
  have hgot : Got (pPart 10 (ptsOf m last codes)) r r1 (ptsOf m last l) := by
    rw [show pPart 10 (ptsOf m last codes) = (pList pCode).and fun l => .val { ptsOf m last codes with codes := l } from by unfold pPart; simp]
    exact g1.map (fun l => ({ ptsOf m last codes with codes := l } : Pts))
  have HG := Lib.hid hgot
  clear c1 h1 m1 hown hgot g1
  go_wp2
  go_end0
  exact ⟨m, .slice vp l.length vc, l, r1, rfl, HG.out, h2, m2, hp2⟩
set_option maxRecDepth 100000 in
set_option maxHeartbeats 4000000 in
theorem readStart_part {w0 : World} {base B M : Nat} {T : TypeId} {m : MoV} {last : Int} {cv : Value} {codes : List FnV} {r : RV} {w : World} (h : RdAt w0 B M T (restOf m last cv) r w) (hp : PtsMem base B M m cv codes w) :
    Calls Tryz.prog 134 #[.pointer (some ⟨B, 0, none⟩)] w (DidPart w0 base B M T last r w (pPart 8 (ptsOf m last codes))) := by
  have c1 := number_reads w0 B M T _ r w h
  go_enter Tryz.func134, Tryz.ntmps134
  go_wp2_with fail
  refine c1.mono ?_
  rintro e w1 ⟨n, r1, rfl, g1, h1, m1, ok1⟩
  obtain ⟨u, hu⟩ := restOf_all m last cv h1 9 (by decide)
  have hf := (restOf_cells m last cv h1).2 9
  have h2 := h1.setRest (rest' := restOf (m.with_start n) last cv) 5 (.int .i64 n) rfl
  have m2 := m1.set 9 (.int .i64 n)
  have hp2 : PtsMem base B M (m.with_start n) cv codes (w1.setCell ⟨B, 9, none⟩ (.int .i64 n)) := ((hp.mov m1).set_start (i64_word ok1)).mov ((Mov.refl B M w1).set 9 _)
  have hgot : Got (pPart 8 (ptsOf m last codes)) r r1 (ptsOf (m.with_start n) last codes) := by
    rw [show pPart 8 (ptsOf m last codes) = pNum.and fun l => .val { ptsOf m last codes with start := l } from by unfold pPart; simp]
    exact g1.map (fun l => ({ ptsOf m last codes with start := l } : Pts))
  have HG := Lib.hid hgot
  clear c1 h1 m1 hgot g1
  dsimp only [valInt]
  go_wp2
  go_end0
  exact ⟨m.with_start n, cv, codes, r1, rfl, HG.out, h2, m2, hp2⟩
theorem got_all {r r1 : RV} {l : List UInt8} (p : Pts) (g : Got pName r r1 l) : Got (pName.and fun _ _ => .ok p []) r ⟨r1.s, r1.s.size, r1.e⟩ p := by
  refine g.and ⟨rfl, ?_⟩
  by_cases he : r1.e = 0
  · exact .inr (.inl ⟨he, he, by unfold RV.rem; simp [List.drop_eq_nil_of_le, ← ByteArray.size_data]⟩)
  · exact .inl ⟨he, rfl⟩
set_option maxRecDepth 100000 in
set_option maxHeartbeats 4000000 in
theorem passOver_part {w0 : World} (hLaid : Laid w0) {base B M : Nat} {T : TypeId} {m : MoV} {last : Int} {cv : Value} {codes : List FnV} {r : RV} {w : World} (h : RdAt w0 B M T (restOf m last cv) r w) (hp : PtsMem base B M m cv codes w) :
    Calls Tryz.prog 128 #[.pointer (some ⟨B, 0, none⟩)] w (DidPart w0 base B M T last r w (pPart 0 (ptsOf m last codes))) := by
  have c1 := name_reads hLaid h
  go_enter Tryz.func128, Tryz.ntmps128
  go_wp2_with fail
  refine c1.mono ?_
  rintro e w1 ⟨l, r1, rfl, g1, h1, m1, ok1⟩
  obtain ⟨x0, x1, x2, x3, y0, y1, y2, y3⟩ := h1.reads
  have h2 := h1.set1 r1.s.size (Nat.le_refl _)
  have m2 := m1.set 1 (.int .i64 r1.s.size)
  have hp2 := (hp.mov m1).mov ((Mov.refl B M w1).set 1 (.int .i64 r1.s.size))
  have hgot : Got (pPart 0 (ptsOf m last codes)) r ⟨r1.s, r1.s.size, r1.e⟩ (ptsOf m last codes) := by
    rw [show pPart 0 (ptsOf m last codes) = pName.and fun _ _ => .ok (ptsOf m last codes) [] from by unfold pPart; simp]
    exact got_all _ g1
  have HG := Lib.hid hgot
  clear c1 h1 m1 hgot g1
  dsimp only [valStr]
  go_wp2
  go_end0
  exact ⟨m, cv, codes, _, rfl, HG.out, h2, m2, hp2⟩
end Go.Proofs.YthfipknfdnfalaaGreatDoor
namespace Go.Proofs.YthfipknfdnfalaaGreatDoor
open Go.RowKit Go.Maps
set_option linter.unusedVariables false
def partsD : DataW Unit := ((((((((((.map [] : DataW Unit).put (.int .i64 0) (.lit (.int .i64 128))).put (.int .i64 1) (.lit (.int .i64 129))).put (.int .i64 3) (.lit (.int .i64 130))).put (.int .i64 5) (.lit (.int .i64 131))).put (.int .i64 6) (.lit (.int .i64 132))).put (.int .i64 7) (.lit (.int .i64 133))).put (.int .i64 8) (.lit (.int .i64 134))).put (.int .i64 10) (.lit (.int .i64 135))).put (.int .i64 11) (.lit (.int .i64 136)))
theorem parts_zero (w : World) : (zeroValue 188).run Tryz.prog w = .ok .nilFunc w := by kernel_rfl
def Known (w : World) (b : Nat) : Prop := w.ownsMap Tryz.prog 3 (fnRead (H := Unit)) b 9 partsD
theorem Known.same {w w' : World} {b : Nat} (h : Known w b) (e : w'.heap[b]? = w.heap[b]?) : Known w' b := ownsMap_same h e
set_option maxRecDepth 100000 in
set_option maxHeartbeats 2000000 in
theorem sections6 (w : World) : Calls Tryz.prog 50 #[] w fun e w' => e = .returned (.map (some w.heap.size)) ∧ Known w' w.heap.size ∧ Below w.heap.size w w' ∧ w.heap.size < w'.heap.size := by
  have law : Keyed Tryz.prog 3 := int_keyed Tryz.underlying3
  have hwf : ∀ a : Int, -9223372036854775808 ≤ a → a ≤ 9223372036854775807 → (Lit.int .i64 a).wf = true := fun a ha hb => WalkArith.wf_i64 ⟨ha, hb⟩
  have hmm := @run_makeMap Tryz.prog
  have o0 := World.ownsMap_made w Tryz.prog 3 (fnRead (H := Unit))
  obtain ⟨w1, u1, o1, g1⟩ := o0.update law Tryz.underlying115 (by unfold maxLen; omega) (keyOf_int_mk Tryz.underlying3 (hwf 0 (by decide) (by decide))) (fnRead_mk 128)
  obtain ⟨w2, u2, o2, g2⟩ := o1.update law Tryz.underlying115 (by unfold maxLen; omega) (keyOf_int_mk Tryz.underlying3 (hwf 1 (by decide) (by decide))) (fnRead_mk 129)
  obtain ⟨w3, u3, o3, g3⟩ := o2.update law Tryz.underlying115 (by unfold maxLen; omega) (keyOf_int_mk Tryz.underlying3 (hwf 3 (by decide) (by decide))) (fnRead_mk 130)
  obtain ⟨w4, u4, o4, g4⟩ := o3.update law Tryz.underlying115 (by unfold maxLen; omega) (keyOf_int_mk Tryz.underlying3 (hwf 5 (by decide) (by decide))) (fnRead_mk 131)
  obtain ⟨w5, u5, o5, g5⟩ := o4.update law Tryz.underlying115 (by unfold maxLen; omega) (keyOf_int_mk Tryz.underlying3 (hwf 6 (by decide) (by decide))) (fnRead_mk 132)
  obtain ⟨w6, u6, o6, g6⟩ := o5.update law Tryz.underlying115 (by unfold maxLen; omega) (keyOf_int_mk Tryz.underlying3 (hwf 7 (by decide) (by decide))) (fnRead_mk 133)
  obtain ⟨w7, u7, o7, g7⟩ := o6.update law Tryz.underlying115 (by unfold maxLen; omega) (keyOf_int_mk Tryz.underlying3 (hwf 8 (by decide) (by decide))) (fnRead_mk 134)
  obtain ⟨w8, u8, o8, g8⟩ := o7.update law Tryz.underlying115 (by unfold maxLen; omega) (keyOf_int_mk Tryz.underlying3 (hwf 10 (by decide) (by decide))) (fnRead_mk 135)
  obtain ⟨w9, u9, o9, g9⟩ := o8.update law Tryz.underlying115 (by unfold maxLen; omega) (keyOf_int_mk Tryz.underlying3 (hwf 11 (by decide) (by decide))) (fnRead_mk 136)
  have hb : Below w.heap.size w w9 ∧ w.heap.size + 1 ≤ w9.heap.size := by
    have b0 := (Below.refl w.heap.size w).alloc (Nat.le_refl _) (.map #[] 0)
    have z0 : w.heap.size + 1 ≤ (w.alloc (.map #[] 0)).heap.size := by simp
    have b1 := b0.grown g1 (Nat.le_trans (Nat.le_succ _) z0) (fun k hk => by cases hk; exact Nat.le_refl _)
    have z1 : w.heap.size + 1 ≤ w1.heap.size := Nat.le_trans z0 g1.size
    have b2 := b1.grown g2 (Nat.le_trans (Nat.le_succ _) z1) (fun k hk => by cases hk; exact Nat.le_refl _)
    have z2 : w.heap.size + 1 ≤ w2.heap.size := Nat.le_trans z1 g2.size
    have b3 := b2.grown g3 (Nat.le_trans (Nat.le_succ _) z2) (fun k hk => by cases hk; exact Nat.le_refl _)
    have z3 : w.heap.size + 1 ≤ w3.heap.size := Nat.le_trans z2 g3.size
    have b4 := b3.grown g4 (Nat.le_trans (Nat.le_succ _) z3) (fun k hk => by cases hk; exact Nat.le_refl _)
    have z4 : w.heap.size + 1 ≤ w4.heap.size := Nat.le_trans z3 g4.size
    have b5 := b4.grown g5 (Nat.le_trans (Nat.le_succ _) z4) (fun k hk => by cases hk; exact Nat.le_refl _)
    have z5 : w.heap.size + 1 ≤ w5.heap.size := Nat.le_trans z4 g5.size
    have b6 := b5.grown g6 (Nat.le_trans (Nat.le_succ _) z5) (fun k hk => by cases hk; exact Nat.le_refl _)
    have z6 : w.heap.size + 1 ≤ w6.heap.size := Nat.le_trans z5 g6.size
    have b7 := b6.grown g7 (Nat.le_trans (Nat.le_succ _) z6) (fun k hk => by cases hk; exact Nat.le_refl _)
    have z7 : w.heap.size + 1 ≤ w7.heap.size := Nat.le_trans z6 g7.size
    have b8 := b7.grown g8 (Nat.le_trans (Nat.le_succ _) z7) (fun k hk => by cases hk; exact Nat.le_refl _)
    have z8 : w.heap.size + 1 ≤ w8.heap.size := Nat.le_trans z7 g8.size
    have b9 := b8.grown g9 (Nat.le_trans (Nat.le_succ _) z8) (fun k hk => by cases hk; exact Nat.le_refl _)
    have z9 : w.heap.size + 1 ≤ w9.heap.size := Nat.le_trans z8 g9.size
    exact ⟨b9, z9⟩
  obtain ⟨hb, hz⟩ := hb
  have hK : Known w9 w.heap.size := o9
  clear o1 g1 o2 g2 o3 g3 o4 g4 o5 g5 o6 g6 o7 g7 o8 g8 o9 g9 o0
  go_enter Tryz.func50, Tryz.ntmps50
  go_wp2
  go_ret
  exact ⟨rfl, hK, hb, hz⟩
def secFn (n : Int) : Value × Bool :=
  if n = 0 then (.func (.func 128) #[] #[], true) else if n = 1 then (.func (.func 129) #[] #[], true) else if n = 3 then (.func (.func 130) #[] #[], true) else if n = 5 then (.func (.func 131) #[] #[], true) else if n = 6 then (.func (.func 132) #[] #[], true) else if n = 7 then (.func (.func 133) #[] #[], true) else if n = 8 then (.func (.func 134) #[] #[], true) else if n = 10 then (.func (.func 135) #[] #[], true) else if n = 11 then (.func (.func 136) #[] #[], true) else (.nilFunc, false)
theorem known_look {w : World} {b : Nat} (h : Known w b) (n : Int) (hn : 0 ≤ n ∧ n < 256) : (Instr.lookup 115 (.map (some b)) (.int .i64 n) true).run Tryz.prog w = .ok (.tuple #[(secFn n).1, .bool (secFn n).2]) w := by
  have law : Keyed Tryz.prog 3 := int_keyed Tryz.underlying3
  obtain ⟨v, ps, hl, hv⟩ := World.ownsMap.look_ok h law Tryz.underlying115 (parts_zero _) fnRead_nil (keyOf_int_mk Tryz.underlying3 (WalkArith.wf_i64 (show -9223372036854775808 ≤ n ∧ n ≤ 9223372036854775807 by omega)))
  rw [hl]
  by_cases h0 : n = 0
  · subst h0
    obtain rfl := fnRead_fn (n := 128) (ps := ps) hv
    rfl
  by_cases h1 : n = 1
  · subst h1
    obtain rfl := fnRead_fn (n := 129) (ps := ps) hv
    rfl
  by_cases h3 : n = 3
  · subst h3
    obtain rfl := fnRead_fn (n := 130) (ps := ps) hv
    rfl
  by_cases h5 : n = 5
  · subst h5
    obtain rfl := fnRead_fn (n := 131) (ps := ps) hv
    rfl
  by_cases h6 : n = 6
  · subst h6
    obtain rfl := fnRead_fn (n := 132) (ps := ps) hv
    rfl
  by_cases h7 : n = 7
  · subst h7
    obtain rfl := fnRead_fn (n := 133) (ps := ps) hv
    rfl
  by_cases h8 : n = 8
  · subst h8
    obtain rfl := fnRead_fn (n := 134) (ps := ps) hv
    rfl
  by_cases h10 : n = 10
  · subst h10
    obtain rfl := fnRead_fn (n := 135) (ps := ps) hv
    rfl
  by_cases h11 : n = 11
  · subst h11
    obtain rfl := fnRead_fn (n := 136) (ps := ps) hv
    rfl
  have ne : ∀ {c : Int}, ¬ n = c → Lit.int .i64 n ≠ Lit.int .i64 c := fun h e => h (by injection e)
  have e1 : Maps.has partsD (.int .i64 n) = false := by
    unfold partsD
    rw [has_put_other (ne h11), has_put_other (ne h10), has_put_other (ne h8), has_put_other (ne h7), has_put_other (ne h6), has_put_other (ne h5), has_put_other (ne h3), has_put_other (ne h1), has_put_other (ne h0)]
    rfl
  have e2 : partsD.atKey (.int .i64 n) .nil = .nil := by
    unfold partsD
    rw [atKey_put_other (ne h11), atKey_put_other (ne h10), atKey_put_other (ne h8), atKey_put_other (ne h7), atKey_put_other (ne h6), atKey_put_other (ne h5), atKey_put_other (ne h3), atKey_put_other (ne h1), atKey_put_other (ne h0)]
    rfl
  rw [e2] at hv
  obtain rfl := fnRead_none hv
  rw [e1]
  have e3 : secFn n = (.nilFunc, false) := by
    unfold secFn
    rw [if_neg h0, if_neg h1, if_neg h3, if_neg h5, if_neg h6, if_neg h7, if_neg h8, if_neg h10, if_neg h11]
  rw [e3]
end Go.Proofs.YthfipknfdnfalaaGreatDoor
