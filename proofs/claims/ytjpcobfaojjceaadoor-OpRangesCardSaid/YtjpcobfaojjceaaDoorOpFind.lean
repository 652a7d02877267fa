/-
  What package op finds of a name: walked. A contract that the proofs call; no statement is proved here.
-/
import Derived.Test.YtjpcobfaojjceaaDoorOpEachAll
import Derived.RegionTactic
namespace Go.Proofs.YtjpcobfaojjceaaDoor
open Go.Shelf Go.RowKit Go.Lib

/-- What the taker of 'Code' keeps: the name, the code that is found, and whether one is, each in its block. -/
def FindInv (w0 : World) (name : ByteArray) (s : Int × Bool) (w : World) : Prop :=
  Below w0.heap.size w0 w ∧ w0.heap.size + 3 ≤ w.heap.size ∧ w.cell? ⟨w0.heap.size, 0, none⟩ = some (.string name) ∧ w.heap[w0.heap.size + 1]? = some (.cells #[.int .i64 s.1] 3) ∧ w.heap[w0.heap.size + 1 + 1]? = some (.cells #[.bool s.2] 4)

theorem idx_le (zs : List ByteArray) (x : ByteArray) : Lib.idxOfS zs x ≤ zs.length := by
  have gen : ∀ (zs : List ByteArray) (i : Nat), Lib.idxFromS zs x i ≤ i + zs.length := by
    intro zs
    induction zs with
    | nil => intro i; simp only [Lib.idxFromS, List.length_nil]; omega
    | cons z zs ih =>
      intro i
      have := ih (i + 1)
      unfold Lib.idxFromS
      split
      · simp; omega
      · simp; omega
  have := gen zs 0
  unfold Lib.idxOfS
  omega
theorem FindInv.alloc {w0 w : World} {name : ByteArray} {s : Int × Bool} (h : FindInv w0 name s w) (o : Obj) : FindInv w0 name s (w.alloc o) := by
  obtain ⟨hB, hsz, hn, hc, hf⟩ := h
  exact ⟨hB.alloc hB.size o, by simp; omega, by rw [World.cell?_alloc_lt w o _ (by show w0.heap.size < _; omega)]; exact hn, by rw [Below.heap_alloc w o _ (by omega)]; exact hc, by rw [Below.heap_alloc w o _ (by omega)]; exact hf⟩
theorem FindInv.set {w0 w : World} {name : ByteArray} {s : Int × Bool} (h : FindInv w0 name s w) (c : Int) (f : Bool) : FindInv w0 name (c, f) ((w.setCell ⟨w0.heap.size + 1, 0, none⟩ (.int .i64 c)).setCell ⟨w0.heap.size + 1 + 1, 0, none⟩ (.bool f)) := by
  obtain ⟨hB, hsz, hn, hc, hf⟩ := h
  refine ⟨(hB.setCell (by show w0.heap.size ≤ w0.heap.size + 1; omega) _).setCell (by show w0.heap.size ≤ w0.heap.size + 1 + 1; omega) _, by simpa [World.setCell] using hsz, ?_, ?_, ?_⟩
  · exact (World.cell?_of_block (w := w.setCell _ _) (Below.heap_setCell _ _ _ w0.heap.size (by show w0.heap.size ≠ w0.heap.size + 1 + 1; omega))).trans ((World.cell?_of_block (w := w) (Below.heap_setCell _ _ _ w0.heap.size (by show w0.heap.size ≠ w0.heap.size + 1; omega))).trans hn)
  · rw [Below.heap_setCell _ _ _ _ (by show w0.heap.size + 1 ≠ w0.heap.size + 1 + 1; omega)]
    exact heap_setCell_same w _ 0 _ _ _ hc
  · have h2 : (w.setCell ⟨w0.heap.size + 1, 0, none⟩ (.int .i64 c)).heap[w0.heap.size + 1 + 1]? = some (.cells #[.bool s.2] 4) := by
      rw [Below.heap_setCell _ _ _ _ (by show w0.heap.size + 1 + 1 ≠ w0.heap.size + 1; omega)]
      exact hf
    exact heap_setCell_same _ _ 0 _ _ _ h2

set_option maxRecDepth 100000 in
set_option maxHeartbeats 4000000 in
theorem find_takes (w0 : World) (hL0 : Laid w0) (name : ByteArray) : Takes 21 #[.pointer (some ⟨w0.heap.size, 0, none⟩), .pointer (some ⟨w0.heap.size + 1, 0, none⟩), .pointer (some ⟨w0.heap.size + 1 + 1, 0, none⟩)] (FindInv w0 name) (findStep name) := by
  intro t s w hte _ hf0 hf1 htp hta hI
  have hIa := fun o => hI.alloc o
  have hL := hL0.below hI.1
  have hLa := fun o => hL.alloc o
  obtain ⟨hB, hsz, hcell, hc, hf⟩ := hI
  obtain ⟨t1, t2, t3, t4, t5, t6⟩ := t
  obtain ⟨s1, s2⟩ := s
  simp only at *
  have hpl : (Ls.mk t1 t2 t3 t4 t5 t6).parts.length = (Lib.fields t6.data.toList).length := by simp [Ls.parts]
  have cf := fun w hL => lib_fields t6 w hL (by omega) hta
  rw [← hpl, show (Lib.fields t6.data.toList).map (fun l => Value.string ⟨l.toArray⟩) = (Ls.mk t1 t2 t3 t4 t5 t6).parts.map Value.string by simp [Ls.parts]] at cf
  have cp := lib_cut name t2
  have hstep : findStep name (s1, s2) ⟨t1, t2, t3, t4, t5, t6⟩ = if Lib.hasPrefix name.data.toList t2.data.toList = true ∧ Lib.contains t6.data.toList (Lib.trimPrefix name.data.toList t2.data.toList) = true ∧ 0 ≤ Lib.idxOfS (Ls.mk t1 t2 t3 t4 t5 t6).parts ⟨(Lib.trimPrefix name.data.toList t2.data.toList).toArray⟩
    then (t1 + Lib.idxOfS (Ls.mk t1 t2 t3 t4 t5 t6).parts ⟨(Lib.trimPrefix name.data.toList t2.data.toList).toArray⟩, true) else (s1, s2) := rfl
  rw [hstep]
  obtain ⟨tr, htr⟩ : ∃ tr : ByteArray, tr = ⟨(Lib.trimPrefix name.data.toList t2.data.toList).toArray⟩ := ⟨_, rfl⟩
  have htl : Lib.trimPrefix name.data.toList t2.data.toList = tr.data.toList := by rw [htr]
  rw [← htr] at cp ⊢
  rw [htl]
  have cc := fun w hL => lib_contains t6 tr w hL (by omega)
  obtain ⟨ps, hps⟩ : ∃ ps, (Ls.mk t1 t2 t3 t4 t5 t6).parts = ps := ⟨_, rfl⟩
  rw [hps] at cf htp ⊢
  clear hpl
  obtain ⟨hp, hhp⟩ : ∃ b, Lib.hasPrefix name.data.toList t2.data.toList = b := ⟨_, rfl⟩
  obtain ⟨ct, hct⟩ : ∃ b, Lib.contains t6.data.toList tr.data.toList = b := ⟨_, rfl⟩
  rw [hhp] at cp ⊢
  rw [hct] at cc ⊢
  obtain ⟨S, hS⟩ : ∃ S : Int × Bool, S = (if hp = true ∧ ct = true ∧ 0 ≤ Lib.idxOfS ps tr then (t1 + Lib.idxOfS ps tr, true) else (s1, s2)) := ⟨_, rfl⟩
  rw [← hS]
  clear hstep hps htl htr hta hL0 hhp hct
  have x1 : w.cell? ⟨w0.heap.size + 1, 0, none⟩ = some (.int .i64 s1) := by simp [World.cell?, hc]
  have x2 : w.cell? ⟨w0.heap.size + 1 + 1, 0, none⟩ = some (.bool s2) := by simp [World.cell?, hf]
  have y1 : w.frozen? ⟨w0.heap.size + 1, 0, none⟩ = false := by simp [World.frozen?, hc]
  have y2 : w.frozen? ⟨w0.heap.size + 1 + 1, 0, none⟩ = false := by simp [World.frozen?, hf]
  have k1 : w0.heap.size + 1 < w.heap.size := by omega
  have k2 : w0.heap.size + 1 + 1 < w.heap.size := by omega
  have x1a := fun o => (World.cell?_alloc_lt w o (⟨w0.heap.size + 1, 0, none⟩ : Addr) k1).trans x1
  have x2a := fun o => (World.cell?_alloc_lt w o (⟨w0.heap.size + 1 + 1, 0, none⟩ : Addr) k2).trans x2
  have y1b : ∀ o o', ((w.alloc o).alloc o').frozen? ⟨w0.heap.size + 1, 0, none⟩ = false := fun o o' => ((World.frozen?_of_block (w := w.alloc o) (Below.heap_alloc _ _ _ (by simp; omega))).trans (World.frozen?_of_block (w := w) (Below.heap_alloc _ _ _ k1))).trans y1
  have y2b : ∀ o o', ((w.alloc o).alloc o').frozen? ⟨w0.heap.size + 1 + 1, 0, none⟩ = false := fun o o' => ((World.frozen?_of_block (w := w.alloc o) (Below.heap_alloc _ _ _ (by simp; omega))).trans (World.frozen?_of_block (w := w) (Below.heap_alloc _ _ _ k2))).trans y2
  have x1b := fun o o' => (World.cell?_alloc_lt (w.alloc o) o' (⟨w0.heap.size + 1, 0, none⟩ : Addr) (by simp; omega)).trans (x1a o)
  have x2b := fun o o' => (World.cell?_alloc_lt (w.alloc o) o' (⟨w0.heap.size + 1 + 1, 0, none⟩ : Addr) (by simp; omega)).trans (x2a o)
  have hna := fun o => (World.cell?_alloc_lt w o (⟨w0.heap.size, 0, none⟩ : Addr) (by show w0.heap.size < _; omega)).trans hcell
  go_enter Tryd.func21, Tryd.ntmps21
  cases hp with
  | false =>
    have HS : Hid (S = (s1, s2)) := Lib.hid (by rw [hS]; simp)
    clear hS
    go_wp2_with (first
      | (go_at_call 22; (with_reducible refine (cp _).mono ?_); rintro e w1 ⟨rfl, rfl⟩))
    refine bodyPost_ret (results_none rfl _ _ _) rfl ?_
    exact ⟨rfl, by rw [HS.out]; exact hIa _⟩
  | true =>
    cases ct with
    | false =>
      have HS : Hid (S = (s1, s2)) := Lib.hid (by rw [hS]; simp)
      clear hS
      go_wp2_with (first
        | (go_at_call 22; (with_reducible refine (cp _).mono ?_); rintro e w1 ⟨rfl, rfl⟩)
        | (go_at_call 23; (with_reducible refine (cc _ (hLa _)).mono ?_); rintro e w1 ⟨rfl, rfl⟩))
      refine bodyPost_ret (results_none rfl _ _ _) rfl ?_
      exact ⟨rfl, by rw [HS.out]; exact hIa _⟩
    | true =>
      have cix : ∀ (o : Obj), Calls Tryd.prog 24 #[.slice (some ⟨w.heap.size + 1, 0, none⟩) ps.length ps.length, .string tr] ((w.alloc o).alloc (.cells (ps.map Value.string).toArray 9)) fun e w' => e = .returned (.int .i64 (Lib.idxOfS ps tr)) ∧ w' = (w.alloc o).alloc (.cells (ps.map Value.string).toArray 9) := fun o => by
        have c := lib_index (w.heap.size + 1) 0 ps.length ps.length ps tr ((w.alloc o).alloc (.cells (ps.map Value.string).toArray 9)) (Nat.le_refl _) (by omega) (fun j hj => by
          rw [show w.heap.size + 1 = (w.alloc o).heap.size by simp, World.cell?_alloc_new]
          simp [List.getD_eq_getElem?_getD, List.getElem?_eq_getElem hj])
        rwa [List.take_length] at c
      by_cases hx : 0 ≤ Lib.idxOfS ps tr
      · have hxl : Lib.idxOfS ps tr ≤ ps.length := idx_le ps tr
        have HS : Hid (S = (t1 + Lib.idxOfS ps tr, true)) := Lib.hid (by rw [hS]; simp [hx])
        clear hS
        go_wp2_with (first
          | (go_at_call 22; (with_reducible refine (cp _).mono ?_); rintro e w1 ⟨rfl, rfl⟩)
          | (go_at_call 23; (with_reducible refine (cc _ (hLa _)).mono ?_); rintro e w1 ⟨rfl, rfl⟩)
          | (go_at_call 18; (with_reducible refine (cf _ (hLa _)).mono ?_); rintro e w1 ⟨rfl, rfl⟩)
          | (go_at_call 24; refine (cix _).mono ?_; rintro e w1 ⟨rfl, rfl⟩))
        go_end0
        exact ⟨rfl, by rw [HS.out]; exact ((hIa _).alloc _).set _ _⟩
      · have HS : Hid (S = (s1, s2)) := Lib.hid (by rw [hS]; simp [hx])
        clear hS
        go_wp2_with (first
          | (go_at_call 22; (with_reducible refine (cp _).mono ?_); rintro e w1 ⟨rfl, rfl⟩)
          | (go_at_call 23; (with_reducible refine (cc _ (hLa _)).mono ?_); rintro e w1 ⟨rfl, rfl⟩)
          | (go_at_call 18; (with_reducible refine (cf _ (hLa _)).mono ?_); rintro e w1 ⟨rfl, rfl⟩)
          | (go_at_call 24; refine (cix _).mono ?_; rintro e w1 ⟨rfl, rfl⟩))
        go_end0
        exact ⟨rfl, by rw [HS.out]; exact (hIa _).alloc _⟩

theorem FindInv.new (name : ByteArray) (w : World) : FindInv w name (0, false) (((w.alloc (.cells #[.string name] 9)).alloc (.cells #[.int .i64 0] 3)).alloc (.cells #[.bool false] 4)) := by
  refine ⟨(((Below.refl _ w).alloc (Nat.le_refl _) _).alloc (by simp) _).alloc (by simp; omega) _, by simp, ?_, ?_, ?_⟩
  · rw [World.cell?_alloc_lt _ _ _ (by simp; omega), World.cell?_alloc_lt _ _ _ (by simp), World.cell?_alloc_new]; rfl
  · rw [Below.heap_alloc _ _ _ (by simp), show w.heap.size + 1 = (w.alloc (.cells #[.string name] 9)).heap.size by simp]; exact heap_alloc_new _ _
  · rw [show w.heap.size + 1 + 1 = ((w.alloc (.cells #[.string name] 9)).alloc (.cells #[.int .i64 0] 3)).heap.size by simp]; exact heap_alloc_new _ _
set_option maxRecDepth 100000 in
set_option maxHeartbeats 4000000 in
/-- What package op finds of a name is what the document's rows tell. -/
theorem op_code (name : ByteArray) (_ : name.size ≤ maxLen) (w : World) (hL : Laid w) :
    Calls Tryd.prog 11 #[.string name] w fun e w' => e = .returned (.tuple #[.int .i64 (codeOf (byName name)), .bool (byName name).isSome]) ∧ Below w.heap.size w w' := by
  have eg : ∀ args w, (callFunc 21 args).run Tryd.prog w = .ok (.enter 21 args) w := enters_of Tryd.func21 (by kernel_rfl) rfl
  have c1 := fun w' hI => each_takes (find_takes w hL name) eg (0, false) w' hI
  have hN := FindInv.new name w
  rw [show List.foldl (findStep name) (0, false) allL = found name from rfl, found_name] at c1
  generalize codeOf (byName name) = cd at c1 ⊢
  generalize (byName name).isSome = is at c1 ⊢
  go_enter Tryd.func11, Tryd.ntmps11
  go_wp2_with (go_at_call 20; refine (c1 _ hN).mono ?_; rintro e w' ⟨rfl, hB, hsz, _, hb, hr⟩; have p0 : w'.cell? ⟨w.heap.size + 1, 0, none⟩ = some (.int .i64 cd) := (by simp [World.cell?, hb]); have p1 : w'.cell? ⟨w.heap.size + 1 + 1, 0, none⟩ = some (.bool is) := (by simp [World.cell?, hr]))
  go_region
  go_wp2
  go_ret2
  exact ⟨rfl, hB.drew⟩
end Go.Proofs.YtjpcobfaojjceaaDoor
