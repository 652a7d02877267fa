/-
  Which list begins last, but not behind a code: walked. Contracts that the proofs call; no statement is proved here.
-/
import Derived.Test.YtjpcobfaojjceaaDoorOpEachAll
namespace Go.Proofs.YtjpcobfaojjceaaDoor
open Go.Shelf Go.RowKit Go.Lib

/-- A list as a value. -/
def Ls.flat (l : Ls) : Value := .agg #[.int .i64 l.first, .string l.name, .int .i64 l.shape, .string l.params, .string l.results, .string l.ends]
def Ls.cells (l : Ls) : Array Value := #[.int .i64 l.first, .string l.name, .int .i64 l.shape, .string l.params, .string l.results, .string l.ends]

/-- What the taker of 'near' keeps: the list stands in its block, the code in its own. -/
def NearInv (w0 : World) (code : Int) (l : Ls) (w : World) : Prop :=
  Below w0.heap.size w0 w ∧ w0.heap.size + 3 ≤ w.heap.size ∧ w.cell? ⟨w0.heap.size, 0, none⟩ = some (.int .i64 code) ∧ w.heap[w0.heap.size + 1 + 1]? = some (.cells l.cells 42) ∧ w.heap[w0.heap.size + 1]? = some (.cells Ls.none.cells 42)

theorem NearInv.same {w0 w : World} {code : Int} {l : Ls} {B C : Nat} (hB : Below w0.heap.size w0 w) (hBe : w0.heap.size + 1 + 1 = B) (hCe : w0.heap.size = C) (hl : w.heap[B]? = some (.cells l.cells 42)) (hcell : w.cell? ⟨C, 0, none⟩ = some (.int .i64 code))
    (hlt : B < w.heap.size) (hlc : C < w.heap.size) (hsz : w0.heap.size + 3 ≤ w.heap.size) (hr : w.heap[w0.heap.size + 1]? = some (.cells Ls.none.cells 42)) (o : Obj) : NearInv w0 code l (w.alloc o) := by
  subst hBe hCe
  refine ⟨hB.alloc hB.size o, by simp; omega, ?_, ?_, ?_⟩
  · rw [World.cell?_alloc_lt w o _ hlc]; exact hcell
  · rw [Below.heap_alloc w o _ hlt]; exact hl
  · rw [Below.heap_alloc w o _ (by omega)]; exact hr
theorem NearInv.set {w0 w : World} {code : Int} {l : Ls} {B C : Nat} (hB : Below w0.heap.size w0 w) (hBe : w0.heap.size + 1 + 1 = B) (hCe : w0.heap.size = C) (hl : w.heap[B]? = some (.cells l.cells 42)) (hcell : w.cell? ⟨C, 0, none⟩ = some (.int .i64 code))
    (hlt : B < w.heap.size) (hlc : C < w.heap.size) (hsz : w0.heap.size + 3 ≤ w.heap.size) (hr : w.heap[w0.heap.size + 1]? = some (.cells Ls.none.cells 42)) (t1 : Int) (t2 : ByteArray) (t3 : Int) (t4 t5 t6 : ByteArray) (o : Obj) :
    NearInv w0 code ⟨t1, t2, t3, t4, t5, t6⟩ (((((((w.setCell ⟨B, 0, none⟩ (.int .i64 t1)).setCell ⟨B, 1, none⟩ (.string t2)).setCell ⟨B, 2, none⟩ (.int .i64 t3)).setCell ⟨B, 3, none⟩ (.string t4)).setCell ⟨B, 4, none⟩ (.string t5)).setCell ⟨B, 5, none⟩ (.string t6)).alloc o) := by
  have hb : w0.heap.size ≤ B := by omega
  have k0 := heap_setCell_same w B 0 _ _ (.int .i64 t1) hl
  have k1 := heap_setCell_same _ B 1 _ _ (.string t2) k0
  have k2 := heap_setCell_same _ B 2 _ _ (.int .i64 t3) k1
  have k3 := heap_setCell_same _ B 3 _ _ (.string t4) k2
  have k4 := heap_setCell_same _ B 4 _ _ (.string t5) k3
  have k5 := heap_setCell_same _ B 5 _ _ (.string t6) k4
  have hne : C ≠ B := by omega
  refine NearInv.same ((((((hB.setCell hb _).setCell hb _).setCell hb _).setCell hb _).setCell hb _).setCell hb _) hBe hCe k5 ?_ (by simpa [World.setCell] using hlt) (by simpa [World.setCell] using hlc) (by simpa [World.setCell] using hsz) ?_ o
  have e : ∀ (w : World) (j : Nat) (v : Value), (w.setCell ⟨B, j, none⟩ v).cell? ⟨C, 0, none⟩ = w.cell? ⟨C, 0, none⟩ := fun w j v => World.cell?_of_block (w := w) (Below.heap_setCell w _ v C hne)
  · rw [e, e, e, e, e, e]; exact hcell
  · have e : ∀ (w : World) (j : Nat) (v : Value), (w.setCell ⟨B, j, none⟩ v).heap[w0.heap.size + 1]? = w.heap[w0.heap.size + 1]? := fun w j v => Below.heap_setCell w _ v _ (by show w0.heap.size + 1 ≠ B; omega)
    rw [e, e, e, e, e, e]; exact hr

set_option maxRecDepth 100000 in
set_option maxHeartbeats 4000000 in
theorem near_takes (w0 : World) (code : Int) : Takes 28 #[.pointer (some ⟨w0.heap.size + 1 + 1, 0, none⟩), .pointer (some ⟨w0.heap.size, 0, none⟩)] (NearInv w0 code) (nearStep code) := by
  intro t s w _ _ hf0 hf1 _ _ hI
  obtain ⟨hB, hsz, hcell, hl, hr⟩ := hI
  obtain ⟨t1, t2, t3, t4, t5, t6⟩ := t
  obtain ⟨s1, s2, s3, s4, s5, s6⟩ := s
  simp only at *
  obtain ⟨B, hBe⟩ : ∃ B, w0.heap.size + 1 + 1 = B := ⟨_, rfl⟩
  obtain ⟨C, hCe⟩ : ∃ C, w0.heap.size = C := ⟨_, rfl⟩
  rw [hBe] at hl ⊢
  rw [hCe] at hcell ⊢
  have hlt : B < w.heap.size := by omega
  have hlc : C < w.heap.size := by omega
  have k := fun (o : Obj) (j : Nat) => World.cell?_alloc_lt w o (⟨B, j, none⟩ : Addr) hlt
  have cB : ∀ j, w.cell? ⟨B, j, none⟩ = (Ls.cells ⟨s1, s2, s3, s4, s5, s6⟩)[j]? := fun j => by simp [World.cell?, hl]
  have fB : ∀ j, w.frozen? ⟨B, j, none⟩ = false := fun j => by simp [World.frozen?, hl]
  have f0 := fB 0; have f1 := fB 1; have f2 := fB 2; have f3 := fB 3; have f4 := fB 4; have f5 := fB 5
  have p0 : w.cell? ⟨B, 0, none⟩ = some (.int .i64 s1) := cB 0
  have p1 : w.cell? ⟨B, 1, none⟩ = some (.string s2) := cB 1
  have p2 : w.cell? ⟨B, 2, none⟩ = some (.int .i64 s3) := cB 2
  have p3 : w.cell? ⟨B, 3, none⟩ = some (.string s4) := cB 3
  have p4 : w.cell? ⟨B, 4, none⟩ = some (.string s5) := cB 4
  have p5 : w.cell? ⟨B, 5, none⟩ = some (.string s6) := cB 5
  have q0 : ∀ o, (w.alloc o).cell? ⟨B, 0, none⟩ = some (.int .i64 s1) := fun o => (k o 0).trans (cB 0)
  have q1 : ∀ o, (w.alloc o).cell? ⟨B, 1, none⟩ = some (.string s2) := fun o => (k o 1).trans (cB 1)
  have q2 : ∀ o, (w.alloc o).cell? ⟨B, 2, none⟩ = some (.int .i64 s3) := fun o => (k o 2).trans (cB 2)
  have q3 : ∀ o, (w.alloc o).cell? ⟨B, 3, none⟩ = some (.string s4) := fun o => (k o 3).trans (cB 3)
  have q4 : ∀ o, (w.alloc o).cell? ⟨B, 4, none⟩ = some (.string s5) := fun o => (k o 4).trans (cB 4)
  have q5 : ∀ o, (w.alloc o).cell? ⟨B, 5, none⟩ = some (.string s6) := fun o => (k o 5).trans (cB 5)
  have qc : ∀ o, (w.alloc o).cell? ⟨C, 0, none⟩ = some (.int .i64 code) := fun o => (World.cell?_alloc_lt w o (⟨C, 0, none⟩ : Addr) hlc).trans hcell
  clear k cB fB
  go_enter Tryd.func28, Tryd.ntmps28
  go_wp2
  · go_end0
    refine ⟨rfl, ?_⟩
    rw [show nearStep code ⟨s1, s2, s3, s4, s5, s6⟩ ⟨t1, t2, t3, t4, t5, t6⟩ = ⟨t1, t2, t3, t4, t5, t6⟩ from if_pos ⟨by assumption, by assumption⟩]
    exact NearInv.set hB hBe hCe hl hcell hlt hlc hsz hr _ _ _ _ _ _ _
  all_goals go_end0
  all_goals refine ⟨rfl, ?_⟩
  · rw [show nearStep code ⟨s1, s2, s3, s4, s5, s6⟩ ⟨t1, t2, t3, t4, t5, t6⟩ = ⟨s1, s2, s3, s4, s5, s6⟩ from if_neg fun h => by have := h.1; have := h.2; simp only at *; omega]
    exact NearInv.same hB hBe hCe hl hcell hlt hlc hsz hr _
  · rw [show nearStep code ⟨s1, s2, s3, s4, s5, s6⟩ ⟨t1, t2, t3, t4, t5, t6⟩ = ⟨s1, s2, s3, s4, s5, s6⟩ from if_neg fun h => by have := h.1; have := h.2; simp only at *; omega]
    exact NearInv.same hB hBe hCe hl hcell hlt hlc hsz hr _

theorem results_one_cell {fn : Func} {p : Tmp} {ty : TypeId} (h : fn.results = #[.cell p ty]) (tmps : Array Value) (P : Program) (w : World) :
    (results fn tmps).run P w = ((asAddr (tmps.getD p undef)).run P w).andThen fun a w₁ => (loadVar ty a).run P w₁ := by
  simp only [results, h]
  simp [Sem.run_bind, Result.andThen]
/-- What stands in a list's block. -/
theorem list_facts {w : World} {b : Nat} {l : Ls} (h : w.heap[b]? = some (.cells l.cells 42)) :
    w.cell? ⟨b, 0, none⟩ = some (.int .i64 l.first) ∧ w.cell? ⟨b, 1, none⟩ = some (.string l.name) ∧ w.cell? ⟨b, 2, none⟩ = some (.int .i64 l.shape) ∧ w.cell? ⟨b, 3, none⟩ = some (.string l.params) ∧ w.cell? ⟨b, 4, none⟩ = some (.string l.results) ∧ w.cell? ⟨b, 5, none⟩ = some (.string l.ends) ∧
    w.frozen? ⟨b, 0, none⟩ = false ∧ w.frozen? ⟨b, 1, none⟩ = false ∧ w.frozen? ⟨b, 2, none⟩ = false ∧ w.frozen? ⟨b, 3, none⟩ = false ∧ w.frozen? ⟨b, 4, none⟩ = false ∧ w.frozen? ⟨b, 5, none⟩ = false := by
  have c : ∀ j, w.cell? ⟨b, j, none⟩ = l.cells[j]? := fun j => by simp [World.cell?, h]
  have f : ∀ j, w.frozen? ⟨b, j, none⟩ = false := fun j => by simp [World.frozen?, h]
  exact ⟨c 0, c 1, c 2, c 3, c 4, c 5, f 0, f 1, f 2, f 3, f 4, f 5⟩
theorem NearInv.new (code : Int) (w : World) : NearInv w code Ls.none (((w.alloc (.cells #[.int .i64 code] 3)).alloc (.cells Ls.none.cells 42)).alloc (.cells Ls.none.cells 42)) := by
  refine ⟨(((Below.refl _ w).alloc (Nat.le_refl _) _).alloc (by simp) _).alloc (by simp; omega) _, by simp, ?_, ?_, ?_⟩
  · rw [World.cell?_alloc_lt _ _ _ (by simp; omega), World.cell?_alloc_lt _ _ _ (by simp), World.cell?_alloc_new]; rfl
  · rw [show w.heap.size + 1 + 1 = ((w.alloc (.cells #[.int .i64 code] 3)).alloc (.cells Ls.none.cells 42)).heap.size by simp]; exact heap_alloc_new _ _
  · rw [Below.heap_alloc _ _ _ (by simp), show w.heap.size + 1 = (w.alloc (.cells #[.int .i64 code] 3)).heap.size by simp]; exact heap_alloc_new _ _
set_option maxRecDepth 100000 in
set_option maxHeartbeats 4000000 in
theorem near_of (code : Int) (w : World) :
    Calls Tryd.prog 17 #[.int .i64 code] w fun e w' => e = .returned (near code).flat ∧ Below w.heap.size w w' := by
  have eg : ∀ args w, (callFunc 28 args).run Tryd.prog w = .ok (.enter 28 args) w := enters_of Tryd.func28 (by kernel_rfl) rfl
  have c1 := fun w' hI => each_takes (near_takes w code) eg Ls.none w' hI
  have hN := NearInv.new code w
  rw [show List.foldl (nearStep code) Ls.none allL = near code from rfl] at c1
  obtain ⟨⟨l1, l2, l3, l4, l5, l6⟩, hl⟩ : ∃ l, near code = l := ⟨_, rfl⟩
  rw [hl] at c1 ⊢
  clear hl
  go_enter Tryd.func17, Tryd.ntmps17
  go_wp2_with (go_at_call 20; refine (c1 _ hN).mono ?_; rintro e w' ⟨rfl, hB, hsz, _, hb, hr⟩; have ⟨p0, p1, p2, p3, p4, p5, _, _, _, _, _, _⟩ := list_facts hb; have ⟨q0, q1, q2, q3, q4, q5, f0, f1, f2, f3, f4, f5⟩ := list_facts hr; simp only [Ls.none] at p0 p1 p2 p3 p4 p5 q0 q1 q2 q3 q4 q5; clear hb hr c1 hN)
  refine bodyPost_ret (v := Ls.flat ⟨l1, l2, l3, l4, l5, l6⟩) ?_ rfl ⟨rfl, ?_⟩
  · rw [results_one_cell rfl]; go_simp; rfl
  · exact (((((hB.setCell (by show w.heap.size ≤ w.heap.size + 1; omega) _).setCell (by show w.heap.size ≤ w.heap.size + 1; omega) _).setCell (by show w.heap.size ≤ w.heap.size + 1; omega) _).setCell (by show w.heap.size ≤ w.heap.size + 1; omega) _).setCell (by show w.heap.size ≤ w.heap.size + 1; omega) _).setCell (by show w.heap.size ≤ w.heap.size + 1; omega) _
end Go.Proofs.YtjpcobfaojjceaaDoor
