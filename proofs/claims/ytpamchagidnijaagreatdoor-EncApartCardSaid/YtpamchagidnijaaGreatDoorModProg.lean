/-
  The program that the statements of chapter 4 put together, as it lies in memory: its code, its stack, its open blocks; and its first steps walked: put, push. Contracts that the proofs call; no statement is proved here.
-/
import Derived.Test.YtpamchagidnijaaGreatDoorModAt
import Derived.RegionTactic
namespace Go.Proofs.YtpamchagidnijaaGreatDoor
open Go.RowKit
variable {pr : List (Nat × Obj)}

/-- An instruction without labels; an open block: its code, its result, how many stood on the stack. -/
structure PI where
  op : Int
  a : Int
  b : Int
structure PO where
  op : Int
  result : Int
  height : Nat
structure PS where
  code : List PI
  stack : List Int
  opens : List PO
def PI.cells (x : PI) : List Value := [.int .i64 x.op, .int .i64 x.a, .int .i64 x.b, .slice none 0 0]
def PO.cells (x : PO) : List Value := [.int .i64 x.op, .int .u8 x.result, .int .i64 x.height]
def codeCells (l : List PI) : List Value := l.flatMap PI.cells
def openCells (l : List PO) : List Value := l.flatMap PO.cells
def stackCells (l : List Int) : List Value := l.map (.int .u8)

def apart (u v : Value) : Prop := ∀ g, u.ownBlock = some g → v.ownBlock ≠ some g
theorem apart.symm {u v : Value} (h : apart u v) : apart v u := fun g hg hu => h g hu hg

/-- The program lies at a block; its three lists lie behind it, apart. -/
structure ProgAt (w0 : World) (pr : List (Nat × Obj)) (s : PS) (cv sv ov : Value) (w : World) : Prop where
  below : Below w0.heap.size w0 w
  size : w0.heap.size + 1 ≤ w.heap.size
  at3 : w.heap[w0.heap.size]? = some (.cells #[cv, sv, ov] 77)
  code : w.ownsRow (w0.heap.size + 1) 41 4 cv s.code.length (codeCells s.code)
  stack : w.ownsRow (w0.heap.size + 1) 5 1 sv s.stack.length (stackCells s.stack)
  opens : w.ownsRow (w0.heap.size + 1) 83 3 ov s.opens.length (openCells s.opens)
  cs : apart cv sv
  co : apart cv ov
  so : apart sv ov
  keep : ∀ p ∈ pr, w.heap[p.1]? = some p.2 ∧ p.1 ≠ w0.heap.size ∧ cv.ownBlock ≠ some p.1 ∧ sv.ownBlock ≠ some p.1 ∧ ov.ownBlock ≠ some p.1
def Prog (w0 : World) (pr : List (Nat × Obj)) (s : PS) (w : World) : Prop := ∃ cv sv ov, ProgAt w0 pr s cv sv ov w

theorem prog_cells {w0 w : World} {s : PS} {cv sv ov : Value} (h : ProgAt w0 pr s cv sv ov w) :
    w.cell? ⟨w0.heap.size, 0, none⟩ = some cv ∧ w.cell? ⟨w0.heap.size, 1, none⟩ = some sv ∧ w.cell? ⟨w0.heap.size, 2, none⟩ = some ov ∧ w.frozen? ⟨w0.heap.size, 0, none⟩ = false ∧ w.frozen? ⟨w0.heap.size, 1, none⟩ = false ∧ w.frozen? ⟨w0.heap.size, 2, none⟩ = false := by
  have c : ∀ j, w.cell? ⟨w0.heap.size, j, none⟩ = #[cv, sv, ov][j]? := fun j => by simp [World.cell?, h.at3]
  have f : ∀ j, w.frozen? ⟨w0.heap.size, j, none⟩ = false := fun j => by simp [World.frozen?, h.at3]
  exact ⟨c 0, c 1, c 2, f 0, f 1, f 2⟩
theorem own_ge {w : World} {base : Nat} {e : TypeId} {size : Nat} {v : Value} {n : Nat} {xs : List Value} (h : w.ownsRow base e size v n xs) : ∀ g, v.ownBlock = some g → base ≤ g ∧ g < w.heap.size := fun g hg => World.ownsRow.lt h g hg

theorem heap_lt {w : World} {b : Nat} {o : Obj} (h : w.heap[b]? = some o) : b < w.heap.size := by
  by_cases hh : b < w.heap.size
  · exact hh
  · rw [Array.getElem?_eq_none (by omega)] at h; cases h
theorem ProgAt.alloc {w0 w : World} {s : PS} {cv sv ov : Value} (h : ProgAt w0 pr s cv sv ov w) (o : Obj) : ProgAt w0 pr s cv sv ov (w.alloc o) :=
  { h with below := h.below.alloc (by have := h.size; omega) o, size := by have := h.size; simp; omega, at3 := by rw [Below.heap_alloc w o _ (by have := h.size; omega)]; exact h.at3, code := h.code.alloc o, stack := h.stack.alloc o, opens := h.opens.alloc o, keep := fun p hp => ⟨by rw [Below.heap_alloc w o _ (heap_lt (h.keep p hp).1)]; exact (h.keep p hp).1, (h.keep p hp).2⟩ }
theorem ProgAt.drew {w0 w : World} {s : PS} {cv sv ov : Value} (h : ProgAt w0 pr s cv sv ov w) : ProgAt w0 pr s cv sv ov w.drew :=
  { h with below := h.below.drew, size := h.size, at3 := h.at3, code := h.code, stack := h.stack, opens := h.opens, keep := h.keep }
/-- A block that is laid anew is kept from there on. -/
theorem ProgAt.allocKept {w0 w : World} {s : PS} {cv sv ov : Value} (h : ProgAt w0 pr s cv sv ov w) (o : Obj) : ProgAt w0 ((w.heap.size, o) :: pr) s cv sv ov (w.alloc o) := by
  have ha := h.alloc o
  refine { ha with keep := fun p hp => ?_ }
  rcases List.mem_cons.1 hp with rfl | hp
  · have hs := h.size
    refine ⟨heap_alloc_new w o, by show w.heap.size ≠ _; omega, fun e => ?_, fun e => ?_, fun e => ?_⟩
    · exact Nat.lt_irrefl _ (own_ge h.code _ e).2
    · exact Nat.lt_irrefl _ (own_ge h.stack _ e).2
    · exact Nat.lt_irrefl _ (own_ge h.opens _ e).2
  · exact ha.keep p hp
theorem ProgAt.forget {w0 w : World} {p : Nat × Obj} {s : PS} {cv sv ov : Value} (h : ProgAt w0 (p :: pr) s cv sv ov w) : ProgAt w0 pr s cv sv ov w :=
  { h with keep := fun q hq => h.keep q (List.mem_cons_of_mem _ hq) }
theorem Prog.forget {w0 w : World} {p : Nat × Obj} {s : PS} (h : Prog w0 (p :: pr) s w) : Prog w0 pr s w := by
  obtain ⟨cv, sv, ov, h⟩ := h; exact ⟨cv, sv, ov, h.forget⟩
theorem Prog.kept {w0 w : World} {p : Nat × Obj} {s : PS} (h : Prog w0 (p :: pr) s w) : w.heap[p.1]? = some p.2 := by
  obtain ⟨cv, sv, ov, h⟩ := h; exact (h.keep p (List.mem_cons_self ..)).1
theorem instr_info : (Tryz.prog.info? 41).map (fun i => (i.zero, i.size, i.bytes)) = some (some (.agg #[.int .i64 0, .int .i64 0, .int .i64 0, .slice none 0 0]), 4, 48) := by kernel_rfl
theorem u8_info : (Tryz.prog.info? 5).map (fun i => (i.zero, i.size, i.bytes)) = some (some (.int .u8 0), 1, 1) := by kernel_rfl
theorem opened_info : (Tryz.prog.info? 83).map (fun i => (i.zero, i.size, i.bytes)) = some (some (.agg #[.int .i64 0, .int .u8 0, .int .i64 0]), 3, 24) := by kernel_rfl

/-- A list has changed, and is laid in its cell. -/
theorem ProgAt.setCode {w0 w w' : World} {s : PS} {cv sv ov cv' : Value} (h : ProgAt w0 pr s cv sv ov w) (hg : w.grownBy w' cv.ownBlock) (l : List PI) (hown : w'.ownsRow (w0.heap.size + 1) 41 4 cv' l.length (codeCells l)) (hloc : cv'.ownBlock = cv.ownBlock ∨ cv'.ownBlock = some w.heap.size) :
    ProgAt w0 pr { s with code := l } cv' sv ov (w'.setCell ⟨w0.heap.size, 0, none⟩ cv') := by
  have hs := h.size
  have hgs := hg.size
  have hne : ∀ g, cv.ownBlock = some g → w0.heap.size + 1 ≤ g := fun g hg => (own_ge h.code g hg).1
  have hat : w'.heap[w0.heap.size]? = some (.cells #[cv, sv, ov] 77) := by
    rw [hg.block _ (by omega) (fun e => by have := hne _ e.symm; omega)]; exact h.at3
  have hset : ∀ (v : Value) (n : Nat) (e : TypeId) (sz : Nat) (xs : List Value), w'.ownsRow (w0.heap.size + 1) e sz v n xs → (w'.setCell ⟨w0.heap.size, 0, none⟩ cv').ownsRow (w0.heap.size + 1) e sz v n xs := fun v n e sz xs ho => ownsRow_setCell_below ho (by show w0.heap.size < _; omega) cv'
  have hap : ∀ {u : Value} {n : Nat} {e : TypeId} {sz : Nat} {xs : List Value}, w.ownsRow (w0.heap.size + 1) e sz u n xs → apart cv u → apart cv' u := fun {u n e sz xs} ho ha g hg' hu => by
    rcases hloc with e1 | e1
    · exact ha g (e1 ▸ hg') hu
    · rw [e1] at hg'; injection hg' with hg'
      have := (own_ge ho g hu).2; omega
  have hkeep : ∀ {u : Value} {n : Nat} {e : TypeId} {sz : Nat} {xs : List Value}, w.ownsRow (w0.heap.size + 1) e sz u n xs → apart cv u → w'.ownsRow (w0.heap.size + 1) e sz u n xs := fun {u n e sz xs} ho ha => ho.kept hg (by
    cases hu : u.ownBlock with
    | none => exact .inl rfl
    | some g => exact .inr fun e => ha g e.symm hu)
  exact ⟨(h.below.grown hg (by omega) (fun g hg' => by have := hne g hg'; omega)).setCell (by show w0.heap.size ≤ w0.heap.size; omega) _, by simp [World.setCell]; omega, heap_setCell_same _ _ 0 _ _ _ hat, hset _ _ _ _ _ hown, hset _ _ _ _ _ (hkeep h.stack h.cs), hset _ _ _ _ _ (hkeep h.opens h.co), hap h.stack h.cs, hap h.opens h.co, h.so, fun p hp => by
    obtain ⟨k1, k2, k3, k4, k5⟩ := h.keep p hp
    have hlt := heap_lt k1
    have hv : cv'.ownBlock ≠ some p.1 := fun e => by
      rcases hloc with e1 | e1
      · rw [e1] at e; exact absurd e (by assumption)
      · rw [e1] at e; injection e with e; omega
    exact ⟨by rw [Below.heap_setCell _ _ _ _ k2, hg.block _ hlt (fun e => absurd e.symm (by assumption))]; exact k1, k2, hv, k4, k5⟩⟩
theorem ProgAt.setStack {w0 w w' : World} {s : PS} {cv sv ov sv' : Value} (h : ProgAt w0 pr s cv sv ov w) (hg : w.grownBy w' sv.ownBlock) (l : List Int) (hown : w'.ownsRow (w0.heap.size + 1) 5 1 sv' l.length (stackCells l)) (hloc : sv'.ownBlock = sv.ownBlock ∨ sv'.ownBlock = some w.heap.size) :
    ProgAt w0 pr { s with stack := l } cv sv' ov (w'.setCell ⟨w0.heap.size, 1, none⟩ sv') := by
  have hs := h.size
  have hgs := hg.size
  have hne : ∀ g, sv.ownBlock = some g → w0.heap.size + 1 ≤ g := fun g hg => (own_ge h.stack g hg).1
  have hat : w'.heap[w0.heap.size]? = some (.cells #[cv, sv, ov] 77) := by
    rw [hg.block _ (by omega) (fun e => by have := hne _ e.symm; omega)]; exact h.at3
  have hset : ∀ (v : Value) (n : Nat) (e : TypeId) (sz : Nat) (xs : List Value), w'.ownsRow (w0.heap.size + 1) e sz v n xs → (w'.setCell ⟨w0.heap.size, 1, none⟩ sv').ownsRow (w0.heap.size + 1) e sz v n xs := fun v n e sz xs ho => ownsRow_setCell_below ho (by show w0.heap.size < _; omega) sv'
  have hap : ∀ {u : Value} {n : Nat} {e : TypeId} {sz : Nat} {xs : List Value}, w.ownsRow (w0.heap.size + 1) e sz u n xs → apart sv u → apart sv' u := fun {u n e sz xs} ho ha g hg' hu => by
    rcases hloc with e1 | e1
    · exact ha g (e1 ▸ hg') hu
    · rw [e1] at hg'; injection hg' with hg'
      have := (own_ge ho g hu).2; omega
  have hkeep : ∀ {u : Value} {n : Nat} {e : TypeId} {sz : Nat} {xs : List Value}, w.ownsRow (w0.heap.size + 1) e sz u n xs → apart sv u → w'.ownsRow (w0.heap.size + 1) e sz u n xs := fun {u n e sz xs} ho ha => ho.kept hg (by
    cases hu : u.ownBlock with
    | none => exact .inl rfl
    | some g => exact .inr fun e => ha g e.symm hu)
  exact ⟨(h.below.grown hg (by omega) (fun g hg' => by have := hne g hg'; omega)).setCell (by show w0.heap.size ≤ w0.heap.size; omega) _, by simp [World.setCell]; omega, heap_setCell_same _ _ 1 _ _ _ hat, hset _ _ _ _ _ (hkeep h.code h.cs.symm), hset _ _ _ _ _ hown, hset _ _ _ _ _ (hkeep h.opens h.so), (hap h.code h.cs.symm).symm, h.co, hap h.opens h.so, fun p hp => by
    obtain ⟨k1, k2, k3, k4, k5⟩ := h.keep p hp
    have hlt := heap_lt k1
    have hv : sv'.ownBlock ≠ some p.1 := fun e => by
      rcases hloc with e1 | e1
      · rw [e1] at e; exact absurd e (by assumption)
      · rw [e1] at e; injection e with e; omega
    exact ⟨by rw [Below.heap_setCell _ _ _ _ k2, hg.block _ hlt (fun e => absurd e.symm (by assumption))]; exact k1, k2, k3, hv, k5⟩⟩
theorem ProgAt.setOpens {w0 w w' : World} {s : PS} {cv sv ov ov' : Value} (h : ProgAt w0 pr s cv sv ov w) (hg : w.grownBy w' ov.ownBlock) (l : List PO) (hown : w'.ownsRow (w0.heap.size + 1) 83 3 ov' l.length (openCells l)) (hloc : ov'.ownBlock = ov.ownBlock ∨ ov'.ownBlock = some w.heap.size) :
    ProgAt w0 pr { s with opens := l } cv sv ov' (w'.setCell ⟨w0.heap.size, 2, none⟩ ov') := by
  have hs := h.size
  have hgs := hg.size
  have hne : ∀ g, ov.ownBlock = some g → w0.heap.size + 1 ≤ g := fun g hg => (own_ge h.opens g hg).1
  have hat : w'.heap[w0.heap.size]? = some (.cells #[cv, sv, ov] 77) := by
    rw [hg.block _ (by omega) (fun e => by have := hne _ e.symm; omega)]; exact h.at3
  have hset : ∀ (v : Value) (n : Nat) (e : TypeId) (sz : Nat) (xs : List Value), w'.ownsRow (w0.heap.size + 1) e sz v n xs → (w'.setCell ⟨w0.heap.size, 2, none⟩ ov').ownsRow (w0.heap.size + 1) e sz v n xs := fun v n e sz xs ho => ownsRow_setCell_below ho (by show w0.heap.size < _; omega) ov'
  have hap : ∀ {u : Value} {n : Nat} {e : TypeId} {sz : Nat} {xs : List Value}, w.ownsRow (w0.heap.size + 1) e sz u n xs → apart ov u → apart ov' u := fun {u n e sz xs} ho ha g hg' hu => by
    rcases hloc with e1 | e1
    · exact ha g (e1 ▸ hg') hu
    · rw [e1] at hg'; injection hg' with hg'
      have := (own_ge ho g hu).2; omega
  have hkeep : ∀ {u : Value} {n : Nat} {e : TypeId} {sz : Nat} {xs : List Value}, w.ownsRow (w0.heap.size + 1) e sz u n xs → apart ov u → w'.ownsRow (w0.heap.size + 1) e sz u n xs := fun {u n e sz xs} ho ha => ho.kept hg (by
    cases hu : u.ownBlock with
    | none => exact .inl rfl
    | some g => exact .inr fun e => ha g e.symm hu)
  exact ⟨(h.below.grown hg (by omega) (fun g hg' => by have := hne g hg'; omega)).setCell (by show w0.heap.size ≤ w0.heap.size; omega) _, by simp [World.setCell]; omega, heap_setCell_same _ _ 2 _ _ _ hat, hset _ _ _ _ _ (hkeep h.code h.co.symm), hset _ _ _ _ _ (hkeep h.stack h.so.symm), hset _ _ _ _ _ hown, h.cs, (hap h.code h.co.symm).symm, (hap h.stack h.so.symm).symm, fun p hp => by
    obtain ⟨k1, k2, k3, k4, k5⟩ := h.keep p hp
    have hlt := heap_lt k1
    have hv : ov'.ownBlock ≠ some p.1 := fun e => by
      rcases hloc with e1 | e1
      · rw [e1] at e; exact absurd e (by assumption)
      · rw [e1] at e; injection e with e; omega
    exact ⟨by rw [Below.heap_setCell _ _ _ _ k2, hg.block _ hlt (fun e => absurd e.symm (by assumption))]; exact k1, k2, k3, k4, hv⟩⟩

theorem own_any {w : World} {base : Nat} {e : TypeId} {size : Nat} {v : Value} {n : Nat} {xs : List Value} (h : w.ownsRow base e size v n xs) : ∃ p cap, v = .slice p n cap := by
  rcases h.2 with ⟨rfl, rfl⟩ | ⟨g, cap, cur, rfl, _⟩
  · exact ⟨none, 0, rfl⟩
  · exact ⟨_, cap, rfl⟩
theorem codeCells_snoc (l : List PI) (x : PI) : codeCells (l ++ [x]) = codeCells l ++ x.cells := by simp [codeCells]
theorem openCells_snoc (l : List PO) (x : PO) : openCells (l ++ [x]) = openCells l ++ x.cells := by simp [openCells]
theorem stackCells_snoc (l : List Int) (x : Int) : stackCells (l ++ [x]) = stackCells l ++ [.int .u8 x] := by simp [stackCells]
theorem cells_new (w : World) (c : List Value) (t : TypeId) : ∀ j u, c[j]? = some u → (w.alloc (.cells c.toArray t)).cell? ((⟨w.heap.size, 0, none⟩ : Addr).add j) = some u := by
  intro j u hj
  have e : (⟨w.heap.size, 0, none⟩ : Addr).add j = ⟨w.heap.size, j, none⟩ := by
    unfold Addr.add; split
    · rename_i h0; rw [h0]
    · simp
  rw [e, World.cell?_alloc_new]; simpa using hj

theorem bare {P : Program} {c : Code} {Q : Exit → Act → World → Prop} {a : Act} {w : World} (h : c.wp P (Exit.then (fun a w => Q .normal a w) Q) a w) : c.wp P Q a w :=
  Code.wp_mono (fun e a w he => by cases e <;> exact he) h


set_option maxRecDepth 100000 in
set_option maxHeartbeats 2000000 in
theorem put_of (w0 : World) (s : PS) (op a b : Int) (hlen : s.code.length ≤ 1000000) (w : World) (h : Prog w0 pr s w) :
    Calls Tryz.prog 31 #[.pointer (some ⟨w0.heap.size, 0, none⟩), .int .i64 op, .int .i64 a, .int .i64 b] w fun e w' => e = .returned (.tuple #[]) ∧ Prog w0 pr { s with code := s.code ++ [(⟨op, a, b⟩ : PI)] } w' := by
  obtain ⟨cv, sv, ov, h⟩ := h
  obtain ⟨i0, hi, hz0, hz1, hz2⟩ := info_parts instr_info
  obtain ⟨c0, c1, c2, f0, f1, f2⟩ := prog_cells h
  have ha := h.alloc (.cells #[.int .i64 op, .int .i64 a, .int .i64 b, .slice none 0 0] 41)
  have hs := h.size
  have k0 := fun o => (World.cell?_alloc_lt w o (⟨w0.heap.size, 0, none⟩ : Addr) (by show w0.heap.size < _; omega)).trans c0
  have k1 := fun o => (World.cell?_alloc_lt w o (⟨w0.heap.size, 1, none⟩ : Addr) (by show w0.heap.size < _; omega)).trans c1
  have k2 := fun o => (World.cell?_alloc_lt w o (⟨w0.heap.size, 2, none⟩ : Addr) (by show w0.heap.size < _; omega)).trans c2
  go_enter Tryz.func31, Tryz.ntmps31
  refine bare ?_
  go_wp2_with (at_builtin; refine wpList_append_own_at _ rfl (.tmp 12) (.tmp 17) 36 rfl (w0.heap.size + 1) 41 i0 (.agg #[.int .i64 0, .int .i64 0, .int .i64 0, .slice none 0 0]) 4 48 Tryz.underlying36 hi hz0 hz1 hz2 rfl (by decide) cv s.code.length _ rfl ha.code ⟨w.heap.size, 0, none⟩ 1 1 (PI.cells ⟨op, a, b⟩) rfl rfl (cells_new w (PI.cells ⟨op, a, b⟩) 41) (by intro u hu; simp [PI.cells] at hu; rcases hu with rfl | rfl | rfl | rfl <;> rfl) (by unfold maxLen; omega) (by omega) (by simp; omega) ?_)
  intro v' w1 hown' hgrow _ hloc
  rw [← codeCells_snoc] at hown'
  have hn : s.code.length + 1 = (s.code ++ [(⟨op, a, b⟩ : PI)]).length := by simp
  rw [hn] at hown'
  have h2 := ha.setCode hgrow _ hown' (by simpa using hloc)
  obtain ⟨vp, vc, rfl⟩ := own_any hown'
  have hg1 := hgrow.size
  have hgc : w1.heap[w0.heap.size]? = some (.cells #[cv, sv, ov] 77) := by
    rw [hgrow.block _ (by simp; omega) (fun e => by have := (own_ge h.code _ e.symm).1; omega)]; exact ha.at3
  have d0 : w1.cell? ⟨w0.heap.size, 0, none⟩ = some cv := by simp [World.cell?, hgc]
  have d1 : w1.frozen? ⟨w0.heap.size, 0, none⟩ = false := by simp [World.frozen?, hgc]
  have H2 := Lib.hid h2
  clear h2 hgc hgrow hown' hn ha h c0 c1 c2 k0 k1 k2
  go_wp2
  go_end0
  exact ⟨rfl, _, _, _, by have := H2.out; simp only [List.length_append, List.length_cons, List.length_nil, Nat.zero_add] at this; exact this⟩

set_option maxRecDepth 100000 in
set_option maxHeartbeats 2000000 in
theorem push_of (w0 : World) (s : PS) (kind : Int) (hlen : s.stack.length ≤ 1000000) (w : World) (h : Prog w0 pr s w) :
    Calls Tryz.prog 96 #[.pointer (some ⟨w0.heap.size, 0, none⟩), .int .u8 kind] w fun e w' => e = .returned (.tuple #[]) ∧ Prog w0 pr { s with stack := s.stack ++ [kind] } w' := by
  obtain ⟨cv, sv, ov, h⟩ := h
  obtain ⟨i0, hi, hz0, hz1, hz2⟩ := info_parts u8_info
  obtain ⟨c0, c1, c2, f0, f1, f2⟩ := prog_cells h
  have ha := h.alloc (.cells #[.int .u8 kind] 5)
  have hs := h.size
  have k0 := fun o => (World.cell?_alloc_lt w o (⟨w0.heap.size, 0, none⟩ : Addr) (by show w0.heap.size < _; omega)).trans c0
  have k1 := fun o => (World.cell?_alloc_lt w o (⟨w0.heap.size, 1, none⟩ : Addr) (by show w0.heap.size < _; omega)).trans c1
  have k2 := fun o => (World.cell?_alloc_lt w o (⟨w0.heap.size, 2, none⟩ : Addr) (by show w0.heap.size < _; omega)).trans c2
  go_enter Tryz.func96, Tryz.ntmps96
  refine bare ?_
  go_wp2_with (at_builtin; refine wpList_append_own_at _ rfl (.tmp 8) (.tmp 10) 46 rfl (w0.heap.size + 1) 5 i0 (.int .u8 0) 1 1 Tryz.underlying46 hi hz0 hz1 hz2 rfl (by decide) sv s.stack.length _ rfl ha.stack ⟨w.heap.size, 0, none⟩ 1 1 [.int .u8 kind] rfl rfl (cells_new w [.int .u8 kind] 5) (by intro u hu; simp at hu; subst hu; rfl) (by unfold maxLen; omega) (by omega) (by simp; omega) ?_)
  intro v' w1 hown' hgrow _ hloc
  rw [← stackCells_snoc] at hown'
  have hn : s.stack.length + 1 = (s.stack ++ [kind]).length := by simp
  rw [hn] at hown'
  have h2 := ha.setStack hgrow _ hown' (by simpa using hloc)
  obtain ⟨vp, vc, rfl⟩ := own_any hown'
  have hg1 := hgrow.size
  have hgc : w1.heap[w0.heap.size]? = some (.cells #[cv, sv, ov] 77) := by
    rw [hgrow.block _ (by simp; omega) (fun e => by have := (own_ge h.stack _ e.symm).1; omega)]; exact ha.at3
  have d0 : w1.cell? ⟨w0.heap.size, 1, none⟩ = some sv := by simp [World.cell?, hgc]
  have d1 : w1.frozen? ⟨w0.heap.size, 1, none⟩ = false := by simp [World.frozen?, hgc]
  have H2 := Lib.hid h2
  clear h2 hgc hgrow hown' hn ha h c0 c1 c2 k0 k1 k2
  go_wp2
  go_end0
  exact ⟨rfl, _, _, _, by have := H2.out; simp only [List.length_append, List.length_cons, List.length_nil, Nat.zero_add] at this; exact this⟩
end Go.Proofs.YtpamchagidnijaaGreatDoor
