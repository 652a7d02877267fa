/-
  Which types are right, which values fit: package value's own, walked. Contracts that the proofs call; no statement is proved here.
-/
import Derived.Test.YtfjoobopfjahcaaDoorRows
import Derived.WalkKit
import Derived.WalkSpells
import Derived.WalkLawsBesides
import Derived.Lib.Hide
import Derived.Below
import Derived.Test.YtfjoobopfjahcaaDoorVuSpec
namespace Go.Proofs.YtfjoobopfjahcaaDoor
open Go.RowKit

theorem ret_bool {a b : Bool} (h : a = b) : Ending.returned (.bool a) = .returned (.bool b) := by rw [h]
theorem bt {w w1 w2 : World} (h1 : Below w.heap.size w w1) (h2 : Below w1.heap.size w1 w2) : Below w.heap.size w w2 := h1.trans (h2.mono h1.size)
/-- A type, a value, as the machine holds them. -/
def tyV (k s : Int) : Value := .agg #[.int .i64 k, .int .i64 s]
def vaV (u : Bool) (n : Int) (z : ByteArray) : Value := .agg #[.bool u, .int .i64 n, .string z]

/-- May a number have so many places behind its point? -/
def plR (n : Int) : Bool := decide (0 ≤ n) && decide (n ≤ 9)

set_option maxHeartbeats 400000 in
theorem val_places (n : Int) (w : World) : Calls Tryd.prog 31 #[.int .i64 n] w fun e w' => e = .returned (.bool (plR n)) ∧ w = w' := by
  go_enter Tryd.func31, Tryd.ntmps31
  go_wp2
  all_goals
    go_ret
    exact ⟨ret_bool (by unfold plR; rw [Bool.eq_iff_iff]; simp [*]; try omega), rfl⟩

set_option maxHeartbeats 1000000 in
theorem val_ty (k s : Int) (w : World) : Calls Tryd.prog 15 #[.agg #[.int .i64 k, .int .i64 s]] w fun e w' => e = .returned (.bool (tyR k s)) ∧ Below w.heap.size w w' := by
  go_enter Tryd.func15, Tryd.ntmps15
  go_wp2_with (go_at_call 31; (with_reducible refine (val_places _ _).mono ?_); rintro e w1 ⟨rfl, rfl⟩)
  all_goals
    go_ret
    exact ⟨ret_bool (by unfold tyR; rw [Bool.eq_iff_iff]; simp_all [plR]; try omega), (Below.refl _ _).alloc (Nat.le_refl _) _⟩

set_option maxHeartbeats 1000000 in
theorem val_number (k s : Int) (w : World) : Calls Tryd.prog 37 #[.agg #[.int .i64 k, .int .i64 s]] w fun e w' => e = .returned (.bool (numK k && tyR k s)) ∧ Below w.heap.size w w' := by
  go_enter Tryd.func37, Tryd.ntmps37
  go_wp2_with (go_at_call 15; (with_reducible refine (val_ty _ _ _).mono ?_); rintro e w1 ⟨rfl, hb1⟩)
  all_goals
    go_ret
    exact ⟨ret_bool (by unfold numK; rw [Bool.eq_iff_iff]; simp_all), by first | exact ((Below.refl _ _).alloc (Nat.le_refl _) _).trans ((by assumption : Below _ _ _).mono (by simp)) | exact (Below.refl _ _).alloc (Nat.le_refl _) _⟩

/-- The three values that stand for what is false, nothing, true lie where the program keeps them. -/
structure Tru (w : World) : Prop where
  lt : 0 < w.heap.size
  c0 : w.cell? ⟨0, 0, none⟩ = some (.bool false)
  c1 : w.cell? ⟨0, 1, none⟩ = some (.int .i64 0)
  c2 : w.cell? ⟨0, 2, none⟩ = some (.string ⟨#[]⟩)
  c3 : w.cell? ⟨0, 3, none⟩ = some (.bool true)
  c4 : w.cell? ⟨0, 4, none⟩ = some (.int .i64 0)
  c5 : w.cell? ⟨0, 5, none⟩ = some (.string ⟨#[]⟩)
  c6 : w.cell? ⟨0, 6, none⟩ = some (.bool false)
  c7 : w.cell? ⟨0, 7, none⟩ = some (.int .i64 1)
  c8 : w.cell? ⟨0, 8, none⟩ = some (.string ⟨#[]⟩)
theorem Tru.below {w w' : World} {b : Nat} (h : Tru w) (hb : Below b w w') (hle : w.heap.size ≤ b) : Tru w' := by
  have hl : 0 < b := Nat.lt_of_lt_of_le h.lt hle
  have k : ∀ o v, w.cell? ⟨0, o, none⟩ = some v → w'.cell? ⟨0, o, none⟩ = some v := fun o v e => (hb.cell (p := ⟨0, o, none⟩) hl).trans e
  exact ⟨Nat.lt_of_lt_of_le h.lt hb.size, k _ _ h.c0, k _ _ h.c1, k _ _ h.c2, k _ _ h.c3, k _ _ h.c4, k _ _ h.c5, k _ _ h.c6, k _ _ h.c7, k _ _ h.c8⟩
theorem Tru.alloc {w : World} (h : Tru w) (o : Obj) : Tru (w.alloc o) := h.below ((Below.refl w.heap.size w).alloc (Nat.le_refl _) o) (Nat.le_refl _)

set_option maxHeartbeats 1000000 in
theorem val_truth (u : Bool) (n : Int) (z : ByteArray) (w : World) : Calls Tryd.prog 41 #[.agg #[.bool u, .int .i64 n, .string z]] w fun e w' => e = .returned (.int .i64 (truV u n)) ∧ Below w.heap.size w w' := by
  go_enter Tryd.func41, Tryd.ntmps41
  go_wp2
  all_goals
    go_ret
    exact ⟨congrArg (fun x => Ending.returned (.int .i64 x)) (by unfold truV; simp_all), (Below.refl _ _).alloc (Nat.le_refl _) _⟩
theorem truV_three (u : Bool) (n : Int) : truV u n = 0 ∨ truV u n = 1 ∨ truV u n = 2 := by unfold truV; split <;> (try split) <;> simp
/-- The value that stands for how true something is. -/
def tvU (t : Int) : Bool := t == 1
def tvN (t : Int) : Int := if t = 2 then 1 else 0
theorem below_box {w w1 : World} {o : Obj} (h : Below (w.alloc o).heap.size (w.alloc o) w1) : Below w.heap.size w w1 := ((Below.refl _ _).alloc (Nat.le_refl _) _).trans (h.mono (by simp))
theorem bcell {W w1 : World} (hb : Below W.heap.size W w1) : (∀ b o, b < W.heap.size → w1.cell? ⟨b, o, none⟩ = W.cell? ⟨b, o, none⟩) ∧ (∀ b o, b < W.heap.size → w1.frozen? ⟨b, o, none⟩ = W.frozen? ⟨b, o, none⟩) :=
  ⟨fun b o h => hb.cell (p := ⟨b, o, none⟩) h, fun b o h => hb.frozen (p := ⟨b, o, none⟩) h⟩

theorem b1 {w : World} {x : Obj} : Below w.heap.size w (w.alloc x) := (Below.refl _ _).alloc (Nat.le_refl _) _
theorem b2 {w : World} {x y : Obj} : Below w.heap.size w ((w.alloc x).alloc y) := b1.alloc (by simp) _
theorem b3 {w : World} {x y z : Obj} : Below w.heap.size w (((w.alloc x).alloc y).alloc z) := b2.alloc (by simp; omega) _
theorem b4 {w : World} {x y z u : Obj} : Below w.heap.size w ((((w.alloc x).alloc y).alloc z).alloc u) := b3.alloc (by simp; omega) _
theorem b5 {w : World} {x y z u v : Obj} : Below w.heap.size w (((((w.alloc x).alloc y).alloc z).alloc u).alloc v) := b4.alloc (by simp; omega) _
/-- What a function answers whose result is one cell. -/
theorem results_cell {fn : Func} {p : Tmp} {ty : TypeId} (h : fn.results = #[.cell p ty]) (tmps : Array Value) (P : Program) (w : World) :
    (results fn tmps).run P w = ((asAddr (tmps.getD p undef)).run P w).andThen fun a w₁ => (loadVar ty a).run P w₁ := by
  simp only [results, h]
  simp [Sem.run_bind, Result.andThen]

set_option maxHeartbeats 2000000 in
theorem val_not (u : Bool) (n : Int) (z : ByteArray) (w : World) (hT : Tru w) : Calls Tryd.prog 22 #[.agg #[.bool u, .int .i64 n, .string z]] w fun e w' => e = .returned (.agg #[.bool (tvU (2 - truV u n)), .int .i64 (tvN (2 - truV u n)), .string ⟨#[]⟩]) ∧ Below w.heap.size w w' := by
  have c := fun w => val_truth u n z w
  rcases truV_three u n with h | h | h
  all_goals
    rw [h] at c ⊢
    clear h
    go_enter Tryd.func22, Tryd.ntmps22
    go_wp2_with (go_at_call 41; ((with_reducible refine (c _).mono ?_); rintro e w1 ⟨rfl, hb1⟩; obtain ⟨_, x0, x1, x2, x3, x4, x5, x6, x7, x8⟩ := ((hT.alloc _).alloc _).below hb1 (Nat.le_refl _); obtain ⟨hc, hf⟩ := bcell hb1))
    have hB : Below w.heap.size w w1 := (((Below.refl _ _).alloc (Nat.le_refl _) _).alloc (by simp) _).trans (hb1.mono (by simp; omega))
    have hs : w.heap.size + 1 + 1 ≤ w1.heap.size := by have := hb1.size; simpa using this
    refine bodyPost_ret (v := .agg #[.bool _, .int .i64 _, .string ⟨#[]⟩]) ?_ rfl ⟨rfl, ?_⟩
    · rw [results_cell rfl]; go_simp; decide
    · repeat (refine Below.setCell ?_ (by simp) _)
      exact hB

/-- What stood below a block's number stands so. -/
def Keeps (N : Nat) (w0 W : World) : Prop := N ≤ W.heap.size ∧ ∀ b o, b < N → W.cell? ⟨b, o, none⟩ = w0.cell? ⟨b, o, none⟩
theorem keep_on {N : Nat} {w0 W w1 : World} (h : N ≤ W.heap.size ∧ ∀ b o, b < N → W.cell? ⟨b, o, none⟩ = w0.cell? ⟨b, o, none⟩) (hb : Below W.heap.size W w1) : N ≤ w1.heap.size ∧ ∀ b o, b < N → w1.cell? ⟨b, o, none⟩ = w0.cell? ⟨b, o, none⟩ :=
  ⟨Nat.le_trans h.1 hb.size, fun b o hlt => (hb.cell (p := ⟨b, o, none⟩) (Nat.lt_of_lt_of_le hlt h.1)).trans (h.2 b o hlt)⟩

theorem four_lt {n m : Nat} (h : n + 1 + 1 + 1 ≤ m) : 0 < m ∧ n < m ∧ n + 1 < m ∧ n + 1 + 1 < m := ⟨by omega, by omega, by omega, by omega⟩
end Go.Proofs.YtfjoobopfjahcaaDoor
