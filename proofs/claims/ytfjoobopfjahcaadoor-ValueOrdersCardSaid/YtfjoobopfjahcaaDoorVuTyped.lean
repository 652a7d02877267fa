/-
  The type of what comes out of an operator, with the operator itself: package value's own, walked. Contracts that the proofs call; no statement is proved here.
-/
import Derived.Test.YtfjoobopfjahcaaDoorVuFind
import Derived.Test.YtfjoobopfjahcaaDoorVuOps
namespace Go.Proofs.YtfjoobopfjahcaaDoor
open Go.RowKit

/-- What a function answers whose results are two cells and a temporary. -/
theorem results_cell2_tmp {fn : Func} {p q u : Tmp} {ty tz : TypeId} (h : fn.results = #[.cell p ty, .cell q tz, .tmp u]) (tmps : Array Value) (P : Program) (w : World) :
    (results fn tmps).run P w =
      ((asAddr (tmps.getD p undef)).run P w).andThen fun a w₁ => ((loadVar ty a).run P w₁).andThen fun v w₂ => ((asAddr (tmps.getD q undef)).run P w₂).andThen fun b w₃ => ((loadVar tz b).run P w₃).andThen fun x w₄ => .ok (.tuple #[v, x, tmps.getD u undef]) w₄ := by
  simp only [results, h]
  simp [Sem.run_bind, Result.andThen]

theorem ty_int : tyR 1 0 = true := by decide

/-- The four boxes of a call: two types that came in, an operation and a type that are answered. -/
structure Tb (B : Nat) (ka sa kb sb : Int) (W : World) : Prop where
  a0 : W.cell? ⟨B, 0, none⟩ = some (.int .i64 ka)
  a1 : W.cell? ⟨B, 1, none⟩ = some (.int .i64 sa)
  b0 : W.cell? ⟨B + 1, 0, none⟩ = some (.int .i64 kb)
  b1 : W.cell? ⟨B + 1, 1, none⟩ = some (.int .i64 sb)
  c0 : W.cell? ⟨B + 1 + 1, 0, none⟩ = some .nilFunc
  c1 : W.cell? ⟨B + 1 + 1, 1, none⟩ = some (.bool false)
  c2 : W.cell? ⟨B + 1 + 1, 2, none⟩ = some .nilFunc
  d0 : W.cell? ⟨B + 1 + 1 + 1, 0, none⟩ = some (.int .i64 0)
  d1 : W.cell? ⟨B + 1 + 1 + 1, 1, none⟩ = some (.int .i64 0)
  y0 : W.frozen? ⟨B + 1 + 1, 0, none⟩ = false
  y1 : W.frozen? ⟨B + 1 + 1, 1, none⟩ = false
  y2 : W.frozen? ⟨B + 1 + 1, 2, none⟩ = false
  x0 : W.frozen? ⟨B + 1 + 1 + 1, 0, none⟩ = false
  x1 : W.frozen? ⟨B + 1 + 1 + 1, 1, none⟩ = false
theorem Tb.on {B : Nat} {ka sa kb sb : Int} {W w1 : World} (h : Tb B ka sa kb sb W) (hb : Below W.heap.size W w1) : Tb B ka sa kb sb w1 :=
  ⟨stay_on hb h.a0, stay_on hb h.a1, stay_on hb h.b0, stay_on hb h.b1, stay_on hb h.c0, stay_on hb h.c1, stay_on hb h.c2, stay_on hb h.d0, stay_on hb h.d1, free_on hb h.c0 h.y0, free_on hb h.c1 h.y1, free_on hb h.c2 h.y2, free_on hb h.d0 h.x0, free_on hb h.d1 h.x1⟩
theorem Tb.lt {B : Nat} {ka sa kb sb : Int} {W : World} (h : Tb B ka sa kb sb W) : B < W.heap.size ∧ B + 1 < W.heap.size ∧ B + 1 + 1 < W.heap.size ∧ B + 1 + 1 + 1 < W.heap.size := by
  have := World.block_lt_of_cell? W _ h.d0
  simp only at this
  omega
theorem Tb.set {B : Nat} {ka sa kb sb : Int} {W : World} (h : Tb B ka sa kb sb W) {b : Nat} (hb : B + 1 + 1 + 1 < b) (o : Nat) (v : Value) : Tb B ka sa kb sb (W.setCell ⟨b, o, none⟩ v) := by
  have k : ∀ (c p : Nat) (x : Value), c ≤ B + 1 + 1 + 1 → W.cell? ⟨c, p, none⟩ = some x → (W.setCell ⟨b, o, none⟩ v).cell? ⟨c, p, none⟩ = some x := fun c p x hc e => by
    rw [World.cell?_setCell_other _ _ _ _ (fun q => by have h : b = c := congrArg Addr.block q; omega)]; exact e
  exact ⟨k _ _ _ (by omega) h.a0, k _ _ _ (by omega) h.a1, k _ _ _ (by omega) h.b0, k _ _ _ (by omega) h.b1, k _ _ _ (by omega) h.c0, k _ _ _ (by omega) h.c1, k _ _ _ (by omega) h.c2, k _ _ _ (by omega) h.d0, k _ _ _ (by omega) h.d1,
    by rw [World.frozen?_setCell]; exact h.y0, by rw [World.frozen?_setCell]; exact h.y1, by rw [World.frozen?_setCell]; exact h.y2, by rw [World.frozen?_setCell]; exact h.x0, by rw [World.frozen?_setCell]; exact h.x1⟩
/-- An operation's box. -/
structure Ob (b : Nat) (f : Value) (e : Bool) (g : Value) (W : World) : Prop where
  o0 : W.cell? ⟨b, 0, none⟩ = some f
  o1 : W.cell? ⟨b, 1, none⟩ = some (.bool e)
  o2 : W.cell? ⟨b, 2, none⟩ = some g
theorem Ob.new (w : World) (f : Value) (e : Bool) (g : Value) (t : TypeId) : Ob w.heap.size f e g (w.alloc (.cells #[f, .bool e, g] t)) :=
  ⟨by rw [World.cell?_alloc_new]; rfl, by rw [World.cell?_alloc_new]; rfl, by rw [World.cell?_alloc_new]; rfl⟩
theorem Ob.on {b : Nat} {f : Value} {e : Bool} {g : Value} {W w1 : World} (h : Ob b f e g W) (hb : Below W.heap.size W w1) : Ob b f e g w1 := ⟨stay_on hb h.o0, stay_on hb h.o1, stay_on hb h.o2⟩
theorem Ob.set {b : Nat} {f : Value} {e : Bool} {g : Value} {W : World} (h : Ob b f e g W) {c : Nat} (hc : b ≠ c) (o : Nat) (v : Value) : Ob b f e g (W.setCell ⟨c, o, none⟩ v) := by
  have k : ∀ (p : Nat) (x : Value), W.cell? ⟨b, p, none⟩ = some x → (W.setCell ⟨c, o, none⟩ v).cell? ⟨b, p, none⟩ = some x := fun p x e => by
    rw [World.cell?_setCell_other _ _ _ _ (fun q => hc (congrArg Addr.block q).symm)]; exact e
  exact ⟨k _ _ h.o0, k _ _ h.o1, k _ _ h.o2⟩
/-- A type's box. -/
structure Yb (b : Nat) (k s : Int) (W : World) : Prop where
  t0 : W.cell? ⟨b, 0, none⟩ = some (.int .i64 k)
  t1 : W.cell? ⟨b, 1, none⟩ = some (.int .i64 s)
  n0 : W.frozen? ⟨b, 0, none⟩ = false
  n1 : W.frozen? ⟨b, 1, none⟩ = false
theorem Yb.new (w : World) (k s : Int) (t : TypeId) : Yb w.heap.size k s (w.alloc (.cells #[.int .i64 k, .int .i64 s] t)) :=
  ⟨by rw [World.cell?_alloc_new]; rfl, by rw [World.cell?_alloc_new]; rfl, World.frozen?_alloc_new _ _ _ _, World.frozen?_alloc_new _ _ _ _⟩
theorem Yb.on {b : Nat} {k s : Int} {W w1 : World} (h : Yb b k s W) (hb : Below W.heap.size W w1) : Yb b k s w1 := ⟨stay_on hb h.t0, stay_on hb h.t1, free_on hb h.t0 h.n0, free_on hb h.t1 h.n1⟩
theorem Yb.set {b : Nat} {k s : Int} {W : World} (h : Yb b k s W) (k' s' : Int) : Yb b k' s' ((W.setCell ⟨b, 0, none⟩ (.int .i64 k')).setCell ⟨b, 1, none⟩ (.int .i64 s')) := by
  have e0 : (W.setCell ⟨b, 0, none⟩ (.int .i64 k')).cell? ⟨b, 1, none⟩ = some (.int .i64 s) := by rw [World.cell?_setCell_other _ _ _ _ (by simp)]; exact h.t1
  refine ⟨?_, World.cell?_setCell_same _ _ _ e0, ?_, ?_⟩
  · rw [World.cell?_setCell_other _ _ _ _ (by simp)]; exact World.cell?_setCell_same _ _ _ h.t0
  · rw [World.frozen?_setCell, World.frozen?_setCell]; exact h.n0
  · rw [World.frozen?_setCell, World.frozen?_setCell]; exact h.n1

set_option maxRecDepth 100000 in
set_option maxHeartbeats 8000000 in
theorem typed_plus_zero (ka sa kb sb M : Int) (hall : (numK ka && tyR ka sa && numK kb && tyR kb sb) = true) (hM : max sa sb = M) (hm : M = 0) (w : World) :
    Calls Tryd.prog 28 #[.int .u8 43, .agg #[.int .i64 ka, .int .i64 sa], .agg #[.int .i64 kb, .int .i64 sb]] w fun e w' => e = .returned (.tuple #[.agg #[.func (.func 55) #[] #[], .bool true, .func (.func 57) #[] #[]], .agg #[.int .i64 1, .int .i64 0], .bool true]) ∧ Below w.heap.size w w' := by
  obtain ⟨_, g1, g2, g3, g4⟩ := arS_yes (op := 43) hall
  have hn1 : (numK ka && tyR ka sa) = true := by simp only [Bool.and_eq_true] at hall ⊢; exact ⟨hall.1.1.1, hall.1.1.2⟩
  have hn2 : (numK kb && tyR kb sb) = true := by simp only [Bool.and_eq_true] at hall ⊢; exact ⟨hall.1.2, hall.2⟩
  have c1 := fun w => val_number ka sa w
  have c2 := fun w => val_number kb sb w
  rw [hn1] at c1
  rw [hn2] at c2
  have c0 := fun w => val_find 43 (by decide) (by decide) w
  rw [show found 43 = .agg #[.func (.func 55) #[] #[], .bool true, .func (.func 57) #[] #[]] from rfl, show isOp 43 = true from rfl] at c0
  have c3 := fun w => op_max sa sb w
  rw [hM] at c3
  clear hM hall hn1 hn2 g1 g2 g3 g4

  subst hm
  have c4 := fun w => val_ty 1 0 w
  rw [ty_int] at c4
  obtain ⟨W, hW⟩ : ∃ W, W = (((w.alloc (.cells #[.int .i64 ka, .int .i64 sa] 23)).alloc (.cells #[.int .i64 kb, .int .i64 sb] 23)).alloc (.cells #[.nilFunc, .bool false, .nilFunc] 57)).alloc (.cells #[.int .i64 0, .int .i64 0] 23) := ⟨_, rfl⟩
  have HT : Tb w.heap.size ka sa kb sb W := by
    rw [hW]; exact ⟨by go_simp, by go_simp, by go_simp, by go_simp, by go_simp, by go_simp, by go_simp, by go_simp, by go_simp, by go_simp, by go_simp, by go_simp, by go_simp, by go_simp⟩
  have hB : Below w.heap.size w W := by rw [hW]; exact b4
  go_enter Tryd.func28, Tryd.ntmps28
  go_upto_region 1 with fail
  rw [← hW]
  clear hW
  go_wp2_with (first
    | (go_at_call 44; (with_reducible refine (c0 _).mono ?_); rintro e w1 ⟨rfl, hb1⟩; have T1 := HT.on hb1; have hB1 := bt hB hb1; obtain ⟨l0, l1, l2, l3⟩ := T1.lt; obtain ⟨a0, a1, e0, e1, _, _, _, _, _, _, _, _, _, _⟩ := id T1; have O1 := Ob.new w1 (.func (.func 55) #[] #[]) true (.func (.func 57) #[] #[]) 57)
    | (go_at_call 37; (with_reducible refine (c1 _).mono ?_); rintro e w2 ⟨rfl, hb2⟩; have T2 := (T1.on b1).on hb2; have O2 := O1.on hb2; have hB2 := bt (bt hB1 b1) hb2; obtain ⟨a0', a1', e0', e1', _, _, _, _, _, _, _, _, _, _⟩ := id T2)
    | (go_at_call 37; (with_reducible refine (c2 _).mono ?_); rintro e w3 ⟨rfl, hb3⟩; have T3 := T2.on hb3; have O3 := O2.on hb3; have hB3 := bt hB2 hb3; obtain ⟨a0'', a1'', e0'', e1'', _, _, _, _, _, _, _, _, _, _⟩ := id T3; obtain ⟨o0, o1, o2⟩ := id O3; obtain ⟨m0, m1, m2, m3⟩ := T3.lt; have m4 : w1.heap.size < w3.heap.size := World.block_lt_of_cell? w3 _ o0; have Y3 := Yb.new w3 1 0 23)
    | (go_at_call 55; (with_reducible refine (c3 _).mono ?_); rintro e w4 ⟨rfl, hb4⟩; have T4 := (T3.on b1).on hb4; have O4 := (O3.on b1).on hb4; have Y4 := Y3.on hb4; have hB4 := bt (bt hB3 b1) hb4; obtain ⟨t0, t1, n0, n1⟩ := id Y4)

    | (go_at_call 15; (with_reducible refine (c4 _).mono ?_); rintro e w5 ⟨rfl, hb5⟩; have T5 := T4.on hb5; have O5 := O4.on hb5; have Y5 := Y4.on hb5; have hB5 := bt hB4 hb5; obtain ⟨_, _, _, _, c0', c1', c2', d0, d1, y0, y1, y2, x0, x1⟩ := id T5; obtain ⟨o0', o1', o2'⟩ := id O5; obtain ⟨t0', t1', _, _⟩ := id Y5; clear hb5))
  go_region
  go_wp2
  refine bodyPost_ret (v := .tuple #[.agg #[.func (.func 55) #[] #[], .bool true, .func (.func 57) #[] #[]], .agg #[.int .i64 1, .int .i64 0], .bool true]) ?_ rfl ⟨rfl, ?_⟩
  · rw [results_cell2_tmp rfl]; go_simp
  · repeat (first | refine Below.drew ?_ | refine Below.setCell ?_ (by first | (simp; done) | (simp; omega)) _)
    exact hB5

set_option maxRecDepth 100000 in
set_option maxHeartbeats 8000000 in
theorem typed_plus_dec (ka sa kb sb M : Int) (hall : (numK ka && tyR ka sa && numK kb && tyR kb sb) = true) (hM : max sa sb = M) (hm : 1 ≤ M ∧ M ≤ 9) (w : World) :
    Calls Tryd.prog 28 #[.int .u8 43, .agg #[.int .i64 ka, .int .i64 sa], .agg #[.int .i64 kb, .int .i64 sb]] w fun e w' => e = .returned (.tuple #[.agg #[.func (.func 55) #[] #[], .bool true, .func (.func 57) #[] #[]], .agg #[.int .i64 2, .int .i64 M], .bool true]) ∧ Below w.heap.size w w' := by
  obtain ⟨_, g1, g2, g3, g4⟩ := arS_yes (op := 43) hall
  have hn1 : (numK ka && tyR ka sa) = true := by simp only [Bool.and_eq_true] at hall ⊢; exact ⟨hall.1.1.1, hall.1.1.2⟩
  have hn2 : (numK kb && tyR kb sb) = true := by simp only [Bool.and_eq_true] at hall ⊢; exact ⟨hall.1.2, hall.2⟩
  have c1 := fun w => val_number ka sa w
  have c2 := fun w => val_number kb sb w
  rw [hn1] at c1
  rw [hn2] at c2
  have c0 := fun w => val_find 43 (by decide) (by decide) w
  rw [show found 43 = .agg #[.func (.func 55) #[] #[], .bool true, .func (.func 57) #[] #[]] from rfl, show isOp 43 = true from rfl] at c0
  have c3 := fun w => op_max sa sb w
  rw [hM] at c3
  clear hM hall hn1 hn2 g1 g2 g3 g4

  have c4 := fun w => val_ty 2 M w
  rw [show tyR 2 M = true from tyR_true.2 (Or.inr ⟨rfl, hm⟩)] at c4
  have hm0 : (M != 0) = true := by simp; omega
  clear hm
  obtain ⟨W, hW⟩ : ∃ W, W = (((w.alloc (.cells #[.int .i64 ka, .int .i64 sa] 23)).alloc (.cells #[.int .i64 kb, .int .i64 sb] 23)).alloc (.cells #[.nilFunc, .bool false, .nilFunc] 57)).alloc (.cells #[.int .i64 0, .int .i64 0] 23) := ⟨_, rfl⟩
  have HT : Tb w.heap.size ka sa kb sb W := by
    rw [hW]; exact ⟨by go_simp, by go_simp, by go_simp, by go_simp, by go_simp, by go_simp, by go_simp, by go_simp, by go_simp, by go_simp, by go_simp, by go_simp, by go_simp, by go_simp⟩
  have hB : Below w.heap.size w W := by rw [hW]; exact b4
  go_enter Tryd.func28, Tryd.ntmps28
  go_upto_region 1 with fail
  rw [← hW]
  clear hW
  go_wp2_with (first
    | (go_at_call 44; (with_reducible refine (c0 _).mono ?_); rintro e w1 ⟨rfl, hb1⟩; have T1 := HT.on hb1; have hB1 := bt hB hb1; obtain ⟨l0, l1, l2, l3⟩ := T1.lt; obtain ⟨a0, a1, e0, e1, _, _, _, _, _, _, _, _, _, _⟩ := id T1; have O1 := Ob.new w1 (.func (.func 55) #[] #[]) true (.func (.func 57) #[] #[]) 57)
    | (go_at_call 37; (with_reducible refine (c1 _).mono ?_); rintro e w2 ⟨rfl, hb2⟩; have T2 := (T1.on b1).on hb2; have O2 := O1.on hb2; have hB2 := bt (bt hB1 b1) hb2; obtain ⟨a0', a1', e0', e1', _, _, _, _, _, _, _, _, _, _⟩ := id T2)
    | (go_at_call 37; (with_reducible refine (c2 _).mono ?_); rintro e w3 ⟨rfl, hb3⟩; have T3 := T2.on hb3; have O3 := O2.on hb3; have hB3 := bt hB2 hb3; obtain ⟨a0'', a1'', e0'', e1'', _, _, _, _, _, _, _, _, _, _⟩ := id T3; obtain ⟨o0, o1, o2⟩ := id O3; obtain ⟨m0, m1, m2, m3⟩ := T3.lt; have m4 : w1.heap.size < w3.heap.size := World.block_lt_of_cell? w3 _ o0; have Y3 := Yb.new w3 1 0 23)
    | (go_at_call 55; (with_reducible refine (c3 _).mono ?_); rintro e w4 ⟨rfl, hb4⟩; have T4 := (T3.on b1).on hb4; have O4 := (O3.on b1).on hb4; have Y4 := Y3.on hb4; have hB4 := bt (bt hB3 b1) hb4; obtain ⟨t0, t1, n0, n1⟩ := id Y4)

    | (go_at_call 15; (with_reducible refine (c4 _).mono ?_); rintro e w5 ⟨rfl, hb5⟩; have T5 := ((T4.set m3 0 (.int .i64 2)).set m3 1 (.int .i64 M)).on hb5; have O5 := ((O4.set (Nat.ne_of_lt m4) 0 (.int .i64 2)).set (Nat.ne_of_lt m4) 1 (.int .i64 M)).on hb5; have Y5 := (Y4.set 2 M).on hb5; have hB5 := bt ((hB4.setCell (Nat.le_of_lt m0) _).setCell (Nat.le_of_lt m0) _) hb5; obtain ⟨_, _, _, _, c0', c1', c2', d0, d1, y0, y1, y2, x0, x1⟩ := id T5; obtain ⟨o0', o1', o2'⟩ := id O5; obtain ⟨t0', t1', _, _⟩ := id Y5; clear hb5))
  go_region
  go_wp2
  refine bodyPost_ret (v := .tuple #[.agg #[.func (.func 55) #[] #[], .bool true, .func (.func 57) #[] #[]], .agg #[.int .i64 2, .int .i64 M], .bool true]) ?_ rfl ⟨rfl, ?_⟩
  · rw [results_cell2_tmp rfl]; go_simp
  · repeat (first | refine Below.drew ?_ | refine Below.setCell ?_ (by first | (simp; done) | (simp; omega)) _)
    exact hB5

set_option maxRecDepth 100000 in
set_option maxHeartbeats 8000000 in
theorem typed_plus_no (ka sa kb sb M : Int) (hall : (numK ka && tyR ka sa && numK kb && tyR kb sb) = true) (hM : max sa sb = M) (hm : M ≠ 0 ∧ ¬ (1 ≤ M ∧ M ≤ 9)) (w : World) :
    Calls Tryd.prog 28 #[.int .u8 43, .agg #[.int .i64 ka, .int .i64 sa], .agg #[.int .i64 kb, .int .i64 sb]] w fun e w' => e = .returned (.tuple #[.agg #[.nilFunc, .bool false, .nilFunc], .agg #[.int .i64 0, .int .i64 0], .bool false]) ∧ Below w.heap.size w w' := by
  obtain ⟨_, g1, g2, g3, g4⟩ := arS_yes (op := 43) hall
  have hn1 : (numK ka && tyR ka sa) = true := by simp only [Bool.and_eq_true] at hall ⊢; exact ⟨hall.1.1.1, hall.1.1.2⟩
  have hn2 : (numK kb && tyR kb sb) = true := by simp only [Bool.and_eq_true] at hall ⊢; exact ⟨hall.1.2, hall.2⟩
  have c1 := fun w => val_number ka sa w
  have c2 := fun w => val_number kb sb w
  rw [hn1] at c1
  rw [hn2] at c2
  have c0 := fun w => val_find 43 (by decide) (by decide) w
  rw [show found 43 = .agg #[.func (.func 55) #[] #[], .bool true, .func (.func 57) #[] #[]] from rfl, show isOp 43 = true from rfl] at c0
  have c3 := fun w => op_max sa sb w
  rw [hM] at c3
  clear hM hall hn1 hn2 g1 g2 g3 g4

  have c4 := fun w => val_ty 2 M w
  rw [show tyR 2 M = false by rw [Bool.eq_false_iff]; intro h; have := tyR_true.1 h; omega] at c4
  have hm0 : (M != 0) = true := by simpa using hm.1
  clear hm
  obtain ⟨W, hW⟩ : ∃ W, W = (((w.alloc (.cells #[.int .i64 ka, .int .i64 sa] 23)).alloc (.cells #[.int .i64 kb, .int .i64 sb] 23)).alloc (.cells #[.nilFunc, .bool false, .nilFunc] 57)).alloc (.cells #[.int .i64 0, .int .i64 0] 23) := ⟨_, rfl⟩
  have HT : Tb w.heap.size ka sa kb sb W := by
    rw [hW]; exact ⟨by go_simp, by go_simp, by go_simp, by go_simp, by go_simp, by go_simp, by go_simp, by go_simp, by go_simp, by go_simp, by go_simp, by go_simp, by go_simp, by go_simp⟩
  have hB : Below w.heap.size w W := by rw [hW]; exact b4
  go_enter Tryd.func28, Tryd.ntmps28
  go_upto_region 1 with fail
  rw [← hW]
  clear hW
  go_wp2_with (first
    | (go_at_call 44; (with_reducible refine (c0 _).mono ?_); rintro e w1 ⟨rfl, hb1⟩; have T1 := HT.on hb1; have hB1 := bt hB hb1; obtain ⟨l0, l1, l2, l3⟩ := T1.lt; obtain ⟨a0, a1, e0, e1, _, _, _, _, _, _, _, _, _, _⟩ := id T1; have O1 := Ob.new w1 (.func (.func 55) #[] #[]) true (.func (.func 57) #[] #[]) 57)
    | (go_at_call 37; (with_reducible refine (c1 _).mono ?_); rintro e w2 ⟨rfl, hb2⟩; have T2 := (T1.on b1).on hb2; have O2 := O1.on hb2; have hB2 := bt (bt hB1 b1) hb2; obtain ⟨a0', a1', e0', e1', _, _, _, _, _, _, _, _, _, _⟩ := id T2)
    | (go_at_call 37; (with_reducible refine (c2 _).mono ?_); rintro e w3 ⟨rfl, hb3⟩; have T3 := T2.on hb3; have O3 := O2.on hb3; have hB3 := bt hB2 hb3; obtain ⟨a0'', a1'', e0'', e1'', _, _, _, _, _, _, _, _, _, _⟩ := id T3; obtain ⟨o0, o1, o2⟩ := id O3; obtain ⟨m0, m1, m2, m3⟩ := T3.lt; have m4 : w1.heap.size < w3.heap.size := World.block_lt_of_cell? w3 _ o0; have Y3 := Yb.new w3 1 0 23)
    | (go_at_call 55; (with_reducible refine (c3 _).mono ?_); rintro e w4 ⟨rfl, hb4⟩; have T4 := (T3.on b1).on hb4; have O4 := (O3.on b1).on hb4; have Y4 := Y3.on hb4; have hB4 := bt (bt hB3 b1) hb4; obtain ⟨t0, t1, n0, n1⟩ := id Y4)

    | (go_at_call 15; (with_reducible refine (c4 _).mono ?_); rintro e w5 ⟨rfl, hb5⟩; have T5 := ((T4.set m3 0 (.int .i64 2)).set m3 1 (.int .i64 M)).on hb5; have O5 := ((O4.set (Nat.ne_of_lt m4) 0 (.int .i64 2)).set (Nat.ne_of_lt m4) 1 (.int .i64 M)).on hb5; have Y5 := (Y4.set 2 M).on hb5; have hB5 := bt ((hB4.setCell (Nat.le_of_lt m0) _).setCell (Nat.le_of_lt m0) _) hb5; obtain ⟨_, _, _, _, c0', c1', c2', d0, d1, y0, y1, y2, x0, x1⟩ := id T5; obtain ⟨o0', o1', o2'⟩ := id O5; obtain ⟨t0', t1', _, _⟩ := id Y5; clear hb5))
  refine bodyPost_ret (v := .tuple #[.agg #[.nilFunc, .bool false, .nilFunc], .agg #[.int .i64 0, .int .i64 0], .bool false]) ?_ rfl ⟨rfl, ?_⟩
  · rw [results_cell2_tmp rfl]; go_simp
  · repeat (first | refine Below.drew ?_ | refine Below.setCell ?_ (by first | (simp; done) | (simp; omega)) _)
    exact hB5

set_option maxRecDepth 100000 in
set_option maxHeartbeats 8000000 in
theorem typed_minus_zero (ka sa kb sb M : Int) (hall : (numK ka && tyR ka sa && numK kb && tyR kb sb) = true) (hM : max sa sb = M) (hm : M = 0) (w : World) :
    Calls Tryd.prog 28 #[.int .u8 45, .agg #[.int .i64 ka, .int .i64 sa], .agg #[.int .i64 kb, .int .i64 sb]] w fun e w' => e = .returned (.tuple #[.agg #[.func (.func 55) #[] #[], .bool true, .func (.func 58) #[] #[]], .agg #[.int .i64 1, .int .i64 0], .bool true]) ∧ Below w.heap.size w w' := by
  obtain ⟨_, g1, g2, g3, g4⟩ := arS_yes (op := 45) hall
  have hn1 : (numK ka && tyR ka sa) = true := by simp only [Bool.and_eq_true] at hall ⊢; exact ⟨hall.1.1.1, hall.1.1.2⟩
  have hn2 : (numK kb && tyR kb sb) = true := by simp only [Bool.and_eq_true] at hall ⊢; exact ⟨hall.1.2, hall.2⟩
  have c1 := fun w => val_number ka sa w
  have c2 := fun w => val_number kb sb w
  rw [hn1] at c1
  rw [hn2] at c2
  have c0 := fun w => val_find 45 (by decide) (by decide) w
  rw [show found 45 = .agg #[.func (.func 55) #[] #[], .bool true, .func (.func 58) #[] #[]] from rfl, show isOp 45 = true from rfl] at c0
  have c3 := fun w => op_max sa sb w
  rw [hM] at c3
  clear hM hall hn1 hn2 g1 g2 g3 g4

  subst hm
  have c4 := fun w => val_ty 1 0 w
  rw [ty_int] at c4
  obtain ⟨W, hW⟩ : ∃ W, W = (((w.alloc (.cells #[.int .i64 ka, .int .i64 sa] 23)).alloc (.cells #[.int .i64 kb, .int .i64 sb] 23)).alloc (.cells #[.nilFunc, .bool false, .nilFunc] 57)).alloc (.cells #[.int .i64 0, .int .i64 0] 23) := ⟨_, rfl⟩
  have HT : Tb w.heap.size ka sa kb sb W := by
    rw [hW]; exact ⟨by go_simp, by go_simp, by go_simp, by go_simp, by go_simp, by go_simp, by go_simp, by go_simp, by go_simp, by go_simp, by go_simp, by go_simp, by go_simp, by go_simp⟩
  have hB : Below w.heap.size w W := by rw [hW]; exact b4
  go_enter Tryd.func28, Tryd.ntmps28
  go_upto_region 1 with fail
  rw [← hW]
  clear hW
  go_wp2_with (first
    | (go_at_call 44; (with_reducible refine (c0 _).mono ?_); rintro e w1 ⟨rfl, hb1⟩; have T1 := HT.on hb1; have hB1 := bt hB hb1; obtain ⟨l0, l1, l2, l3⟩ := T1.lt; obtain ⟨a0, a1, e0, e1, _, _, _, _, _, _, _, _, _, _⟩ := id T1; have O1 := Ob.new w1 (.func (.func 55) #[] #[]) true (.func (.func 58) #[] #[]) 57)
    | (go_at_call 37; (with_reducible refine (c1 _).mono ?_); rintro e w2 ⟨rfl, hb2⟩; have T2 := (T1.on b1).on hb2; have O2 := O1.on hb2; have hB2 := bt (bt hB1 b1) hb2; obtain ⟨a0', a1', e0', e1', _, _, _, _, _, _, _, _, _, _⟩ := id T2)
    | (go_at_call 37; (with_reducible refine (c2 _).mono ?_); rintro e w3 ⟨rfl, hb3⟩; have T3 := T2.on hb3; have O3 := O2.on hb3; have hB3 := bt hB2 hb3; obtain ⟨a0'', a1'', e0'', e1'', _, _, _, _, _, _, _, _, _, _⟩ := id T3; obtain ⟨o0, o1, o2⟩ := id O3; obtain ⟨m0, m1, m2, m3⟩ := T3.lt; have m4 : w1.heap.size < w3.heap.size := World.block_lt_of_cell? w3 _ o0; have Y3 := Yb.new w3 1 0 23)
    | (go_at_call 55; (with_reducible refine (c3 _).mono ?_); rintro e w4 ⟨rfl, hb4⟩; have T4 := (T3.on b1).on hb4; have O4 := (O3.on b1).on hb4; have Y4 := Y3.on hb4; have hB4 := bt (bt hB3 b1) hb4; obtain ⟨t0, t1, n0, n1⟩ := id Y4)

    | (go_at_call 15; (with_reducible refine (c4 _).mono ?_); rintro e w5 ⟨rfl, hb5⟩; have T5 := T4.on hb5; have O5 := O4.on hb5; have Y5 := Y4.on hb5; have hB5 := bt hB4 hb5; obtain ⟨_, _, _, _, c0', c1', c2', d0, d1, y0, y1, y2, x0, x1⟩ := id T5; obtain ⟨o0', o1', o2'⟩ := id O5; obtain ⟨t0', t1', _, _⟩ := id Y5; clear hb5))
  go_region
  go_wp2
  refine bodyPost_ret (v := .tuple #[.agg #[.func (.func 55) #[] #[], .bool true, .func (.func 58) #[] #[]], .agg #[.int .i64 1, .int .i64 0], .bool true]) ?_ rfl ⟨rfl, ?_⟩
  · rw [results_cell2_tmp rfl]; go_simp
  · repeat (first | refine Below.drew ?_ | refine Below.setCell ?_ (by first | (simp; done) | (simp; omega)) _)
    exact hB5

set_option maxRecDepth 100000 in
set_option maxHeartbeats 8000000 in
theorem typed_minus_dec (ka sa kb sb M : Int) (hall : (numK ka && tyR ka sa && numK kb && tyR kb sb) = true) (hM : max sa sb = M) (hm : 1 ≤ M ∧ M ≤ 9) (w : World) :
    Calls Tryd.prog 28 #[.int .u8 45, .agg #[.int .i64 ka, .int .i64 sa], .agg #[.int .i64 kb, .int .i64 sb]] w fun e w' => e = .returned (.tuple #[.agg #[.func (.func 55) #[] #[], .bool true, .func (.func 58) #[] #[]], .agg #[.int .i64 2, .int .i64 M], .bool true]) ∧ Below w.heap.size w w' := by
  obtain ⟨_, g1, g2, g3, g4⟩ := arS_yes (op := 45) hall
  have hn1 : (numK ka && tyR ka sa) = true := by simp only [Bool.and_eq_true] at hall ⊢; exact ⟨hall.1.1.1, hall.1.1.2⟩
  have hn2 : (numK kb && tyR kb sb) = true := by simp only [Bool.and_eq_true] at hall ⊢; exact ⟨hall.1.2, hall.2⟩
  have c1 := fun w => val_number ka sa w
  have c2 := fun w => val_number kb sb w
  rw [hn1] at c1
  rw [hn2] at c2
  have c0 := fun w => val_find 45 (by decide) (by decide) w
  rw [show found 45 = .agg #[.func (.func 55) #[] #[], .bool true, .func (.func 58) #[] #[]] from rfl, show isOp 45 = true from rfl] at c0
  have c3 := fun w => op_max sa sb w
  rw [hM] at c3
  clear hM hall hn1 hn2 g1 g2 g3 g4

  have c4 := fun w => val_ty 2 M w
  rw [show tyR 2 M = true from tyR_true.2 (Or.inr ⟨rfl, hm⟩)] at c4
  have hm0 : (M != 0) = true := by simp; omega
  clear hm
  obtain ⟨W, hW⟩ : ∃ W, W = (((w.alloc (.cells #[.int .i64 ka, .int .i64 sa] 23)).alloc (.cells #[.int .i64 kb, .int .i64 sb] 23)).alloc (.cells #[.nilFunc, .bool false, .nilFunc] 57)).alloc (.cells #[.int .i64 0, .int .i64 0] 23) := ⟨_, rfl⟩
  have HT : Tb w.heap.size ka sa kb sb W := by
    rw [hW]; exact ⟨by go_simp, by go_simp, by go_simp, by go_simp, by go_simp, by go_simp, by go_simp, by go_simp, by go_simp, by go_simp, by go_simp, by go_simp, by go_simp, by go_simp⟩
  have hB : Below w.heap.size w W := by rw [hW]; exact b4
  go_enter Tryd.func28, Tryd.ntmps28
  go_upto_region 1 with fail
  rw [← hW]
  clear hW
  go_wp2_with (first
    | (go_at_call 44; (with_reducible refine (c0 _).mono ?_); rintro e w1 ⟨rfl, hb1⟩; have T1 := HT.on hb1; have hB1 := bt hB hb1; obtain ⟨l0, l1, l2, l3⟩ := T1.lt; obtain ⟨a0, a1, e0, e1, _, _, _, _, _, _, _, _, _, _⟩ := id T1; have O1 := Ob.new w1 (.func (.func 55) #[] #[]) true (.func (.func 58) #[] #[]) 57)
    | (go_at_call 37; (with_reducible refine (c1 _).mono ?_); rintro e w2 ⟨rfl, hb2⟩; have T2 := (T1.on b1).on hb2; have O2 := O1.on hb2; have hB2 := bt (bt hB1 b1) hb2; obtain ⟨a0', a1', e0', e1', _, _, _, _, _, _, _, _, _, _⟩ := id T2)
    | (go_at_call 37; (with_reducible refine (c2 _).mono ?_); rintro e w3 ⟨rfl, hb3⟩; have T3 := T2.on hb3; have O3 := O2.on hb3; have hB3 := bt hB2 hb3; obtain ⟨a0'', a1'', e0'', e1'', _, _, _, _, _, _, _, _, _, _⟩ := id T3; obtain ⟨o0, o1, o2⟩ := id O3; obtain ⟨m0, m1, m2, m3⟩ := T3.lt; have m4 : w1.heap.size < w3.heap.size := World.block_lt_of_cell? w3 _ o0; have Y3 := Yb.new w3 1 0 23)
    | (go_at_call 55; (with_reducible refine (c3 _).mono ?_); rintro e w4 ⟨rfl, hb4⟩; have T4 := (T3.on b1).on hb4; have O4 := (O3.on b1).on hb4; have Y4 := Y3.on hb4; have hB4 := bt (bt hB3 b1) hb4; obtain ⟨t0, t1, n0, n1⟩ := id Y4)

    | (go_at_call 15; (with_reducible refine (c4 _).mono ?_); rintro e w5 ⟨rfl, hb5⟩; have T5 := ((T4.set m3 0 (.int .i64 2)).set m3 1 (.int .i64 M)).on hb5; have O5 := ((O4.set (Nat.ne_of_lt m4) 0 (.int .i64 2)).set (Nat.ne_of_lt m4) 1 (.int .i64 M)).on hb5; have Y5 := (Y4.set 2 M).on hb5; have hB5 := bt ((hB4.setCell (Nat.le_of_lt m0) _).setCell (Nat.le_of_lt m0) _) hb5; obtain ⟨_, _, _, _, c0', c1', c2', d0, d1, y0, y1, y2, x0, x1⟩ := id T5; obtain ⟨o0', o1', o2'⟩ := id O5; obtain ⟨t0', t1', _, _⟩ := id Y5; clear hb5))
  go_region
  go_wp2
  refine bodyPost_ret (v := .tuple #[.agg #[.func (.func 55) #[] #[], .bool true, .func (.func 58) #[] #[]], .agg #[.int .i64 2, .int .i64 M], .bool true]) ?_ rfl ⟨rfl, ?_⟩
  · rw [results_cell2_tmp rfl]; go_simp
  · repeat (first | refine Below.drew ?_ | refine Below.setCell ?_ (by first | (simp; done) | (simp; omega)) _)
    exact hB5

set_option maxRecDepth 100000 in
set_option maxHeartbeats 8000000 in
theorem typed_minus_no (ka sa kb sb M : Int) (hall : (numK ka && tyR ka sa && numK kb && tyR kb sb) = true) (hM : max sa sb = M) (hm : M ≠ 0 ∧ ¬ (1 ≤ M ∧ M ≤ 9)) (w : World) :
    Calls Tryd.prog 28 #[.int .u8 45, .agg #[.int .i64 ka, .int .i64 sa], .agg #[.int .i64 kb, .int .i64 sb]] w fun e w' => e = .returned (.tuple #[.agg #[.nilFunc, .bool false, .nilFunc], .agg #[.int .i64 0, .int .i64 0], .bool false]) ∧ Below w.heap.size w w' := by
  obtain ⟨_, g1, g2, g3, g4⟩ := arS_yes (op := 45) hall
  have hn1 : (numK ka && tyR ka sa) = true := by simp only [Bool.and_eq_true] at hall ⊢; exact ⟨hall.1.1.1, hall.1.1.2⟩
  have hn2 : (numK kb && tyR kb sb) = true := by simp only [Bool.and_eq_true] at hall ⊢; exact ⟨hall.1.2, hall.2⟩
  have c1 := fun w => val_number ka sa w
  have c2 := fun w => val_number kb sb w
  rw [hn1] at c1
  rw [hn2] at c2
  have c0 := fun w => val_find 45 (by decide) (by decide) w
  rw [show found 45 = .agg #[.func (.func 55) #[] #[], .bool true, .func (.func 58) #[] #[]] from rfl, show isOp 45 = true from rfl] at c0
  have c3 := fun w => op_max sa sb w
  rw [hM] at c3
  clear hM hall hn1 hn2 g1 g2 g3 g4

  have c4 := fun w => val_ty 2 M w
  rw [show tyR 2 M = false by rw [Bool.eq_false_iff]; intro h; have := tyR_true.1 h; omega] at c4
  have hm0 : (M != 0) = true := by simpa using hm.1
  clear hm
  obtain ⟨W, hW⟩ : ∃ W, W = (((w.alloc (.cells #[.int .i64 ka, .int .i64 sa] 23)).alloc (.cells #[.int .i64 kb, .int .i64 sb] 23)).alloc (.cells #[.nilFunc, .bool false, .nilFunc] 57)).alloc (.cells #[.int .i64 0, .int .i64 0] 23) := ⟨_, rfl⟩
  have HT : Tb w.heap.size ka sa kb sb W := by
    rw [hW]; exact ⟨by go_simp, by go_simp, by go_simp, by go_simp, by go_simp, by go_simp, by go_simp, by go_simp, by go_simp, by go_simp, by go_simp, by go_simp, by go_simp, by go_simp⟩
  have hB : Below w.heap.size w W := by rw [hW]; exact b4
  go_enter Tryd.func28, Tryd.ntmps28
  go_upto_region 1 with fail
  rw [← hW]
  clear hW
  go_wp2_with (first
    | (go_at_call 44; (with_reducible refine (c0 _).mono ?_); rintro e w1 ⟨rfl, hb1⟩; have T1 := HT.on hb1; have hB1 := bt hB hb1; obtain ⟨l0, l1, l2, l3⟩ := T1.lt; obtain ⟨a0, a1, e0, e1, _, _, _, _, _, _, _, _, _, _⟩ := id T1; have O1 := Ob.new w1 (.func (.func 55) #[] #[]) true (.func (.func 58) #[] #[]) 57)
    | (go_at_call 37; (with_reducible refine (c1 _).mono ?_); rintro e w2 ⟨rfl, hb2⟩; have T2 := (T1.on b1).on hb2; have O2 := O1.on hb2; have hB2 := bt (bt hB1 b1) hb2; obtain ⟨a0', a1', e0', e1', _, _, _, _, _, _, _, _, _, _⟩ := id T2)
    | (go_at_call 37; (with_reducible refine (c2 _).mono ?_); rintro e w3 ⟨rfl, hb3⟩; have T3 := T2.on hb3; have O3 := O2.on hb3; have hB3 := bt hB2 hb3; obtain ⟨a0'', a1'', e0'', e1'', _, _, _, _, _, _, _, _, _, _⟩ := id T3; obtain ⟨o0, o1, o2⟩ := id O3; obtain ⟨m0, m1, m2, m3⟩ := T3.lt; have m4 : w1.heap.size < w3.heap.size := World.block_lt_of_cell? w3 _ o0; have Y3 := Yb.new w3 1 0 23)
    | (go_at_call 55; (with_reducible refine (c3 _).mono ?_); rintro e w4 ⟨rfl, hb4⟩; have T4 := (T3.on b1).on hb4; have O4 := (O3.on b1).on hb4; have Y4 := Y3.on hb4; have hB4 := bt (bt hB3 b1) hb4; obtain ⟨t0, t1, n0, n1⟩ := id Y4)

    | (go_at_call 15; (with_reducible refine (c4 _).mono ?_); rintro e w5 ⟨rfl, hb5⟩; have T5 := ((T4.set m3 0 (.int .i64 2)).set m3 1 (.int .i64 M)).on hb5; have O5 := ((O4.set (Nat.ne_of_lt m4) 0 (.int .i64 2)).set (Nat.ne_of_lt m4) 1 (.int .i64 M)).on hb5; have Y5 := (Y4.set 2 M).on hb5; have hB5 := bt ((hB4.setCell (Nat.le_of_lt m0) _).setCell (Nat.le_of_lt m0) _) hb5; obtain ⟨_, _, _, _, c0', c1', c2', d0, d1, y0, y1, y2, x0, x1⟩ := id T5; obtain ⟨o0', o1', o2'⟩ := id O5; obtain ⟨t0', t1', _, _⟩ := id Y5; clear hb5))
  refine bodyPost_ret (v := .tuple #[.agg #[.nilFunc, .bool false, .nilFunc], .agg #[.int .i64 0, .int .i64 0], .bool false]) ?_ rfl ⟨rfl, ?_⟩
  · rw [results_cell2_tmp rfl]; go_simp
  · repeat (first | refine Below.drew ?_ | refine Below.setCell ?_ (by first | (simp; done) | (simp; omega)) _)
    exact hB5

set_option maxRecDepth 100000 in
set_option maxHeartbeats 8000000 in
theorem typed_times_zero (ka sa kb sb M : Int) (hall : (numK ka && tyR ka sa && numK kb && tyR kb sb) = true) (hM : sa + sb = M) (hm : M = 0) (w : World) :
    Calls Tryd.prog 28 #[.int .u8 42, .agg #[.int .i64 ka, .int .i64 sa], .agg #[.int .i64 kb, .int .i64 sb]] w fun e w' => e = .returned (.tuple #[.agg #[.func (.func 56) #[] #[], .bool false, .func (.func 60) #[] #[]], .agg #[.int .i64 1, .int .i64 0], .bool true]) ∧ Below w.heap.size w w' := by
  obtain ⟨_, g1, g2, g3, g4⟩ := arS_yes (op := 42) hall
  have hn1 : (numK ka && tyR ka sa) = true := by simp only [Bool.and_eq_true] at hall ⊢; exact ⟨hall.1.1.1, hall.1.1.2⟩
  have hn2 : (numK kb && tyR kb sb) = true := by simp only [Bool.and_eq_true] at hall ⊢; exact ⟨hall.1.2, hall.2⟩
  have c1 := fun w => val_number ka sa w
  have c2 := fun w => val_number kb sb w
  rw [hn1] at c1
  rw [hn2] at c2
  have c0 := fun w => val_find 42 (by decide) (by decide) w
  rw [show found 42 = .agg #[.func (.func 56) #[] #[], .bool false, .func (.func 60) #[] #[]] from rfl, show isOp 42 = true from rfl] at c0
  have c3 := fun w => op_both sa sb ⟨g1, g2⟩ ⟨g3, g4⟩ w
  rw [hM] at c3
  clear hM hall hn1 hn2 g1 g2 g3 g4

  subst hm
  have c4 := fun w => val_ty 1 0 w
  rw [ty_int] at c4
  obtain ⟨W, hW⟩ : ∃ W, W = (((w.alloc (.cells #[.int .i64 ka, .int .i64 sa] 23)).alloc (.cells #[.int .i64 kb, .int .i64 sb] 23)).alloc (.cells #[.nilFunc, .bool false, .nilFunc] 57)).alloc (.cells #[.int .i64 0, .int .i64 0] 23) := ⟨_, rfl⟩
  have HT : Tb w.heap.size ka sa kb sb W := by
    rw [hW]; exact ⟨by go_simp, by go_simp, by go_simp, by go_simp, by go_simp, by go_simp, by go_simp, by go_simp, by go_simp, by go_simp, by go_simp, by go_simp, by go_simp, by go_simp⟩
  have hB : Below w.heap.size w W := by rw [hW]; exact b4
  go_enter Tryd.func28, Tryd.ntmps28
  go_upto_region 1 with fail
  rw [← hW]
  clear hW
  go_wp2_with (first
    | (go_at_call 44; (with_reducible refine (c0 _).mono ?_); rintro e w1 ⟨rfl, hb1⟩; have T1 := HT.on hb1; have hB1 := bt hB hb1; obtain ⟨l0, l1, l2, l3⟩ := T1.lt; obtain ⟨a0, a1, e0, e1, _, _, _, _, _, _, _, _, _, _⟩ := id T1; have O1 := Ob.new w1 (.func (.func 56) #[] #[]) false (.func (.func 60) #[] #[]) 57)
    | (go_at_call 37; (with_reducible refine (c1 _).mono ?_); rintro e w2 ⟨rfl, hb2⟩; have T2 := (T1.on b1).on hb2; have O2 := O1.on hb2; have hB2 := bt (bt hB1 b1) hb2; obtain ⟨a0', a1', e0', e1', _, _, _, _, _, _, _, _, _, _⟩ := id T2)
    | (go_at_call 37; (with_reducible refine (c2 _).mono ?_); rintro e w3 ⟨rfl, hb3⟩; have T3 := T2.on hb3; have O3 := O2.on hb3; have hB3 := bt hB2 hb3; obtain ⟨a0'', a1'', e0'', e1'', _, _, _, _, _, _, _, _, _, _⟩ := id T3; obtain ⟨o0, o1, o2⟩ := id O3; obtain ⟨m0, m1, m2, m3⟩ := T3.lt; have m4 : w1.heap.size < w3.heap.size := World.block_lt_of_cell? w3 _ o0; have Y3 := Yb.new w3 1 0 23)
    | (go_at_call 56; (with_reducible refine (c3 _).mono ?_); rintro e w4 ⟨rfl, hb4⟩; have T4 := (T3.on b1).on hb4; have O4 := (O3.on b1).on hb4; have Y4 := Y3.on hb4; have hB4 := bt (bt hB3 b1) hb4; obtain ⟨t0, t1, n0, n1⟩ := id Y4)

    | (go_at_call 15; (with_reducible refine (c4 _).mono ?_); rintro e w5 ⟨rfl, hb5⟩; have T5 := T4.on hb5; have O5 := O4.on hb5; have Y5 := Y4.on hb5; have hB5 := bt hB4 hb5; obtain ⟨_, _, _, _, c0', c1', c2', d0, d1, y0, y1, y2, x0, x1⟩ := id T5; obtain ⟨o0', o1', o2'⟩ := id O5; obtain ⟨t0', t1', _, _⟩ := id Y5; clear hb5))
  go_region
  go_wp2
  refine bodyPost_ret (v := .tuple #[.agg #[.func (.func 56) #[] #[], .bool false, .func (.func 60) #[] #[]], .agg #[.int .i64 1, .int .i64 0], .bool true]) ?_ rfl ⟨rfl, ?_⟩
  · rw [results_cell2_tmp rfl]; go_simp
  · repeat (first | refine Below.drew ?_ | refine Below.setCell ?_ (by first | (simp; done) | (simp; omega)) _)
    exact hB5

set_option maxRecDepth 100000 in
set_option maxHeartbeats 8000000 in
theorem typed_times_dec (ka sa kb sb M : Int) (hall : (numK ka && tyR ka sa && numK kb && tyR kb sb) = true) (hM : sa + sb = M) (hm : 1 ≤ M ∧ M ≤ 9) (w : World) :
    Calls Tryd.prog 28 #[.int .u8 42, .agg #[.int .i64 ka, .int .i64 sa], .agg #[.int .i64 kb, .int .i64 sb]] w fun e w' => e = .returned (.tuple #[.agg #[.func (.func 56) #[] #[], .bool false, .func (.func 60) #[] #[]], .agg #[.int .i64 2, .int .i64 M], .bool true]) ∧ Below w.heap.size w w' := by
  obtain ⟨_, g1, g2, g3, g4⟩ := arS_yes (op := 42) hall
  have hn1 : (numK ka && tyR ka sa) = true := by simp only [Bool.and_eq_true] at hall ⊢; exact ⟨hall.1.1.1, hall.1.1.2⟩
  have hn2 : (numK kb && tyR kb sb) = true := by simp only [Bool.and_eq_true] at hall ⊢; exact ⟨hall.1.2, hall.2⟩
  have c1 := fun w => val_number ka sa w
  have c2 := fun w => val_number kb sb w
  rw [hn1] at c1
  rw [hn2] at c2
  have c0 := fun w => val_find 42 (by decide) (by decide) w
  rw [show found 42 = .agg #[.func (.func 56) #[] #[], .bool false, .func (.func 60) #[] #[]] from rfl, show isOp 42 = true from rfl] at c0
  have c3 := fun w => op_both sa sb ⟨g1, g2⟩ ⟨g3, g4⟩ w
  rw [hM] at c3
  clear hM hall hn1 hn2 g1 g2 g3 g4

  have c4 := fun w => val_ty 2 M w
  rw [show tyR 2 M = true from tyR_true.2 (Or.inr ⟨rfl, hm⟩)] at c4
  have hm0 : (M != 0) = true := by simp; omega
  clear hm
  obtain ⟨W, hW⟩ : ∃ W, W = (((w.alloc (.cells #[.int .i64 ka, .int .i64 sa] 23)).alloc (.cells #[.int .i64 kb, .int .i64 sb] 23)).alloc (.cells #[.nilFunc, .bool false, .nilFunc] 57)).alloc (.cells #[.int .i64 0, .int .i64 0] 23) := ⟨_, rfl⟩
  have HT : Tb w.heap.size ka sa kb sb W := by
    rw [hW]; exact ⟨by go_simp, by go_simp, by go_simp, by go_simp, by go_simp, by go_simp, by go_simp, by go_simp, by go_simp, by go_simp, by go_simp, by go_simp, by go_simp, by go_simp⟩
  have hB : Below w.heap.size w W := by rw [hW]; exact b4
  go_enter Tryd.func28, Tryd.ntmps28
  go_upto_region 1 with fail
  rw [← hW]
  clear hW
  go_wp2_with (first
    | (go_at_call 44; (with_reducible refine (c0 _).mono ?_); rintro e w1 ⟨rfl, hb1⟩; have T1 := HT.on hb1; have hB1 := bt hB hb1; obtain ⟨l0, l1, l2, l3⟩ := T1.lt; obtain ⟨a0, a1, e0, e1, _, _, _, _, _, _, _, _, _, _⟩ := id T1; have O1 := Ob.new w1 (.func (.func 56) #[] #[]) false (.func (.func 60) #[] #[]) 57)
    | (go_at_call 37; (with_reducible refine (c1 _).mono ?_); rintro e w2 ⟨rfl, hb2⟩; have T2 := (T1.on b1).on hb2; have O2 := O1.on hb2; have hB2 := bt (bt hB1 b1) hb2; obtain ⟨a0', a1', e0', e1', _, _, _, _, _, _, _, _, _, _⟩ := id T2)
    | (go_at_call 37; (with_reducible refine (c2 _).mono ?_); rintro e w3 ⟨rfl, hb3⟩; have T3 := T2.on hb3; have O3 := O2.on hb3; have hB3 := bt hB2 hb3; obtain ⟨a0'', a1'', e0'', e1'', _, _, _, _, _, _, _, _, _, _⟩ := id T3; obtain ⟨o0, o1, o2⟩ := id O3; obtain ⟨m0, m1, m2, m3⟩ := T3.lt; have m4 : w1.heap.size < w3.heap.size := World.block_lt_of_cell? w3 _ o0; have Y3 := Yb.new w3 1 0 23)
    | (go_at_call 56; (with_reducible refine (c3 _).mono ?_); rintro e w4 ⟨rfl, hb4⟩; have T4 := (T3.on b1).on hb4; have O4 := (O3.on b1).on hb4; have Y4 := Y3.on hb4; have hB4 := bt (bt hB3 b1) hb4; obtain ⟨t0, t1, n0, n1⟩ := id Y4)

    | (go_at_call 15; (with_reducible refine (c4 _).mono ?_); rintro e w5 ⟨rfl, hb5⟩; have T5 := ((T4.set m3 0 (.int .i64 2)).set m3 1 (.int .i64 M)).on hb5; have O5 := ((O4.set (Nat.ne_of_lt m4) 0 (.int .i64 2)).set (Nat.ne_of_lt m4) 1 (.int .i64 M)).on hb5; have Y5 := (Y4.set 2 M).on hb5; have hB5 := bt ((hB4.setCell (Nat.le_of_lt m0) _).setCell (Nat.le_of_lt m0) _) hb5; obtain ⟨_, _, _, _, c0', c1', c2', d0, d1, y0, y1, y2, x0, x1⟩ := id T5; obtain ⟨o0', o1', o2'⟩ := id O5; obtain ⟨t0', t1', _, _⟩ := id Y5; clear hb5))
  go_region
  go_wp2
  refine bodyPost_ret (v := .tuple #[.agg #[.func (.func 56) #[] #[], .bool false, .func (.func 60) #[] #[]], .agg #[.int .i64 2, .int .i64 M], .bool true]) ?_ rfl ⟨rfl, ?_⟩
  · rw [results_cell2_tmp rfl]; go_simp
  · repeat (first | refine Below.drew ?_ | refine Below.setCell ?_ (by first | (simp; done) | (simp; omega)) _)
    exact hB5

set_option maxRecDepth 100000 in
set_option maxHeartbeats 8000000 in
theorem typed_times_no (ka sa kb sb M : Int) (hall : (numK ka && tyR ka sa && numK kb && tyR kb sb) = true) (hM : sa + sb = M) (hm : M ≠ 0 ∧ ¬ (1 ≤ M ∧ M ≤ 9)) (w : World) :
    Calls Tryd.prog 28 #[.int .u8 42, .agg #[.int .i64 ka, .int .i64 sa], .agg #[.int .i64 kb, .int .i64 sb]] w fun e w' => e = .returned (.tuple #[.agg #[.nilFunc, .bool false, .nilFunc], .agg #[.int .i64 0, .int .i64 0], .bool false]) ∧ Below w.heap.size w w' := by
  obtain ⟨_, g1, g2, g3, g4⟩ := arS_yes (op := 42) hall
  have hn1 : (numK ka && tyR ka sa) = true := by simp only [Bool.and_eq_true] at hall ⊢; exact ⟨hall.1.1.1, hall.1.1.2⟩
  have hn2 : (numK kb && tyR kb sb) = true := by simp only [Bool.and_eq_true] at hall ⊢; exact ⟨hall.1.2, hall.2⟩
  have c1 := fun w => val_number ka sa w
  have c2 := fun w => val_number kb sb w
  rw [hn1] at c1
  rw [hn2] at c2
  have c0 := fun w => val_find 42 (by decide) (by decide) w
  rw [show found 42 = .agg #[.func (.func 56) #[] #[], .bool false, .func (.func 60) #[] #[]] from rfl, show isOp 42 = true from rfl] at c0
  have c3 := fun w => op_both sa sb ⟨g1, g2⟩ ⟨g3, g4⟩ w
  rw [hM] at c3
  clear hM hall hn1 hn2 g1 g2 g3 g4

  have c4 := fun w => val_ty 2 M w
  rw [show tyR 2 M = false by rw [Bool.eq_false_iff]; intro h; have := tyR_true.1 h; omega] at c4
  have hm0 : (M != 0) = true := by simpa using hm.1
  clear hm
  obtain ⟨W, hW⟩ : ∃ W, W = (((w.alloc (.cells #[.int .i64 ka, .int .i64 sa] 23)).alloc (.cells #[.int .i64 kb, .int .i64 sb] 23)).alloc (.cells #[.nilFunc, .bool false, .nilFunc] 57)).alloc (.cells #[.int .i64 0, .int .i64 0] 23) := ⟨_, rfl⟩
  have HT : Tb w.heap.size ka sa kb sb W := by
    rw [hW]; exact ⟨by go_simp, by go_simp, by go_simp, by go_simp, by go_simp, by go_simp, by go_simp, by go_simp, by go_simp, by go_simp, by go_simp, by go_simp, by go_simp, by go_simp⟩
  have hB : Below w.heap.size w W := by rw [hW]; exact b4
  go_enter Tryd.func28, Tryd.ntmps28
  go_upto_region 1 with fail
  rw [← hW]
  clear hW
  go_wp2_with (first
    | (go_at_call 44; (with_reducible refine (c0 _).mono ?_); rintro e w1 ⟨rfl, hb1⟩; have T1 := HT.on hb1; have hB1 := bt hB hb1; obtain ⟨l0, l1, l2, l3⟩ := T1.lt; obtain ⟨a0, a1, e0, e1, _, _, _, _, _, _, _, _, _, _⟩ := id T1; have O1 := Ob.new w1 (.func (.func 56) #[] #[]) false (.func (.func 60) #[] #[]) 57)
    | (go_at_call 37; (with_reducible refine (c1 _).mono ?_); rintro e w2 ⟨rfl, hb2⟩; have T2 := (T1.on b1).on hb2; have O2 := O1.on hb2; have hB2 := bt (bt hB1 b1) hb2; obtain ⟨a0', a1', e0', e1', _, _, _, _, _, _, _, _, _, _⟩ := id T2)
    | (go_at_call 37; (with_reducible refine (c2 _).mono ?_); rintro e w3 ⟨rfl, hb3⟩; have T3 := T2.on hb3; have O3 := O2.on hb3; have hB3 := bt hB2 hb3; obtain ⟨a0'', a1'', e0'', e1'', _, _, _, _, _, _, _, _, _, _⟩ := id T3; obtain ⟨o0, o1, o2⟩ := id O3; obtain ⟨m0, m1, m2, m3⟩ := T3.lt; have m4 : w1.heap.size < w3.heap.size := World.block_lt_of_cell? w3 _ o0; have Y3 := Yb.new w3 1 0 23)
    | (go_at_call 56; (with_reducible refine (c3 _).mono ?_); rintro e w4 ⟨rfl, hb4⟩; have T4 := (T3.on b1).on hb4; have O4 := (O3.on b1).on hb4; have Y4 := Y3.on hb4; have hB4 := bt (bt hB3 b1) hb4; obtain ⟨t0, t1, n0, n1⟩ := id Y4)

    | (go_at_call 15; (with_reducible refine (c4 _).mono ?_); rintro e w5 ⟨rfl, hb5⟩; have T5 := ((T4.set m3 0 (.int .i64 2)).set m3 1 (.int .i64 M)).on hb5; have O5 := ((O4.set (Nat.ne_of_lt m4) 0 (.int .i64 2)).set (Nat.ne_of_lt m4) 1 (.int .i64 M)).on hb5; have Y5 := (Y4.set 2 M).on hb5; have hB5 := bt ((hB4.setCell (Nat.le_of_lt m0) _).setCell (Nat.le_of_lt m0) _) hb5; obtain ⟨_, _, _, _, c0', c1', c2', d0, d1, y0, y1, y2, x0, x1⟩ := id T5; obtain ⟨o0', o1', o2'⟩ := id O5; obtain ⟨t0', t1', _, _⟩ := id Y5; clear hb5))
  refine bodyPost_ret (v := .tuple #[.agg #[.nilFunc, .bool false, .nilFunc], .agg #[.int .i64 0, .int .i64 0], .bool false]) ?_ rfl ⟨rfl, ?_⟩
  · rw [results_cell2_tmp rfl]; go_simp
  · repeat (first | refine Below.drew ?_ | refine Below.setCell ?_ (by first | (simp; done) | (simp; omega)) _)
    exact hB5

set_option maxRecDepth 100000 in
set_option maxHeartbeats 8000000 in
theorem typed_quo_zero (ka sa kb sb M : Int) (hall : (numK ka && tyR ka sa && numK kb && tyR kb sb) = true) (hM : (if sb = 0 then sa else -1) = M) (hm : M = 0) (w : World) :
    Calls Tryd.prog 28 #[.int .u8 47, .agg #[.int .i64 ka, .int .i64 sa], .agg #[.int .i64 kb, .int .i64 sb]] w fun e w' => e = .returned (.tuple #[.agg #[.func (.func 62) #[] #[], .bool false, .func (.func 63) #[] #[]], .agg #[.int .i64 1, .int .i64 0], .bool true]) ∧ Below w.heap.size w w' := by
  obtain ⟨_, g1, g2, g3, g4⟩ := arS_yes (op := 47) hall
  have hn1 : (numK ka && tyR ka sa) = true := by simp only [Bool.and_eq_true] at hall ⊢; exact ⟨hall.1.1.1, hall.1.1.2⟩
  have hn2 : (numK kb && tyR kb sb) = true := by simp only [Bool.and_eq_true] at hall ⊢; exact ⟨hall.1.2, hall.2⟩
  have c1 := fun w => val_number ka sa w
  have c2 := fun w => val_number kb sb w
  rw [hn1] at c1
  rw [hn2] at c2
  have c0 := fun w => val_find 47 (by decide) (by decide) w
  rw [show found 47 = .agg #[.func (.func 62) #[] #[], .bool false, .func (.func 63) #[] #[]] from rfl, show isOp 47 = true from rfl] at c0
  have c3 := fun w => op_first sa sb w
  rw [hM] at c3
  clear hM hall hn1 hn2 g1 g2 g3 g4

  subst hm
  have c4 := fun w => val_ty 1 0 w
  rw [ty_int] at c4
  obtain ⟨W, hW⟩ : ∃ W, W = (((w.alloc (.cells #[.int .i64 ka, .int .i64 sa] 23)).alloc (.cells #[.int .i64 kb, .int .i64 sb] 23)).alloc (.cells #[.nilFunc, .bool false, .nilFunc] 57)).alloc (.cells #[.int .i64 0, .int .i64 0] 23) := ⟨_, rfl⟩
  have HT : Tb w.heap.size ka sa kb sb W := by
    rw [hW]; exact ⟨by go_simp, by go_simp, by go_simp, by go_simp, by go_simp, by go_simp, by go_simp, by go_simp, by go_simp, by go_simp, by go_simp, by go_simp, by go_simp, by go_simp⟩
  have hB : Below w.heap.size w W := by rw [hW]; exact b4
  go_enter Tryd.func28, Tryd.ntmps28
  go_upto_region 1 with fail
  rw [← hW]
  clear hW
  go_wp2_with (first
    | (go_at_call 44; (with_reducible refine (c0 _).mono ?_); rintro e w1 ⟨rfl, hb1⟩; have T1 := HT.on hb1; have hB1 := bt hB hb1; obtain ⟨l0, l1, l2, l3⟩ := T1.lt; obtain ⟨a0, a1, e0, e1, _, _, _, _, _, _, _, _, _, _⟩ := id T1; have O1 := Ob.new w1 (.func (.func 62) #[] #[]) false (.func (.func 63) #[] #[]) 57)
    | (go_at_call 37; (with_reducible refine (c1 _).mono ?_); rintro e w2 ⟨rfl, hb2⟩; have T2 := (T1.on b1).on hb2; have O2 := O1.on hb2; have hB2 := bt (bt hB1 b1) hb2; obtain ⟨a0', a1', e0', e1', _, _, _, _, _, _, _, _, _, _⟩ := id T2)
    | (go_at_call 37; (with_reducible refine (c2 _).mono ?_); rintro e w3 ⟨rfl, hb3⟩; have T3 := T2.on hb3; have O3 := O2.on hb3; have hB3 := bt hB2 hb3; obtain ⟨a0'', a1'', e0'', e1'', _, _, _, _, _, _, _, _, _, _⟩ := id T3; obtain ⟨o0, o1, o2⟩ := id O3; obtain ⟨m0, m1, m2, m3⟩ := T3.lt; have m4 : w1.heap.size < w3.heap.size := World.block_lt_of_cell? w3 _ o0; have Y3 := Yb.new w3 1 0 23)
    | (go_at_call 62; (with_reducible refine (c3 _).mono ?_); rintro e w4 ⟨rfl, hb4⟩; have T4 := (T3.on b1).on hb4; have O4 := (O3.on b1).on hb4; have Y4 := Y3.on hb4; have hB4 := bt (bt hB3 b1) hb4; obtain ⟨t0, t1, n0, n1⟩ := id Y4)

    | (go_at_call 15; (with_reducible refine (c4 _).mono ?_); rintro e w5 ⟨rfl, hb5⟩; have T5 := T4.on hb5; have O5 := O4.on hb5; have Y5 := Y4.on hb5; have hB5 := bt hB4 hb5; obtain ⟨_, _, _, _, c0', c1', c2', d0, d1, y0, y1, y2, x0, x1⟩ := id T5; obtain ⟨o0', o1', o2'⟩ := id O5; obtain ⟨t0', t1', _, _⟩ := id Y5; clear hb5))
  go_region
  go_wp2
  refine bodyPost_ret (v := .tuple #[.agg #[.func (.func 62) #[] #[], .bool false, .func (.func 63) #[] #[]], .agg #[.int .i64 1, .int .i64 0], .bool true]) ?_ rfl ⟨rfl, ?_⟩
  · rw [results_cell2_tmp rfl]; go_simp
  · repeat (first | refine Below.drew ?_ | refine Below.setCell ?_ (by first | (simp; done) | (simp; omega)) _)
    exact hB5

set_option maxRecDepth 100000 in
set_option maxHeartbeats 8000000 in
theorem typed_quo_dec (ka sa kb sb M : Int) (hall : (numK ka && tyR ka sa && numK kb && tyR kb sb) = true) (hM : (if sb = 0 then sa else -1) = M) (hm : 1 ≤ M ∧ M ≤ 9) (w : World) :
    Calls Tryd.prog 28 #[.int .u8 47, .agg #[.int .i64 ka, .int .i64 sa], .agg #[.int .i64 kb, .int .i64 sb]] w fun e w' => e = .returned (.tuple #[.agg #[.func (.func 62) #[] #[], .bool false, .func (.func 63) #[] #[]], .agg #[.int .i64 2, .int .i64 M], .bool true]) ∧ Below w.heap.size w w' := by
  obtain ⟨_, g1, g2, g3, g4⟩ := arS_yes (op := 47) hall
  have hn1 : (numK ka && tyR ka sa) = true := by simp only [Bool.and_eq_true] at hall ⊢; exact ⟨hall.1.1.1, hall.1.1.2⟩
  have hn2 : (numK kb && tyR kb sb) = true := by simp only [Bool.and_eq_true] at hall ⊢; exact ⟨hall.1.2, hall.2⟩
  have c1 := fun w => val_number ka sa w
  have c2 := fun w => val_number kb sb w
  rw [hn1] at c1
  rw [hn2] at c2
  have c0 := fun w => val_find 47 (by decide) (by decide) w
  rw [show found 47 = .agg #[.func (.func 62) #[] #[], .bool false, .func (.func 63) #[] #[]] from rfl, show isOp 47 = true from rfl] at c0
  have c3 := fun w => op_first sa sb w
  rw [hM] at c3
  clear hM hall hn1 hn2 g1 g2 g3 g4

  have c4 := fun w => val_ty 2 M w
  rw [show tyR 2 M = true from tyR_true.2 (Or.inr ⟨rfl, hm⟩)] at c4
  have hm0 : (M != 0) = true := by simp; omega
  clear hm
  obtain ⟨W, hW⟩ : ∃ W, W = (((w.alloc (.cells #[.int .i64 ka, .int .i64 sa] 23)).alloc (.cells #[.int .i64 kb, .int .i64 sb] 23)).alloc (.cells #[.nilFunc, .bool false, .nilFunc] 57)).alloc (.cells #[.int .i64 0, .int .i64 0] 23) := ⟨_, rfl⟩
  have HT : Tb w.heap.size ka sa kb sb W := by
    rw [hW]; exact ⟨by go_simp, by go_simp, by go_simp, by go_simp, by go_simp, by go_simp, by go_simp, by go_simp, by go_simp, by go_simp, by go_simp, by go_simp, by go_simp, by go_simp⟩
  have hB : Below w.heap.size w W := by rw [hW]; exact b4
  go_enter Tryd.func28, Tryd.ntmps28
  go_upto_region 1 with fail
  rw [← hW]
  clear hW
  go_wp2_with (first
    | (go_at_call 44; (with_reducible refine (c0 _).mono ?_); rintro e w1 ⟨rfl, hb1⟩; have T1 := HT.on hb1; have hB1 := bt hB hb1; obtain ⟨l0, l1, l2, l3⟩ := T1.lt; obtain ⟨a0, a1, e0, e1, _, _, _, _, _, _, _, _, _, _⟩ := id T1; have O1 := Ob.new w1 (.func (.func 62) #[] #[]) false (.func (.func 63) #[] #[]) 57)
    | (go_at_call 37; (with_reducible refine (c1 _).mono ?_); rintro e w2 ⟨rfl, hb2⟩; have T2 := (T1.on b1).on hb2; have O2 := O1.on hb2; have hB2 := bt (bt hB1 b1) hb2; obtain ⟨a0', a1', e0', e1', _, _, _, _, _, _, _, _, _, _⟩ := id T2)
    | (go_at_call 37; (with_reducible refine (c2 _).mono ?_); rintro e w3 ⟨rfl, hb3⟩; have T3 := T2.on hb3; have O3 := O2.on hb3; have hB3 := bt hB2 hb3; obtain ⟨a0'', a1'', e0'', e1'', _, _, _, _, _, _, _, _, _, _⟩ := id T3; obtain ⟨o0, o1, o2⟩ := id O3; obtain ⟨m0, m1, m2, m3⟩ := T3.lt; have m4 : w1.heap.size < w3.heap.size := World.block_lt_of_cell? w3 _ o0; have Y3 := Yb.new w3 1 0 23)
    | (go_at_call 62; (with_reducible refine (c3 _).mono ?_); rintro e w4 ⟨rfl, hb4⟩; have T4 := (T3.on b1).on hb4; have O4 := (O3.on b1).on hb4; have Y4 := Y3.on hb4; have hB4 := bt (bt hB3 b1) hb4; obtain ⟨t0, t1, n0, n1⟩ := id Y4)

    | (go_at_call 15; (with_reducible refine (c4 _).mono ?_); rintro e w5 ⟨rfl, hb5⟩; have T5 := ((T4.set m3 0 (.int .i64 2)).set m3 1 (.int .i64 M)).on hb5; have O5 := ((O4.set (Nat.ne_of_lt m4) 0 (.int .i64 2)).set (Nat.ne_of_lt m4) 1 (.int .i64 M)).on hb5; have Y5 := (Y4.set 2 M).on hb5; have hB5 := bt ((hB4.setCell (Nat.le_of_lt m0) _).setCell (Nat.le_of_lt m0) _) hb5; obtain ⟨_, _, _, _, c0', c1', c2', d0, d1, y0, y1, y2, x0, x1⟩ := id T5; obtain ⟨o0', o1', o2'⟩ := id O5; obtain ⟨t0', t1', _, _⟩ := id Y5; clear hb5))
  go_region
  go_wp2
  refine bodyPost_ret (v := .tuple #[.agg #[.func (.func 62) #[] #[], .bool false, .func (.func 63) #[] #[]], .agg #[.int .i64 2, .int .i64 M], .bool true]) ?_ rfl ⟨rfl, ?_⟩
  · rw [results_cell2_tmp rfl]; go_simp
  · repeat (first | refine Below.drew ?_ | refine Below.setCell ?_ (by first | (simp; done) | (simp; omega)) _)
    exact hB5

set_option maxRecDepth 100000 in
set_option maxHeartbeats 8000000 in
theorem typed_quo_no (ka sa kb sb M : Int) (hall : (numK ka && tyR ka sa && numK kb && tyR kb sb) = true) (hM : (if sb = 0 then sa else -1) = M) (hm : M ≠ 0 ∧ ¬ (1 ≤ M ∧ M ≤ 9)) (w : World) :
    Calls Tryd.prog 28 #[.int .u8 47, .agg #[.int .i64 ka, .int .i64 sa], .agg #[.int .i64 kb, .int .i64 sb]] w fun e w' => e = .returned (.tuple #[.agg #[.nilFunc, .bool false, .nilFunc], .agg #[.int .i64 0, .int .i64 0], .bool false]) ∧ Below w.heap.size w w' := by
  obtain ⟨_, g1, g2, g3, g4⟩ := arS_yes (op := 47) hall
  have hn1 : (numK ka && tyR ka sa) = true := by simp only [Bool.and_eq_true] at hall ⊢; exact ⟨hall.1.1.1, hall.1.1.2⟩
  have hn2 : (numK kb && tyR kb sb) = true := by simp only [Bool.and_eq_true] at hall ⊢; exact ⟨hall.1.2, hall.2⟩
  have c1 := fun w => val_number ka sa w
  have c2 := fun w => val_number kb sb w
  rw [hn1] at c1
  rw [hn2] at c2
  have c0 := fun w => val_find 47 (by decide) (by decide) w
  rw [show found 47 = .agg #[.func (.func 62) #[] #[], .bool false, .func (.func 63) #[] #[]] from rfl, show isOp 47 = true from rfl] at c0
  have c3 := fun w => op_first sa sb w
  rw [hM] at c3
  clear hM hall hn1 hn2 g1 g2 g3 g4

  have c4 := fun w => val_ty 2 M w
  rw [show tyR 2 M = false by rw [Bool.eq_false_iff]; intro h; have := tyR_true.1 h; omega] at c4
  have hm0 : (M != 0) = true := by simpa using hm.1
  clear hm
  obtain ⟨W, hW⟩ : ∃ W, W = (((w.alloc (.cells #[.int .i64 ka, .int .i64 sa] 23)).alloc (.cells #[.int .i64 kb, .int .i64 sb] 23)).alloc (.cells #[.nilFunc, .bool false, .nilFunc] 57)).alloc (.cells #[.int .i64 0, .int .i64 0] 23) := ⟨_, rfl⟩
  have HT : Tb w.heap.size ka sa kb sb W := by
    rw [hW]; exact ⟨by go_simp, by go_simp, by go_simp, by go_simp, by go_simp, by go_simp, by go_simp, by go_simp, by go_simp, by go_simp, by go_simp, by go_simp, by go_simp, by go_simp⟩
  have hB : Below w.heap.size w W := by rw [hW]; exact b4
  go_enter Tryd.func28, Tryd.ntmps28
  go_upto_region 1 with fail
  rw [← hW]
  clear hW
  go_wp2_with (first
    | (go_at_call 44; (with_reducible refine (c0 _).mono ?_); rintro e w1 ⟨rfl, hb1⟩; have T1 := HT.on hb1; have hB1 := bt hB hb1; obtain ⟨l0, l1, l2, l3⟩ := T1.lt; obtain ⟨a0, a1, e0, e1, _, _, _, _, _, _, _, _, _, _⟩ := id T1; have O1 := Ob.new w1 (.func (.func 62) #[] #[]) false (.func (.func 63) #[] #[]) 57)
    | (go_at_call 37; (with_reducible refine (c1 _).mono ?_); rintro e w2 ⟨rfl, hb2⟩; have T2 := (T1.on b1).on hb2; have O2 := O1.on hb2; have hB2 := bt (bt hB1 b1) hb2; obtain ⟨a0', a1', e0', e1', _, _, _, _, _, _, _, _, _, _⟩ := id T2)
    | (go_at_call 37; (with_reducible refine (c2 _).mono ?_); rintro e w3 ⟨rfl, hb3⟩; have T3 := T2.on hb3; have O3 := O2.on hb3; have hB3 := bt hB2 hb3; obtain ⟨a0'', a1'', e0'', e1'', _, _, _, _, _, _, _, _, _, _⟩ := id T3; obtain ⟨o0, o1, o2⟩ := id O3; obtain ⟨m0, m1, m2, m3⟩ := T3.lt; have m4 : w1.heap.size < w3.heap.size := World.block_lt_of_cell? w3 _ o0; have Y3 := Yb.new w3 1 0 23)
    | (go_at_call 62; (with_reducible refine (c3 _).mono ?_); rintro e w4 ⟨rfl, hb4⟩; have T4 := (T3.on b1).on hb4; have O4 := (O3.on b1).on hb4; have Y4 := Y3.on hb4; have hB4 := bt (bt hB3 b1) hb4; obtain ⟨t0, t1, n0, n1⟩ := id Y4)

    | (go_at_call 15; (with_reducible refine (c4 _).mono ?_); rintro e w5 ⟨rfl, hb5⟩; have T5 := ((T4.set m3 0 (.int .i64 2)).set m3 1 (.int .i64 M)).on hb5; have O5 := ((O4.set (Nat.ne_of_lt m4) 0 (.int .i64 2)).set (Nat.ne_of_lt m4) 1 (.int .i64 M)).on hb5; have Y5 := (Y4.set 2 M).on hb5; have hB5 := bt ((hB4.setCell (Nat.le_of_lt m0) _).setCell (Nat.le_of_lt m0) _) hb5; obtain ⟨_, _, _, _, c0', c1', c2', d0, d1, y0, y1, y2, x0, x1⟩ := id T5; obtain ⟨o0', o1', o2'⟩ := id O5; obtain ⟨t0', t1', _, _⟩ := id Y5; clear hb5))
  refine bodyPost_ret (v := .tuple #[.agg #[.nilFunc, .bool false, .nilFunc], .agg #[.int .i64 0, .int .i64 0], .bool false]) ?_ rfl ⟨rfl, ?_⟩
  · rw [results_cell2_tmp rfl]; go_simp
  · repeat (first | refine Below.drew ?_ | refine Below.setCell ?_ (by first | (simp; done) | (simp; omega)) _)
    exact hB5

end Go.Proofs.YtfjoobopfjahcaaDoor
