/-
  What package value's Arith answers, reckoned with 'minus': walked. Contracts that the proofs call; no statement is proved here.
-/
import Derived.Deep.Draws
import Derived.Deep.QuietTactic
import Derived.BigQuiet
import Derived.Test.YtfjoobopfjahcaaDoorVuArithA
namespace Go.Proofs.YtfjoobopfjahcaaDoor
set_option linter.unusedVariables false
open Go.RowKit

set_option maxRecDepth 100000 in
set_option maxHeartbeats 16000000 in
theorem arith_minus_argA (ua : Bool) (na : Int) (za : ByteArray) (ub : Bool) (nb : Int) (zb : ByteArray) (ka sa kb sb : Int) (k M : Int) (hf : fitV ka sa true ua na za = false) (hza : za.size ≤ maxLen) (hzb : zb.size ≤ maxLen) (w : World) (hL : Laid w)
    (ct : ∀ w, Calls Tryd.prog 28 #[.int .u8 45, .agg #[.int .i64 ka, .int .i64 sa], .agg #[.int .i64 kb, .int .i64 sb]] w fun e w' => e = .returned (.tuple #[.agg #[.func (.func 55) #[] #[], .bool true, .func (.func 58) #[] #[]], .agg #[.int .i64 k, .int .i64 M], .bool true]) ∧ Below w.heap.size w w') :
    Calls Tryd.prog 20 #[.int .u8 45, .agg #[.bool ua, .int .i64 na, .string za], .agg #[.bool ub, .int .i64 nb, .string zb], .agg #[.int .i64 ka, .int .i64 sa], .agg #[.int .i64 kb, .int .i64 sb]] w fun e w' => e = .returned (.tuple #[.agg #[.bool false, .int .i64 0, .string ⟨#[]⟩], .int .i64 1]) ∧ Below w.heap.size w w' := by
  obtain ⟨W, hW, HA, hB⟩ := Ab.new w ua na za ub nb zb ka sa kb sb
  have hLW := hL.below hB
  have cfa := fun w hT => val_fits ka sa true ua na za hza w hT
  have cfb := fun w hT => val_fits kb sb true ub nb zb hzb w hT
  rw [hf] at cfa
  go_enter Tryd.func20, Tryd.ntmps20
  go_upto_region 1 with fail
  rw [← hW]
  clear hW
  obtain ⟨a0, a1, a2, d0, d1, d2, s0, s1, t0, t1, r0, r1, r2, y0, y1, y2⟩ := id HA
  go_wp2_with (first
    | (go_at_call 28; (with_reducible refine (ct _).mono ?_); rintro e w1 ⟨rfl, hb1⟩; have A1 := HA.on hb1; have hB1 := bt hB hb1; have L1 := hLW.below hb1; obtain ⟨l0, l1, l2, l3, l4⟩ := A1.lt; obtain ⟨a0', a1', a2', d0', d1', d2', s0', s1', t0', t1', r0', r1', r2', y0', y1', y2'⟩ := id A1; have O1 := (Ob.new w1 (.func (.func 55) #[] #[]) true (.func (.func 58) #[] #[]) 57).on (b1 (x := .cells #[.int .i64 k, .int .i64 M] 23)); have Y1 := Yb.new (w1.alloc (.cells #[.func (.func 55) #[] #[], .bool true, .func (.func 58) #[] #[]] 57)) k M 23; have hz1 : (w1.alloc (.cells #[.func (.func 55) #[] #[], .bool true, .func (.func 58) #[] #[]] 57)).heap.size = w1.heap.size + 1 := (by simp); rw [hz1] at Y1; have hT1 := ((L1.alloc (.cells #[.func (.func 55) #[] #[], .bool true, .func (.func 58) #[] #[]] 57)).alloc (.cells #[.int .i64 k, .int .i64 M] 23)).tru)
    | (go_at_call 17; (with_reducible refine (cfa _ hT1).mono ?_); rintro e w2 ⟨rfl, hb2⟩; have A2 := (A1.on b2).on hb2; have hB2 := bt (bt hB1 b2) hb2; have O2 := O1.on hb2; have Y2 := Y1.on hb2; have L2 := ((L1.alloc _).alloc _).below hb2; obtain ⟨m0, m1, m2, m3, m4⟩ := A2.lt; obtain ⟨a0'', a1'', a2'', d0'', d1'', d2'', s0'', s1'', t0'', t1'', r0'', r1'', r2'', y0'', y1'', y2''⟩ := id A2))
  refine bodyPost_ret (v := .tuple #[.agg #[.bool false, .int .i64 0, .string ⟨#[]⟩], .int .i64 1]) ?_ rfl ⟨rfl, ?_⟩
  · rw [results_cell_tmp rfl]; go_simp
  · repeat (first | refine Below.drew ?_ | refine Below.alloc ?_ (by first | (simpa using hB1.size) | (have := hB1.size; simp; omega)) _ | refine Below.setCell ?_ (by first | (simp; done) | (simp; omega)) _)
    exact hB2

set_option maxRecDepth 100000 in
set_option maxHeartbeats 16000000 in
theorem arith_minus_argB (ua : Bool) (na : Int) (za : ByteArray) (ub : Bool) (nb : Int) (zb : ByteArray) (ka sa kb sb : Int) (k M : Int) (hf : fitV ka sa true ua na za = true) (hg : fitV kb sb true ub nb zb = false) (hza : za.size ≤ maxLen) (hzb : zb.size ≤ maxLen) (w : World) (hL : Laid w)
    (ct : ∀ w, Calls Tryd.prog 28 #[.int .u8 45, .agg #[.int .i64 ka, .int .i64 sa], .agg #[.int .i64 kb, .int .i64 sb]] w fun e w' => e = .returned (.tuple #[.agg #[.func (.func 55) #[] #[], .bool true, .func (.func 58) #[] #[]], .agg #[.int .i64 k, .int .i64 M], .bool true]) ∧ Below w.heap.size w w') :
    Calls Tryd.prog 20 #[.int .u8 45, .agg #[.bool ua, .int .i64 na, .string za], .agg #[.bool ub, .int .i64 nb, .string zb], .agg #[.int .i64 ka, .int .i64 sa], .agg #[.int .i64 kb, .int .i64 sb]] w fun e w' => e = .returned (.tuple #[.agg #[.bool false, .int .i64 0, .string ⟨#[]⟩], .int .i64 1]) ∧ Below w.heap.size w w' := by
  obtain ⟨W, hW, HA, hB⟩ := Ab.new w ua na za ub nb zb ka sa kb sb
  have hLW := hL.below hB
  have cfa := fun w hT => val_fits ka sa true ua na za hza w hT
  have cfb := fun w hT => val_fits kb sb true ub nb zb hzb w hT
  rw [hf] at cfa
  rw [hg] at cfb
  go_enter Tryd.func20, Tryd.ntmps20
  go_upto_region 1 with fail
  rw [← hW]
  clear hW
  obtain ⟨a0, a1, a2, d0, d1, d2, s0, s1, t0, t1, r0, r1, r2, y0, y1, y2⟩ := id HA
  go_wp2_with (first
    | (go_at_call 28; (with_reducible refine (ct _).mono ?_); rintro e w1 ⟨rfl, hb1⟩; have A1 := HA.on hb1; have hB1 := bt hB hb1; have L1 := hLW.below hb1; obtain ⟨l0, l1, l2, l3, l4⟩ := A1.lt; obtain ⟨a0', a1', a2', d0', d1', d2', s0', s1', t0', t1', r0', r1', r2', y0', y1', y2'⟩ := id A1; have O1 := (Ob.new w1 (.func (.func 55) #[] #[]) true (.func (.func 58) #[] #[]) 57).on (b1 (x := .cells #[.int .i64 k, .int .i64 M] 23)); have Y1 := Yb.new (w1.alloc (.cells #[.func (.func 55) #[] #[], .bool true, .func (.func 58) #[] #[]] 57)) k M 23; have hz1 : (w1.alloc (.cells #[.func (.func 55) #[] #[], .bool true, .func (.func 58) #[] #[]] 57)).heap.size = w1.heap.size + 1 := (by simp); rw [hz1] at Y1; have hT1 := ((L1.alloc (.cells #[.func (.func 55) #[] #[], .bool true, .func (.func 58) #[] #[]] 57)).alloc (.cells #[.int .i64 k, .int .i64 M] 23)).tru)
    | (go_at_call 17; (with_reducible refine (cfa _ hT1).mono ?_); rintro e w2 ⟨rfl, hb2⟩; have A2 := (A1.on b2).on hb2; have hB2 := bt (bt hB1 b2) hb2; have O2 := O1.on hb2; have Y2 := Y1.on hb2; have L2 := ((L1.alloc _).alloc _).below hb2; obtain ⟨m0, m1, m2, m3, m4⟩ := A2.lt; obtain ⟨a0'', a1'', a2'', d0'', d1'', d2'', s0'', s1'', t0'', t1'', r0'', r1'', r2'', y0'', y1'', y2''⟩ := id A2)
    | (go_at_call 17; (with_reducible refine (cfb _ L2.tru).mono ?_); rintro e w3 ⟨rfl, hb3⟩; have A3 := A2.on hb3; have hB3 := bt hB2 hb3; have O3 := O2.on hb3; have Y3 := Y2.on hb3; have L3 := L2.below hb3; obtain ⟨n0, n1, n2, n3, n4⟩ := A3.lt; obtain ⟨p0, p1, p2, q0, q1, q2, u0, u1, v0, v1, x0, x1, x2, z0, z1, z2⟩ := id A3; obtain ⟨_, i0, i1, i2, i3, i4, i5, i6, i7, i8⟩ := L3.tru; obtain ⟨o0, o1, o2⟩ := id O3; obtain ⟨e0, e1, _, _⟩ := id Y3))
  refine bodyPost_ret (v := .tuple #[.agg #[.bool false, .int .i64 0, .string ⟨#[]⟩], .int .i64 1]) ?_ rfl ⟨rfl, ?_⟩
  · rw [results_cell_tmp rfl]; go_simp
  · repeat (first | refine Below.drew ?_ | refine Below.alloc ?_ (by first | (simpa using hB1.size) | (have := hB1.size; simp; omega)) _ | refine Below.setCell ?_ (by first | (simp; done) | (simp; omega)) _)
    exact hB3

set_option maxRecDepth 100000 in
set_option maxHeartbeats 16000000 in
theorem arith_minus_nullA (ua : Bool) (na : Int) (za : ByteArray) (ub : Bool) (nb : Int) (zb : ByteArray) (ka sa kb sb : Int) (k M : Int) (hf : fitV ka sa true ua na za = true) (hg : fitV kb sb true ub nb zb = true) (hu : ua = true) (hza : za.size ≤ maxLen) (hzb : zb.size ≤ maxLen) (w : World) (hL : Laid w)
    (ct : ∀ w, Calls Tryd.prog 28 #[.int .u8 45, .agg #[.int .i64 ka, .int .i64 sa], .agg #[.int .i64 kb, .int .i64 sb]] w fun e w' => e = .returned (.tuple #[.agg #[.func (.func 55) #[] #[], .bool true, .func (.func 58) #[] #[]], .agg #[.int .i64 k, .int .i64 M], .bool true]) ∧ Below w.heap.size w w') :
    Calls Tryd.prog 20 #[.int .u8 45, .agg #[.bool ua, .int .i64 na, .string za], .agg #[.bool ub, .int .i64 nb, .string zb], .agg #[.int .i64 ka, .int .i64 sa], .agg #[.int .i64 kb, .int .i64 sb]] w fun e w' => e = .returned (.tuple #[.agg #[.bool true, .int .i64 0, .string ⟨#[]⟩], .int .i64 0]) ∧ Below w.heap.size w w' := by
  subst hu
  obtain ⟨W, hW, HA, hB⟩ := Ab.new w true na za ub nb zb ka sa kb sb
  have hLW := hL.below hB
  have cfa := fun w hT => val_fits ka sa true true na za hza w hT
  have cfb := fun w hT => val_fits kb sb true ub nb zb hzb w hT
  rw [hf] at cfa
  rw [hg] at cfb
  go_enter Tryd.func20, Tryd.ntmps20
  go_upto_region 1 with fail
  rw [← hW]
  clear hW
  obtain ⟨a0, a1, a2, d0, d1, d2, s0, s1, t0, t1, r0, r1, r2, y0, y1, y2⟩ := id HA
  go_wp2_with (first
    | (go_at_call 28; (with_reducible refine (ct _).mono ?_); rintro e w1 ⟨rfl, hb1⟩; have A1 := HA.on hb1; have hB1 := bt hB hb1; have L1 := hLW.below hb1; obtain ⟨l0, l1, l2, l3, l4⟩ := A1.lt; obtain ⟨a0', a1', a2', d0', d1', d2', s0', s1', t0', t1', r0', r1', r2', y0', y1', y2'⟩ := id A1; have O1 := (Ob.new w1 (.func (.func 55) #[] #[]) true (.func (.func 58) #[] #[]) 57).on (b1 (x := .cells #[.int .i64 k, .int .i64 M] 23)); have Y1 := Yb.new (w1.alloc (.cells #[.func (.func 55) #[] #[], .bool true, .func (.func 58) #[] #[]] 57)) k M 23; have hz1 : (w1.alloc (.cells #[.func (.func 55) #[] #[], .bool true, .func (.func 58) #[] #[]] 57)).heap.size = w1.heap.size + 1 := (by simp); rw [hz1] at Y1; have hT1 := ((L1.alloc (.cells #[.func (.func 55) #[] #[], .bool true, .func (.func 58) #[] #[]] 57)).alloc (.cells #[.int .i64 k, .int .i64 M] 23)).tru)
    | (go_at_call 17; (with_reducible refine (cfa _ hT1).mono ?_); rintro e w2 ⟨rfl, hb2⟩; have A2 := (A1.on b2).on hb2; have hB2 := bt (bt hB1 b2) hb2; have O2 := O1.on hb2; have Y2 := Y1.on hb2; have L2 := ((L1.alloc _).alloc _).below hb2; obtain ⟨m0, m1, m2, m3, m4⟩ := A2.lt; obtain ⟨a0'', a1'', a2'', d0'', d1'', d2'', s0'', s1'', t0'', t1'', r0'', r1'', r2'', y0'', y1'', y2''⟩ := id A2)
    | (go_at_call 17; (with_reducible refine (cfb _ L2.tru).mono ?_); rintro e w3 ⟨rfl, hb3⟩; have A3 := A2.on hb3; have hB3 := bt hB2 hb3; have O3 := O2.on hb3; have Y3 := Y2.on hb3; have L3 := L2.below hb3; obtain ⟨n0, n1, n2, n3, n4⟩ := A3.lt; obtain ⟨p0, p1, p2, q0, q1, q2, u0, u1, v0, v1, x0, x1, x2, z0, z1, z2⟩ := id A3; obtain ⟨_, i0, i1, i2, i3, i4, i5, i6, i7, i8⟩ := L3.tru; obtain ⟨o0, o1, o2⟩ := id O3; obtain ⟨e0, e1, _, _⟩ := id Y3))
  refine bodyPost_ret (v := .tuple #[.agg #[.bool true, .int .i64 0, .string ⟨#[]⟩], .int .i64 0]) ?_ rfl ⟨rfl, ?_⟩
  · rw [results_cell_tmp rfl]; go_simp
  · repeat (first | refine Below.drew ?_ | refine Below.alloc ?_ (by first | (simpa using hB1.size) | (have := hB1.size; simp; omega)) _ | refine Below.setCell ?_ (by first | (simp; done) | (simp; omega)) _)
    exact hB3

set_option maxRecDepth 100000 in
set_option maxHeartbeats 16000000 in
theorem arith_minus_nullB (ua : Bool) (na : Int) (za : ByteArray) (ub : Bool) (nb : Int) (zb : ByteArray) (ka sa kb sb : Int) (k M : Int) (hf : fitV ka sa true ua na za = true) (hg : fitV kb sb true ub nb zb = true) (hv : ua = false) (hu : ub = true) (hza : za.size ≤ maxLen) (hzb : zb.size ≤ maxLen) (w : World) (hL : Laid w)
    (ct : ∀ w, Calls Tryd.prog 28 #[.int .u8 45, .agg #[.int .i64 ka, .int .i64 sa], .agg #[.int .i64 kb, .int .i64 sb]] w fun e w' => e = .returned (.tuple #[.agg #[.func (.func 55) #[] #[], .bool true, .func (.func 58) #[] #[]], .agg #[.int .i64 k, .int .i64 M], .bool true]) ∧ Below w.heap.size w w') :
    Calls Tryd.prog 20 #[.int .u8 45, .agg #[.bool ua, .int .i64 na, .string za], .agg #[.bool ub, .int .i64 nb, .string zb], .agg #[.int .i64 ka, .int .i64 sa], .agg #[.int .i64 kb, .int .i64 sb]] w fun e w' => e = .returned (.tuple #[.agg #[.bool true, .int .i64 0, .string ⟨#[]⟩], .int .i64 0]) ∧ Below w.heap.size w w' := by
  subst hv hu
  obtain ⟨W, hW, HA, hB⟩ := Ab.new w false na za true nb zb ka sa kb sb
  have hLW := hL.below hB
  have cfa := fun w hT => val_fits ka sa true false na za hza w hT
  have cfb := fun w hT => val_fits kb sb true true nb zb hzb w hT
  rw [hf] at cfa
  rw [hg] at cfb
  go_enter Tryd.func20, Tryd.ntmps20
  go_upto_region 1 with fail
  rw [← hW]
  clear hW
  obtain ⟨a0, a1, a2, d0, d1, d2, s0, s1, t0, t1, r0, r1, r2, y0, y1, y2⟩ := id HA
  go_wp2_with (first
    | (go_at_call 28; (with_reducible refine (ct _).mono ?_); rintro e w1 ⟨rfl, hb1⟩; have A1 := HA.on hb1; have hB1 := bt hB hb1; have L1 := hLW.below hb1; obtain ⟨l0, l1, l2, l3, l4⟩ := A1.lt; obtain ⟨a0', a1', a2', d0', d1', d2', s0', s1', t0', t1', r0', r1', r2', y0', y1', y2'⟩ := id A1; have O1 := (Ob.new w1 (.func (.func 55) #[] #[]) true (.func (.func 58) #[] #[]) 57).on (b1 (x := .cells #[.int .i64 k, .int .i64 M] 23)); have Y1 := Yb.new (w1.alloc (.cells #[.func (.func 55) #[] #[], .bool true, .func (.func 58) #[] #[]] 57)) k M 23; have hz1 : (w1.alloc (.cells #[.func (.func 55) #[] #[], .bool true, .func (.func 58) #[] #[]] 57)).heap.size = w1.heap.size + 1 := (by simp); rw [hz1] at Y1; have hT1 := ((L1.alloc (.cells #[.func (.func 55) #[] #[], .bool true, .func (.func 58) #[] #[]] 57)).alloc (.cells #[.int .i64 k, .int .i64 M] 23)).tru)
    | (go_at_call 17; (with_reducible refine (cfa _ hT1).mono ?_); rintro e w2 ⟨rfl, hb2⟩; have A2 := (A1.on b2).on hb2; have hB2 := bt (bt hB1 b2) hb2; have O2 := O1.on hb2; have Y2 := Y1.on hb2; have L2 := ((L1.alloc _).alloc _).below hb2; obtain ⟨m0, m1, m2, m3, m4⟩ := A2.lt; obtain ⟨a0'', a1'', a2'', d0'', d1'', d2'', s0'', s1'', t0'', t1'', r0'', r1'', r2'', y0'', y1'', y2''⟩ := id A2)
    | (go_at_call 17; (with_reducible refine (cfb _ L2.tru).mono ?_); rintro e w3 ⟨rfl, hb3⟩; have A3 := A2.on hb3; have hB3 := bt hB2 hb3; have O3 := O2.on hb3; have Y3 := Y2.on hb3; have L3 := L2.below hb3; obtain ⟨n0, n1, n2, n3, n4⟩ := A3.lt; obtain ⟨p0, p1, p2, q0, q1, q2, u0, u1, v0, v1, x0, x1, x2, z0, z1, z2⟩ := id A3; obtain ⟨_, i0, i1, i2, i3, i4, i5, i6, i7, i8⟩ := L3.tru; obtain ⟨o0, o1, o2⟩ := id O3; obtain ⟨e0, e1, _, _⟩ := id Y3))
  refine bodyPost_ret (v := .tuple #[.agg #[.bool true, .int .i64 0, .string ⟨#[]⟩], .int .i64 0]) ?_ rfl ⟨rfl, ?_⟩
  · rw [results_cell_tmp rfl]; go_simp
  · repeat (first | refine Below.drew ?_ | refine Below.alloc ?_ (by first | (simpa using hB1.size) | (have := hB1.size; simp; omega)) _ | refine Below.setCell ?_ (by first | (simp; done) | (simp; omega)) _)
    exact hB3

set_option maxRecDepth 100000 in
set_option maxHeartbeats 16000000 in
theorem arith_minus_ok (na : Int) (za : ByteArray) (nb : Int) (zb : ByteArray) (ka sa kb sb : Int) (k M : Int) (hf : fitV ka sa true false na za = true) (hg : fitV kb sb true false nb zb = true) (x y r : Int) (ce : ∀ w, Calls Tryd.prog 36 #[.int .i64 na, .int .i64 nb, .int .i64 sa, .int .i64 sb, .int .i64 M] w fun e w' => e = .returned (.tuple #[.int .i64 x, .int .i64 y, .int .i64 0]) ∧ Below w.heap.size w w') (cr : ∀ w, Calls Tryd.prog 58 #[.int .i64 x, .int .i64 y] w fun e w' => e = .returned (.tuple #[.int .i64 r, .int .i64 0]) ∧ Below w.heap.size w w') (hza : za.size ≤ maxLen) (hzb : zb.size ≤ maxLen) (w : World) (hL : Laid w)
    (ct : ∀ w, Calls Tryd.prog 28 #[.int .u8 45, .agg #[.int .i64 ka, .int .i64 sa], .agg #[.int .i64 kb, .int .i64 sb]] w fun e w' => e = .returned (.tuple #[.agg #[.func (.func 55) #[] #[], .bool true, .func (.func 58) #[] #[]], .agg #[.int .i64 k, .int .i64 M], .bool true]) ∧ Below w.heap.size w w') :
    Calls Tryd.prog 20 #[.int .u8 45, .agg #[.bool false, .int .i64 na, .string za], .agg #[.bool false, .int .i64 nb, .string zb], .agg #[.int .i64 ka, .int .i64 sa], .agg #[.int .i64 kb, .int .i64 sb]] w fun e w' => e = .returned (.tuple #[.agg #[.bool false, .int .i64 r, .string ⟨#[]⟩], .int .i64 0]) ∧ Below w.heap.size w w' := by
  obtain ⟨W, hW, HA, hB⟩ := Ab.new w false na za false nb zb ka sa kb sb
  have hLW := hL.below hB
  have cfa := fun w hT => val_fits ka sa true false na za hza w hT
  have cfb := fun w hT => val_fits kb sb true false nb zb hzb w hT
  rw [hf] at cfa
  rw [hg] at cfb
  go_enter Tryd.func20, Tryd.ntmps20
  go_upto_region 1 with fail
  rw [← hW]
  clear hW
  obtain ⟨a0, a1, a2, d0, d1, d2, s0, s1, t0, t1, r0, r1, r2, y0, y1, y2⟩ := id HA
  go_wp2_with (first
    | (go_at_call 28; (with_reducible refine (ct _).mono ?_); rintro e w1 ⟨rfl, hb1⟩; have A1 := HA.on hb1; have hB1 := bt hB hb1; have L1 := hLW.below hb1; obtain ⟨l0, l1, l2, l3, l4⟩ := A1.lt; obtain ⟨a0', a1', a2', d0', d1', d2', s0', s1', t0', t1', r0', r1', r2', y0', y1', y2'⟩ := id A1; have O1 := (Ob.new w1 (.func (.func 55) #[] #[]) true (.func (.func 58) #[] #[]) 57).on (b1 (x := .cells #[.int .i64 k, .int .i64 M] 23)); have Y1 := Yb.new (w1.alloc (.cells #[.func (.func 55) #[] #[], .bool true, .func (.func 58) #[] #[]] 57)) k M 23; have hz1 : (w1.alloc (.cells #[.func (.func 55) #[] #[], .bool true, .func (.func 58) #[] #[]] 57)).heap.size = w1.heap.size + 1 := (by simp); rw [hz1] at Y1; have hT1 := ((L1.alloc (.cells #[.func (.func 55) #[] #[], .bool true, .func (.func 58) #[] #[]] 57)).alloc (.cells #[.int .i64 k, .int .i64 M] 23)).tru)
    | (go_at_call 17; (with_reducible refine (cfa _ hT1).mono ?_); rintro e w2 ⟨rfl, hb2⟩; have A2 := (A1.on b2).on hb2; have hB2 := bt (bt hB1 b2) hb2; have O2 := O1.on hb2; have Y2 := Y1.on hb2; have L2 := ((L1.alloc _).alloc _).below hb2; obtain ⟨m0, m1, m2, m3, m4⟩ := A2.lt; obtain ⟨a0'', a1'', a2'', d0'', d1'', d2'', s0'', s1'', t0'', t1'', r0'', r1'', r2'', y0'', y1'', y2''⟩ := id A2)
    | (go_at_call 17; (with_reducible refine (cfb _ L2.tru).mono ?_); rintro e w3 ⟨rfl, hb3⟩; have A3 := A2.on hb3; have hB3 := bt hB2 hb3; have O3 := O2.on hb3; have Y3 := Y2.on hb3; have L3 := L2.below hb3; obtain ⟨n0, n1, n2, n3, n4⟩ := A3.lt; obtain ⟨p0, p1, p2, q0, q1, q2, u0, u1, v0, v1, x0, x1, x2, z0, z1, z2⟩ := id A3; obtain ⟨_, i0, i1, i2, i3, i4, i5, i6, i7, i8⟩ := L3.tru; obtain ⟨o0, o1, o2⟩ := id O3; obtain ⟨e0, e1, _, _⟩ := id Y3))
  have hbq : ∀ {w' : World} {n : Nat}, Below (w3.drewN n).heap.size (w3.drewN n) w' → Below w3.heap.size w3 w' := fun h => (bdrewN (Below.refl _ _) _).trans h
  go_quiet (fail)
  go_wp2_with (first
    | (go_at_call 36; (with_reducible refine (ce _).mono ?_); rintro e w4 ⟨rfl, hb4⟩; have A4 := A3.on (hbq hb4); have O4 := O3.on (hbq hb4); have hB4 := hB3.trans ((hbq hb4).mono hB3.size); obtain ⟨k0, k1, k2, k3, k4⟩ := A4.lt; obtain ⟨_, _, _, _, _, _, _, _, _, _, f0, f1, f2, g0, g1, g2⟩ := id A4; obtain ⟨o0', o1', o2'⟩ := id O4)
    | (go_at_call 58; (with_reducible refine (cr _).mono ?_); rintro e w5 ⟨rfl, hb5⟩; have A5 := A4.on hb5; have hB5 := bt hB4 hb5; obtain ⟨_, _, _, _, _, _, _, _, _, _, f0', f1', f2', g0', g1', g2'⟩ := id A5))
  refine bodyPost_ret (v := .tuple #[.agg #[.bool false, .int .i64 r, .string ⟨#[]⟩], .int .i64 0]) ?_ rfl ⟨rfl, ?_⟩
  · rw [results_cell_tmp rfl]; go_simp
  · repeat (first | refine Below.drew ?_ | refine Below.alloc ?_ (by first | (simpa using hB1.size) | (have := hB1.size; simp; omega)) _ | refine Below.setCell ?_ (by first | (simp; done) | (simp; omega)) _)
    exact hB5

set_option maxRecDepth 100000 in
set_option maxHeartbeats 16000000 in
theorem arith_minus_full (na : Int) (za : ByteArray) (nb : Int) (zb : ByteArray) (ka sa kb sb : Int) (k M : Int) (hf : fitV ka sa true false na za = true) (hg : fitV kb sb true false nb zb = true) (x y r : Int) (ce : ∀ w, Calls Tryd.prog 36 #[.int .i64 na, .int .i64 nb, .int .i64 sa, .int .i64 sb, .int .i64 M] w fun e w' => e = .returned (.tuple #[.int .i64 x, .int .i64 y, .int .i64 0]) ∧ Below w.heap.size w w') (cr : ∀ w, Calls Tryd.prog 58 #[.int .i64 x, .int .i64 y] w fun e w' => e = .returned (.tuple #[.int .i64 r, .int .i64 11]) ∧ Below w.heap.size w w') (hza : za.size ≤ maxLen) (hzb : zb.size ≤ maxLen) (w : World) (hL : Laid w)
    (ct : ∀ w, Calls Tryd.prog 28 #[.int .u8 45, .agg #[.int .i64 ka, .int .i64 sa], .agg #[.int .i64 kb, .int .i64 sb]] w fun e w' => e = .returned (.tuple #[.agg #[.func (.func 55) #[] #[], .bool true, .func (.func 58) #[] #[]], .agg #[.int .i64 k, .int .i64 M], .bool true]) ∧ Below w.heap.size w w') :
    Calls Tryd.prog 20 #[.int .u8 45, .agg #[.bool false, .int .i64 na, .string za], .agg #[.bool false, .int .i64 nb, .string zb], .agg #[.int .i64 ka, .int .i64 sa], .agg #[.int .i64 kb, .int .i64 sb]] w fun e w' => e = .returned (.tuple #[.agg #[.bool false, .int .i64 0, .string ⟨#[]⟩], .int .i64 11]) ∧ Below w.heap.size w w' := by
  obtain ⟨W, hW, HA, hB⟩ := Ab.new w false na za false nb zb ka sa kb sb
  have hLW := hL.below hB
  have cfa := fun w hT => val_fits ka sa true false na za hza w hT
  have cfb := fun w hT => val_fits kb sb true false nb zb hzb w hT
  rw [hf] at cfa
  rw [hg] at cfb
  go_enter Tryd.func20, Tryd.ntmps20
  go_upto_region 1 with fail
  rw [← hW]
  clear hW
  obtain ⟨a0, a1, a2, d0, d1, d2, s0, s1, t0, t1, r0, r1, r2, y0, y1, y2⟩ := id HA
  go_wp2_with (first
    | (go_at_call 28; (with_reducible refine (ct _).mono ?_); rintro e w1 ⟨rfl, hb1⟩; have A1 := HA.on hb1; have hB1 := bt hB hb1; have L1 := hLW.below hb1; obtain ⟨l0, l1, l2, l3, l4⟩ := A1.lt; obtain ⟨a0', a1', a2', d0', d1', d2', s0', s1', t0', t1', r0', r1', r2', y0', y1', y2'⟩ := id A1; have O1 := (Ob.new w1 (.func (.func 55) #[] #[]) true (.func (.func 58) #[] #[]) 57).on (b1 (x := .cells #[.int .i64 k, .int .i64 M] 23)); have Y1 := Yb.new (w1.alloc (.cells #[.func (.func 55) #[] #[], .bool true, .func (.func 58) #[] #[]] 57)) k M 23; have hz1 : (w1.alloc (.cells #[.func (.func 55) #[] #[], .bool true, .func (.func 58) #[] #[]] 57)).heap.size = w1.heap.size + 1 := (by simp); rw [hz1] at Y1; have hT1 := ((L1.alloc (.cells #[.func (.func 55) #[] #[], .bool true, .func (.func 58) #[] #[]] 57)).alloc (.cells #[.int .i64 k, .int .i64 M] 23)).tru)
    | (go_at_call 17; (with_reducible refine (cfa _ hT1).mono ?_); rintro e w2 ⟨rfl, hb2⟩; have A2 := (A1.on b2).on hb2; have hB2 := bt (bt hB1 b2) hb2; have O2 := O1.on hb2; have Y2 := Y1.on hb2; have L2 := ((L1.alloc _).alloc _).below hb2; obtain ⟨m0, m1, m2, m3, m4⟩ := A2.lt; obtain ⟨a0'', a1'', a2'', d0'', d1'', d2'', s0'', s1'', t0'', t1'', r0'', r1'', r2'', y0'', y1'', y2''⟩ := id A2)
    | (go_at_call 17; (with_reducible refine (cfb _ L2.tru).mono ?_); rintro e w3 ⟨rfl, hb3⟩; have A3 := A2.on hb3; have hB3 := bt hB2 hb3; have O3 := O2.on hb3; have Y3 := Y2.on hb3; have L3 := L2.below hb3; obtain ⟨n0, n1, n2, n3, n4⟩ := A3.lt; obtain ⟨p0, p1, p2, q0, q1, q2, u0, u1, v0, v1, x0, x1, x2, z0, z1, z2⟩ := id A3; obtain ⟨_, i0, i1, i2, i3, i4, i5, i6, i7, i8⟩ := L3.tru; obtain ⟨o0, o1, o2⟩ := id O3; obtain ⟨e0, e1, _, _⟩ := id Y3))
  have hbq : ∀ {w' : World} {n : Nat}, Below (w3.drewN n).heap.size (w3.drewN n) w' → Below w3.heap.size w3 w' := fun h => (bdrewN (Below.refl _ _) _).trans h
  go_quiet (fail)
  go_wp2_with (first
    | (go_at_call 36; (with_reducible refine (ce _).mono ?_); rintro e w4 ⟨rfl, hb4⟩; have A4 := A3.on (hbq hb4); have O4 := O3.on (hbq hb4); have hB4 := hB3.trans ((hbq hb4).mono hB3.size); obtain ⟨k0, k1, k2, k3, k4⟩ := A4.lt; obtain ⟨_, _, _, _, _, _, _, _, _, _, f0, f1, f2, g0, g1, g2⟩ := id A4; obtain ⟨o0', o1', o2'⟩ := id O4)
    | (go_at_call 58; (with_reducible refine (cr _).mono ?_); rintro e w5 ⟨rfl, hb5⟩; have A5 := A4.on hb5; have hB5 := bt hB4 hb5; obtain ⟨_, _, _, _, _, _, _, _, _, _, f0', f1', f2', g0', g1', g2'⟩ := id A5))
  refine bodyPost_ret (v := .tuple #[.agg #[.bool false, .int .i64 0, .string ⟨#[]⟩], .int .i64 11]) ?_ rfl ⟨rfl, ?_⟩
  · rw [results_cell_tmp rfl]; go_simp
  · repeat (first | refine Below.drew ?_ | refine Below.alloc ?_ (by first | (simpa using hB1.size) | (have := hB1.size; simp; omega)) _ | refine Below.setCell ?_ (by first | (simp; done) | (simp; omega)) _)
    exact hB5

set_option maxRecDepth 100000 in
set_option maxHeartbeats 16000000 in
theorem arith_minus_wide (na : Int) (za : ByteArray) (nb : Int) (zb : ByteArray) (ka sa kb sb : Int) (k M : Int) (hf : fitV ka sa true false na za = true) (hg : fitV kb sb true false nb zb = true) (x y : Int) (ce : ∀ w, Calls Tryd.prog 36 #[.int .i64 na, .int .i64 nb, .int .i64 sa, .int .i64 sb, .int .i64 M] w fun e w' => e = .returned (.tuple #[.int .i64 x, .int .i64 y, .int .i64 11]) ∧ Below w.heap.size w w') (hza : za.size ≤ maxLen) (hzb : zb.size ≤ maxLen) (w : World) (hL : Laid w)
    (ct : ∀ w, Calls Tryd.prog 28 #[.int .u8 45, .agg #[.int .i64 ka, .int .i64 sa], .agg #[.int .i64 kb, .int .i64 sb]] w fun e w' => e = .returned (.tuple #[.agg #[.func (.func 55) #[] #[], .bool true, .func (.func 58) #[] #[]], .agg #[.int .i64 k, .int .i64 M], .bool true]) ∧ Below w.heap.size w w') :
    Calls Tryd.prog 20 #[.int .u8 45, .agg #[.bool false, .int .i64 na, .string za], .agg #[.bool false, .int .i64 nb, .string zb], .agg #[.int .i64 ka, .int .i64 sa], .agg #[.int .i64 kb, .int .i64 sb]] w fun e w' => e = .returned (.tuple #[.agg #[.bool false, .int .i64 0, .string ⟨#[]⟩], .int .i64 11]) ∧ Below w.heap.size w w' := by
  obtain ⟨W, hW, HA, hB⟩ := Ab.new w false na za false nb zb ka sa kb sb
  have hLW := hL.below hB
  have cfa := fun w hT => val_fits ka sa true false na za hza w hT
  have cfb := fun w hT => val_fits kb sb true false nb zb hzb w hT
  rw [hf] at cfa
  rw [hg] at cfb
  go_enter Tryd.func20, Tryd.ntmps20
  go_upto_region 1 with fail
  rw [← hW]
  clear hW
  obtain ⟨a0, a1, a2, d0, d1, d2, s0, s1, t0, t1, r0, r1, r2, y0, y1, y2⟩ := id HA
  go_wp2_with (first
    | (go_at_call 28; (with_reducible refine (ct _).mono ?_); rintro e w1 ⟨rfl, hb1⟩; have A1 := HA.on hb1; have hB1 := bt hB hb1; have L1 := hLW.below hb1; obtain ⟨l0, l1, l2, l3, l4⟩ := A1.lt; obtain ⟨a0', a1', a2', d0', d1', d2', s0', s1', t0', t1', r0', r1', r2', y0', y1', y2'⟩ := id A1; have O1 := (Ob.new w1 (.func (.func 55) #[] #[]) true (.func (.func 58) #[] #[]) 57).on (b1 (x := .cells #[.int .i64 k, .int .i64 M] 23)); have Y1 := Yb.new (w1.alloc (.cells #[.func (.func 55) #[] #[], .bool true, .func (.func 58) #[] #[]] 57)) k M 23; have hz1 : (w1.alloc (.cells #[.func (.func 55) #[] #[], .bool true, .func (.func 58) #[] #[]] 57)).heap.size = w1.heap.size + 1 := (by simp); rw [hz1] at Y1; have hT1 := ((L1.alloc (.cells #[.func (.func 55) #[] #[], .bool true, .func (.func 58) #[] #[]] 57)).alloc (.cells #[.int .i64 k, .int .i64 M] 23)).tru)
    | (go_at_call 17; (with_reducible refine (cfa _ hT1).mono ?_); rintro e w2 ⟨rfl, hb2⟩; have A2 := (A1.on b2).on hb2; have hB2 := bt (bt hB1 b2) hb2; have O2 := O1.on hb2; have Y2 := Y1.on hb2; have L2 := ((L1.alloc _).alloc _).below hb2; obtain ⟨m0, m1, m2, m3, m4⟩ := A2.lt; obtain ⟨a0'', a1'', a2'', d0'', d1'', d2'', s0'', s1'', t0'', t1'', r0'', r1'', r2'', y0'', y1'', y2''⟩ := id A2)
    | (go_at_call 17; (with_reducible refine (cfb _ L2.tru).mono ?_); rintro e w3 ⟨rfl, hb3⟩; have A3 := A2.on hb3; have hB3 := bt hB2 hb3; have O3 := O2.on hb3; have Y3 := Y2.on hb3; have L3 := L2.below hb3; obtain ⟨n0, n1, n2, n3, n4⟩ := A3.lt; obtain ⟨p0, p1, p2, q0, q1, q2, u0, u1, v0, v1, x0, x1, x2, z0, z1, z2⟩ := id A3; obtain ⟨_, i0, i1, i2, i3, i4, i5, i6, i7, i8⟩ := L3.tru; obtain ⟨o0, o1, o2⟩ := id O3; obtain ⟨e0, e1, _, _⟩ := id Y3))
  have hbq : ∀ {w' : World} {n : Nat}, Below (w3.drewN n).heap.size (w3.drewN n) w' → Below w3.heap.size w3 w' := fun h => (bdrewN (Below.refl _ _) _).trans h
  go_quiet (fail)
  go_wp2_with (first
    | (go_at_call 36; (with_reducible refine (ce _).mono ?_); rintro e w4 ⟨rfl, hb4⟩; have A4 := A3.on (hbq hb4); have O4 := O3.on (hbq hb4); have hB4 := hB3.trans ((hbq hb4).mono hB3.size); obtain ⟨k0, k1, k2, k3, k4⟩ := A4.lt; obtain ⟨_, _, _, _, _, _, _, _, _, _, f0, f1, f2, g0, g1, g2⟩ := id A4; obtain ⟨o0', o1', o2'⟩ := id O4))
  refine bodyPost_ret (v := .tuple #[.agg #[.bool false, .int .i64 0, .string ⟨#[]⟩], .int .i64 11]) ?_ rfl ⟨rfl, ?_⟩
  · rw [results_cell_tmp rfl]; go_simp
  · repeat (first | refine Below.drew ?_ | refine Below.alloc ?_ (by first | (simpa using hB1.size) | (have := hB1.size; simp; omega)) _ | refine Below.setCell ?_ (by first | (simp; done) | (simp; omega)) _)
    exact hB4

end Go.Proofs.YtfjoobopfjahcaaDoor
