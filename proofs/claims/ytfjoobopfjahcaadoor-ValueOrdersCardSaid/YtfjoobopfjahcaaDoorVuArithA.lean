/-
  What package value's Arith refuses, and where it answers nothing: walked. Contracts that the proofs call; no statement is proved here.
-/
import Derived.Deep.Draws
import Derived.Test.YtfjoobopfjahcaaDoorVuText
import Derived.Test.YtfjoobopfjahcaaDoorVuTypedN
namespace Go.Proofs.YtfjoobopfjahcaaDoor
set_option linter.unusedVariables false
open Go.RowKit

theorem bdrewN {B : Nat} {a w : World} (h : Below B a w) (q : Nat) : Below B a (w.drewN q) := ⟨h.os, h.tape, h.output, h.size, h.block⟩

/-- The five boxes of a call of Arith. -/
structure Ab (B : Nat) (ua : Bool) (na : Int) (za : ByteArray) (ub : Bool) (nb : Int) (zb : ByteArray) (ka sa kb sb : Int) (W : World) : Prop where
  a0 : W.cell? ⟨B, 0, none⟩ = some (.bool ua)
  a1 : W.cell? ⟨B, 1, none⟩ = some (.int .i64 na)
  a2 : W.cell? ⟨B, 2, none⟩ = some (.string za)
  b0 : W.cell? ⟨B + 1, 0, none⟩ = some (.bool ub)
  b1 : W.cell? ⟨B + 1, 1, none⟩ = some (.int .i64 nb)
  b2 : W.cell? ⟨B + 1, 2, none⟩ = some (.string zb)
  s0 : W.cell? ⟨B + 1 + 1, 0, none⟩ = some (.int .i64 ka)
  s1 : W.cell? ⟨B + 1 + 1, 1, none⟩ = some (.int .i64 sa)
  t0 : W.cell? ⟨B + 1 + 1 + 1, 0, none⟩ = some (.int .i64 kb)
  t1 : W.cell? ⟨B + 1 + 1 + 1, 1, none⟩ = some (.int .i64 sb)
  r0 : W.cell? ⟨B + 1 + 1 + 1 + 1, 0, none⟩ = some (.bool false)
  r1 : W.cell? ⟨B + 1 + 1 + 1 + 1, 1, none⟩ = some (.int .i64 0)
  r2 : W.cell? ⟨B + 1 + 1 + 1 + 1, 2, none⟩ = some (.string ⟨#[]⟩)
  y0 : W.frozen? ⟨B + 1 + 1 + 1 + 1, 0, none⟩ = false
  y1 : W.frozen? ⟨B + 1 + 1 + 1 + 1, 1, none⟩ = false
  y2 : W.frozen? ⟨B + 1 + 1 + 1 + 1, 2, none⟩ = false
theorem Ab.on {B : Nat} {ua : Bool} {na : Int} {za : ByteArray} {ub : Bool} {nb : Int} {zb : ByteArray} {ka sa kb sb : Int} {W w1 : World} (h : Ab B ua na za ub nb zb ka sa kb sb W) (hb : Below W.heap.size W w1) : Ab B ua na za ub nb zb ka sa kb sb w1 :=
  ⟨stay_on hb h.a0, stay_on hb h.a1, stay_on hb h.a2, stay_on hb h.b0, stay_on hb h.b1, stay_on hb h.b2, stay_on hb h.s0, stay_on hb h.s1, stay_on hb h.t0, stay_on hb h.t1, stay_on hb h.r0, stay_on hb h.r1, stay_on hb h.r2, free_on hb h.r0 h.y0, free_on hb h.r1 h.y1, free_on hb h.r2 h.y2⟩
theorem Ab.lt {B : Nat} {ua : Bool} {na : Int} {za : ByteArray} {ub : Bool} {nb : Int} {zb : ByteArray} {ka sa kb sb : Int} {W : World} (h : Ab B ua na za ub nb zb ka sa kb sb W) : B < W.heap.size ∧ B + 1 < W.heap.size ∧ B + 1 + 1 < W.heap.size ∧ B + 1 + 1 + 1 < W.heap.size ∧ B + 1 + 1 + 1 + 1 < W.heap.size := by
  have := World.block_lt_of_cell? W _ h.r0
  simp only at this
  omega
theorem Ab.new (w : World) (ua : Bool) (na : Int) (za : ByteArray) (ub : Bool) (nb : Int) (zb : ByteArray) (ka sa kb sb : Int) : ∃ W, W = ((((w.alloc (.cells #[.bool ua, .int .i64 na, .string za] 25)).alloc (.cells #[.bool ub, .int .i64 nb, .string zb] 25)).alloc (.cells #[.int .i64 ka, .int .i64 sa] 23)).alloc (.cells #[.int .i64 kb, .int .i64 sb] 23)).alloc (.cells #[.bool false, .int .i64 0, .string ⟨#[]⟩] 25) ∧
    Ab w.heap.size ua na za ub nb zb ka sa kb sb W ∧ Below w.heap.size w W := by
  refine ⟨_, rfl, ⟨by go_simp, by go_simp, by go_simp, by go_simp, by go_simp, by go_simp, by go_simp, by go_simp, by go_simp, by go_simp, by go_simp, by go_simp, by go_simp, by go_simp, by go_simp, by go_simp⟩, b5⟩


set_option maxRecDepth 100000 in
set_option maxHeartbeats 8000000 in
theorem arith_none (op : Int) (ua : Bool) (na : Int) (za : ByteArray) (ub : Bool) (nb : Int) (zb : ByteArray) (ka sa kb sb : Int) (h0 : 0 ≤ op) (h1 : op ≤ 255) (w : World)
    (ct : ∀ w, Calls Tryd.prog 28 #[.int .u8 op, .agg #[.int .i64 ka, .int .i64 sa], .agg #[.int .i64 kb, .int .i64 sb]] w fun e w' => e = .returned (.tuple #[.agg #[.nilFunc, .bool false, .nilFunc], .agg #[.int .i64 0, .int .i64 0], .bool false]) ∧ Below w.heap.size w w') :
    Calls Tryd.prog 20 #[.int .u8 op, .agg #[.bool ua, .int .i64 na, .string za], .agg #[.bool ub, .int .i64 nb, .string zb], .agg #[.int .i64 ka, .int .i64 sa], .agg #[.int .i64 kb, .int .i64 sb]] w fun e w' => e = .returned (.tuple #[.agg #[.bool false, .int .i64 0, .string ⟨#[]⟩], .int .i64 4]) ∧ Below w.heap.size w w' := by
  obtain ⟨W, hW, HA, hB⟩ := Ab.new w ua na za ub nb zb ka sa kb sb
  go_enter Tryd.func20, Tryd.ntmps20
  go_upto_region 1 with fail
  rw [← hW]
  clear hW
  obtain ⟨a0, a1, a2, d0, d1, d2, s0, s1, t0, t1, r0, r1, r2, y0, y1, y2⟩ := id HA
  go_wp2_with (go_at_call 28; (with_reducible refine (ct _).mono ?_); rintro e w1 ⟨rfl, hb1⟩; have A1 := HA.on hb1; have hB1 := bt hB hb1; obtain ⟨l0, l1, l2, l3, l4⟩ := A1.lt; obtain ⟨a0', a1', a2', d0', d1', d2', s0', s1', t0', t1', r0', r1', r2', y0', y1', y2'⟩ := id A1)
  refine bodyPost_ret (v := .tuple #[.agg #[.bool false, .int .i64 0, .string ⟨#[]⟩], .int .i64 4]) ?_ rfl ⟨rfl, ?_⟩
  · rw [results_cell_tmp rfl]; go_simp
  · repeat (first | refine Below.drew ?_ | refine Below.alloc ?_ (by first | (simpa using hB1.size) | (have := hB1.size; simp; omega)) _ | refine Below.setCell ?_ (by first | (simp; done) | (simp; omega)) _)
    exact hB1

end Go.Proofs.YtfjoobopfjahcaaDoor
