/-
  Package value's numbers of 128 bits, walked: products, tens, what has room in 64 bits, how two compare. Contracts that the proofs call; no statement is proved here.
-/
import Derived.LoopTactic
import Derived.Deep.RegionWith
import Derived.Deep.RegionHeld3
import Derived.Deep.QuietTactic
import Derived.BigQuiet
import Derived.Test.YtfjoobopfjahcaaDoorVuWide
namespace Go.Proofs.YtfjoobopfjahcaaDoor
open Go.RowKit

theorem and_ones (b : Int) (h : -9223372036854775808 ≤ b ∧ b ≤ 9223372036854775807) : bits .and .i64 (-1) b = b := by
  show IntKind.i64.wrap ((BitVec.ofInt 64 (-1) &&& BitVec.ofInt 64 b).toNat : Nat) = b
  have e : (BitVec.ofInt 64 (-1) : BitVec 64) = BitVec.allOnes 64 := by decide
  rw [e, BitVec.allOnes_and, IntKind.wrap_i64, BitVec.toNat_ofInt]
  omega
theorem and_none (b : Int) : bits .and .i64 0 b = 0 := by
  show IntKind.i64.wrap ((BitVec.ofInt 64 0 &&& BitVec.ofInt 64 b).toNat : Nat) = 0
  have e : (BitVec.ofInt 64 0 : BitVec 64) = 0#64 := by decide
  rw [e, BitVec.zero_and, IntKind.wrap_i64]
  simp

set_option maxHeartbeats 2000000 in
theorem w_product (a b : Int) (ha : -9223372036854775808 ≤ a ∧ a ≤ 9223372036854775807) (hb : -9223372036854775808 ≤ b ∧ b ≤ 9223372036854775807) (w : World) :
    Calls Tryd.prog 61 #[.int .i64 a, .int .i64 b] w fun e w' => e = .returned (.agg #[.int .i64 (whi (a * b)), .int .u64 (wlo (a * b))]) ∧ Below w.heap.size w w' := by
  have hc : ∀ w, Calls Tryd.prog 78 #[.int .u64 (IntKind.u64.wrap a), .int .u64 (IntKind.u64.wrap b)] w fun e w' => e = .returned (.tuple #[.int .u64 (wlo a * wlo b / 18446744073709551616), .int .u64 (wlo (a * b))]) ∧ w = w' := fun w => by
    have e1 : IntKind.u64.wrap a = ((wlo a).toNat : Int) := by rw [IntKind.wrap_u64]; have := wlo_bd a; unfold wlo at *; omega
    have e2 : IntKind.u64.wrap b = ((wlo b).toNat : Int) := by rw [IntKind.wrap_u64]; have := wlo_bd b; unfold wlo at *; omega
    have d1 : ((wlo a).toNat : Int) = wlo a := by have := wlo_bd a; omega
    have d2 : ((wlo b).toNat : Int) = wlo b := by have := wlo_bd b; omega
    have h := sh_bits_Mul64 (wlo a).toNat (wlo b).toNat (by have := wlo_bd a; omega) (by have := wlo_bd b; omega) w
    rw [← e1, ← e2] at h
    refine h.mono ?_
    rintro e w' ⟨rfl, rfl⟩
    refine ⟨?_, rfl⟩
    rw [Int.natCast_ediv, Int.natCast_emod, Int.natCast_mul, d1, d2]
    rw [← prod_lo]
    rfl
  have hh := Lib.hid (prod_hi a b ha hb)
  have bm : 0 ≤ wlo a * wlo b / 18446744073709551616 ∧ wlo a * wlo b / 18446744073709551616 ≤ 18446744073709551615 := by
    have p0 := wlo_bd a; have q0 := wlo_bd b
    have h1 := Int.mul_nonneg p0.1 q0.1
    have h2 : wlo a * wlo b ≤ 18446744073709551615 * 18446744073709551615 := Int.mul_le_mul p0.2 q0.2 q0.1 (by omega)
    omega
  generalize wlo a * wlo b / 18446744073709551616 = M at *
  have a1 := and_ones b hb
  have a2 := and_ones a ha
  have a3 := and_none b
  have a4 := and_none a
  by_cases h1 : a < 0 <;> by_cases h2 : b < 0
  all_goals
    first
      | (have s1 : a / 9223372036854775808 = -1 := by omega)
      | (have s1 : a / 9223372036854775808 = 0 := by omega
         rw [show IntKind.u64.wrap a = a by rw [IntKind.wrap_u64]; omega] at hc)
    first
      | (have s2 : b / 9223372036854775808 = -1 := by omega)
      | (have s2 : b / 9223372036854775808 = 0 := by omega
         rw [show IntKind.u64.wrap b = b by rw [IntKind.wrap_u64]; omega] at hc)
    have n1 : 0 ≤ a ∨ a ≤ -1 := by omega
    have n2 : 0 ≤ b ∨ b ≤ -1 := by omega
    have H := hh.out
    simp only [h1, h2, if_true, if_false] at H
    have HH := Lib.hid H
    clear H h1 h2
    rcases n1 with n1 | n1 <;> rcases n2 with n2 | n2 <;> first | (exfalso; omega) | skip
    go_enter Tryd.func61, Tryd.ntmps61
    go_wp2_with (go_at_call 78; (with_reducible refine (hc _).mono ?_); rintro e w1 ⟨rfl, rfl⟩)
    refine bodyPost_ret (v := .agg #[.int .i64 _, .int .u64 _]) ?_ rfl ⟨rfl, ?_⟩
    · rw [results_cell rfl]; go_simp
      have H := HH.out
      unfold wrap64 at *
      omega
    · exact b1

set_option maxHeartbeats 1000000 in
theorem w_nan64 (a : Int) (w : World) : Calls Tryd.prog 51 #[.int .i64 a] w fun e w' => e = .returned (.bool false) ∧ w = w' := by
  go_enter Tryd.func51, Tryd.ntmps51
  go_wp2
  go_ret
  exact ⟨rfl, rfl⟩
set_option maxHeartbeats 1000000 in
theorem w_nanu64 (a : Int) (w : World) : Calls Tryd.prog 65 #[.int .u64 a] w fun e w' => e = .returned (.bool false) ∧ w = w' := by
  go_enter Tryd.func65, Tryd.ntmps65
  go_wp2
  go_ret
  exact ⟨rfl, rfl⟩
set_option maxHeartbeats 1000000 in
theorem w_cmp64 (a b : Int) (w : World) : Calls Tryd.prog 40 #[.int .i64 a, .int .i64 b] w fun e w' => e = .returned (.int .i64 (cmpI a b)) ∧ w = w' := by
  go_enter Tryd.func40, Tryd.ntmps40
  go_wp2_with (go_at_call 51; (with_reducible refine (w_nan64 _ _).mono ?_); rintro e w1 ⟨rfl, rfl⟩)
  all_goals
    go_ret
    exact ⟨congrArg (fun x => Ending.returned (.int .i64 x)) (by unfold cmpI; (repeat' split) <;> omega), rfl⟩
set_option maxHeartbeats 1000000 in
theorem w_cmpu64 (a b : Int) (w : World) : Calls Tryd.prog 49 #[.int .u64 a, .int .u64 b] w fun e w' => e = .returned (.int .i64 (cmpI a b)) ∧ w = w' := by
  go_enter Tryd.func49, Tryd.ntmps49
  go_wp2_with (go_at_call 65; (with_reducible refine (w_nanu64 _ _).mono ?_); rintro e w1 ⟨rfl, rfl⟩)
  all_goals
    go_ret
    exact ⟨congrArg (fun x => Ending.returned (.int .i64 x)) (by unfold cmpI; (repeat' split) <;> omega), rfl⟩

/-- Two numbers that are listed: the first that is not 0. -/
def orI (a b : Int) : Int := if a ≠ 0 then a else b

set_option maxHeartbeats 2000000 in
theorem w_or (a b : Int) (blk c : Nat) (w : World) (h0 : w.cell? ⟨blk, 0, none⟩ = some (.int .i64 a)) (h1 : w.cell? ⟨blk, 1, none⟩ = some (.int .i64 b)) :
    Calls Tryd.prog 48 #[.slice (some ⟨blk, 0, none⟩) 2 c] w fun e w' => e = .returned (.int .i64 (orI a b)) ∧ w = w' := by
  go_enter Tryd.func48, Tryd.ntmps48
  go_wp2
  go_loop [8] (fun i => ∃ k : Nat, k ≤ 2 ∧ (1 ≤ k → a = 0) ∧ (2 ≤ k → b = 0) ∧ i = .int .i64 k) (fun i => 2 - (intOf i).toNat)
  case atStart => exact ⟨0, by omega, by omega, by omega, rfl⟩
  case round =>
    obtain ⟨k, hk, ha, hb, rfl⟩ := hrel
    rcases (show k = 0 ∨ k = 1 ∨ k = 2 by omega) with rfl | rfl | rfl
    · clear ha hb
      by_cases hz : a = 0
      · subst hz
        go_wp2
        exact ⟨⟨1, by omega, by simp, by omega, rfl⟩, by simp [intOf]⟩
      · have hn : (a != 0) = true := by simpa using hz
        go_wp2
        go_ret
        exact ⟨congrArg (fun x => Ending.returned (.int .i64 x)) (by unfold orI; rw [if_pos hz]), rfl⟩
    · have ha := ha (by omega)
      subst ha
      clear hb
      by_cases hz : b = 0
      · subst hz
        go_wp2
        exact ⟨⟨2, by omega, by simp, by simp, rfl⟩, by simp [intOf]⟩
      · have hn : (b != 0) = true := by simpa using hz
        go_wp2
        go_ret
        exact ⟨congrArg (fun x => Ending.returned (.int .i64 x)) (by unfold orI; rw [if_neg (by simp)]), rfl⟩
    · have ha := ha (by omega)
      have hb := hb (by omega)
      subst ha hb
      go_wp2
      go_ret
      exact ⟨rfl, rfl⟩

set_option maxHeartbeats 2000000 in
theorem w_orE (a b : Int) (blk c : Nat) (w : World) (h0 : w.cell? ⟨blk, 0, none⟩ = some (.int .i64 a)) (h1 : w.cell? ⟨blk, 1, none⟩ = some (.int .i64 b)) :
    Calls Tryd.prog 47 #[.slice (some ⟨blk, 0, none⟩) 2 c] w fun e w' => e = .returned (.int .i64 (orI a b)) ∧ w = w' := by
  go_enter Tryd.func47, Tryd.ntmps47
  go_wp2
  go_loop [8] (fun i => ∃ k : Nat, k ≤ 2 ∧ (1 ≤ k → a = 0) ∧ (2 ≤ k → b = 0) ∧ i = .int .i64 k) (fun i => 2 - (intOf i).toNat)
  case atStart => exact ⟨0, by omega, by omega, by omega, rfl⟩
  case round =>
    obtain ⟨k, hk, ha, hb, rfl⟩ := hrel
    rcases (show k = 0 ∨ k = 1 ∨ k = 2 by omega) with rfl | rfl | rfl
    · clear ha hb
      by_cases hz : a = 0
      · subst hz
        go_wp2
        exact ⟨⟨1, by omega, by simp, by omega, rfl⟩, by simp [intOf]⟩
      · have hn : (a != 0) = true := by simpa using hz
        go_wp2
        go_ret
        exact ⟨congrArg (fun x => Ending.returned (.int .i64 x)) (by unfold orI; rw [if_pos hz]), rfl⟩
    · have ha := ha (by omega)
      subst ha
      clear hb
      by_cases hz : b = 0
      · subst hz
        go_wp2
        exact ⟨⟨2, by omega, by simp, by simp, rfl⟩, by simp [intOf]⟩
      · have hn : (b != 0) = true := by simpa using hz
        go_wp2
        go_ret
        exact ⟨congrArg (fun x => Ending.returned (.int .i64 x)) (by unfold orI; rw [if_neg (by simp)]), rfl⟩
    · have ha := ha (by omega)
      have hb := hb (by omega)
      subst ha hb
      go_wp2
      go_ret
      exact ⟨rfl, rfl⟩


/-- A number that has room in 128 bits. -/
def W128 (v : Int) : Prop := -170141183460469231731687303715884105728 ≤ v ∧ v ≤ 170141183460469231731687303715884105727

set_option maxHeartbeats 2000000 in
theorem w_narrow (v : Int) (hv : W128 v) (w : World) :
    Calls Tryd.prog 34 #[.agg #[.int .i64 (whi v), .int .u64 (wlo v)]] w fun e w' => e = .returned (.tuple #[.int .i64 (fitN v).1, .int .i64 (fitN v).2]) ∧ Below w.heap.size w w' := by
  have bl := wlo_bd v
  have hw : IntKind.i64.wrap (wlo v) = wrap64 v := by rw [IntKind.wrap_i64]; unfold wlo wrap64; omega
  have bw : -9223372036854775808 ≤ wrap64 v ∧ wrap64 v ≤ 9223372036854775807 := by unfold wrap64; omega
  have hc := fun w => w_widen (wrap64 v) bw w
  have el : wlo (wrap64 v) = wlo v := (narrow_lo v).symm
  by_cases hr : room v = true
  · have e := wr_id (room_true.1 hr)
    have eh : whi (wrap64 v) = whi v := by rw [e]
    rw [el, eh] at hc
    have ef : fitN v = (wrap64 v, 0) := by unfold fitN; rw [if_pos hr, e]
    rw [ef]
    clear e ef eh el hr
    generalize whi v = a at *
    generalize wlo v = b at *
    generalize wrap64 v = n at *
    go_enter Tryd.func34, Tryd.ntmps34
    go_wp2
    go_region_with (go_at_call 32; (with_reducible refine (hc _).mono ?_); rintro e w1 ⟨rfl, hb1⟩; obtain ⟨hx, hf⟩ := bcell hb1; have hB : Below w.heap.size w w1 := bt b1.drew hb1)
    all_goals
      go_wp2
      go_ret2
      exact ⟨rfl, hB⟩
  · have hr' : room v = false := by simpa using hr
    have hne := narrow_no hv (room_false.1 hr')
    rw [el] at hc
    have ef : fitN v = (0, 11) := by unfold fitN; rw [if_neg hr]
    rw [ef]
    clear ef el hr hr'
    generalize whi v = a at *
    generalize wlo v = b at *
    generalize wrap64 v = n at *
    generalize whi n = a' at *
    have hn : (a == a') = false := by simpa using hne
    clear hne
    go_enter Tryd.func34, Tryd.ntmps34
    go_wp2
    go_region_with (go_at_call 32; (with_reducible refine (hc _).mono ?_); rintro e w1 ⟨rfl, hb1⟩; obtain ⟨hx, hf⟩ := bcell hb1; have hB : Below w.heap.size w w1 := bt b1.drew hb1)
    all_goals
      go_wp2
      go_ret2
      exact ⟨rfl, hB⟩
end Go.Proofs.YtfjoobopfjahcaaDoor
