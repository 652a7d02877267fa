/-
  Package value's numbers of 128 bits, walked: a number that has room there is held by its halves. Contracts that the proofs call; no statement is proved here.
-/
import Derived.Shelf.Spec.BitsCarry
import Derived.Lib.BitFns
import Derived.WalkArith
import Derived.RegionTactic
import Derived.ChangeAlike
import Derived.BigRegion
import Derived.Test.YtfjoobopfjahcaaDoorVuTy
import Derived.Test.YtfjoobopfjahcaaDoorVuShelf
import Derived.Test.YtfjoobopfjahcaaDoorVuOr
namespace Go.Proofs.YtfjoobopfjahcaaDoor
open Go.RowKit

theorem wr_add (x y : Int) : wrap64 (wrap64 x + wrap64 y) = wrap64 (x + y) := by unfold wrap64; omega
theorem wr_add0 (x y : Int) : wrap64 (wrap64 x + y) = wrap64 (x + y) := by unfold wrap64; omega
theorem wr_sub0 (x y : Int) : wrap64 (wrap64 x - y) = wrap64 (x - y) := by unfold wrap64; omega
theorem wr_id {x : Int} (h : -9223372036854775808 ≤ x ∧ x ≤ 9223372036854775807) : wrap64 x = x := by unfold wrap64; omega

theorem run_add (x y : Int) (hx : 0 ≤ x ∧ x ≤ 18446744073709551615) (hy : 0 ≤ y ∧ y ≤ 18446744073709551615) (w : World) :
    (callFunc 64 #[.int .u64 x, .int .u64 y, .int .u64 0]).run Tryd.prog w = .ok (.value (.tuple #[.int .u64 ((x + y) % 18446744073709551616), .int .u64 ((x + y) / 18446744073709551616)])) w := by
  obtain ⟨a, rfl⟩ : ∃ a : Nat, x = a := ⟨x.toNat, by omega⟩
  obtain ⟨b, rfl⟩ : ∃ b : Nat, y = b := ⟨y.toNat, by omega⟩
  have h := run_callFunc_extern (P := Tryd.prog) Tryd.func64 (by kernel_rfl) (by kernel_rfl) (by kernel_rfl) (e := add64Entry) (by kernel_rfl) (args := #[.int .u64 a, .int .u64 b, .int .u64 0]) (w := w)
  rw [run_add64 a b 0 (by omega) (by omega) (by omega) (by omega)] at h
  simp only [Result.andThen] at h
  refine h.trans ?_
  congr 5 <;> omega
theorem run_sub (x y : Int) (hx : 0 ≤ x ∧ x ≤ 18446744073709551615) (hy : 0 ≤ y ∧ y ≤ 18446744073709551615) (w : World) :
    (callFunc 77 #[.int .u64 x, .int .u64 y, .int .u64 0]).run Tryd.prog w = .ok (.value (.tuple #[.int .u64 ((x - y) % 18446744073709551616), .int .u64 (if x < y then 1 else 0)])) w := by
  obtain ⟨a, rfl⟩ : ∃ a : Nat, x = a := ⟨x.toNat, by omega⟩
  obtain ⟨b, rfl⟩ : ∃ b : Nat, y = b := ⟨y.toNat, by omega⟩
  have h := run_callFunc_extern (P := Tryd.prog) Tryd.func77 (by kernel_rfl) (by kernel_rfl) (by kernel_rfl) (e := sub64Entry) (by kernel_rfl) (args := #[.int .u64 a, .int .u64 b, .int .u64 (0 : Nat)]) (w := w)
  rw [run_sub64 a b 0 (by omega) w] at h
  simp only [Result.andThen] at h
  refine h.trans ?_
  have e1 : (((a + 18446744073709551616 - b - 0) % 18446744073709551616 : Nat) : Int) = ((a : Int) - b) % 18446744073709551616 := by omega
  have e2 : ((if a < b + 0 then 1 else 0 : Nat) : Int) = if (a : Int) < b then 1 else 0 := by split <;> split <;> omega
  rw [e1, e2]

theorem shr63 (n : Int) (h : -9223372036854775808 ≤ n ∧ n ≤ 9223372036854775807) : n / 9223372036854775808 = whi n := by unfold whi wrap64; omega

set_option maxHeartbeats 1000000 in
theorem w_widen (n : Int) (h : -9223372036854775808 ≤ n ∧ n ≤ 9223372036854775807) (w : World) :
    Calls Tryd.prog 32 #[.int .i64 n] w fun e w' => e = .returned (.agg #[.int .i64 (whi n), .int .u64 (wlo n)]) ∧ Below w.heap.size w w' := by
  go_enter Tryd.func32, Tryd.ntmps32
  go_wp2
  refine bodyPost_ret (v := .agg #[.int .i64 _, .int .u64 _]) ?_ rfl ⟨rfl, ?_⟩
  · rw [results_cell rfl]; go_simp
    exact ⟨shr63 n h, IntKind.wrap_u64 n⟩
  · exact b1

set_option maxHeartbeats 1000000 in
theorem w_plus (a b : Int) (w : World) :
    Calls Tryd.prog 46 #[.agg #[.int .i64 (whi a), .int .u64 (wlo a)], .agg #[.int .i64 (whi b), .int .u64 (wlo b)]] w fun e w' => e = .returned (.agg #[.int .i64 (whi (a + b)), .int .u64 (wlo (a + b))]) ∧ Below w.heap.size w w' := by
  have hr := run_add (wlo a) (wlo b) (wlo_bd a) (wlo_bd b)
  have e1 := plus_lo a b
  have e2 := plus_hi a b
  rw [e1] at hr
  have ba := whi_bd a
  have bb := whi_bd b
  have bc : 0 ≤ (wlo a + wlo b) / 18446744073709551616 ∧ (wlo a + wlo b) / 18446744073709551616 ≤ 1 := by have := wlo_bd a; have := wlo_bd b; omega
  generalize whi a = A at *
  generalize whi b = B at *
  generalize (wlo a + wlo b) / 18446744073709551616 = c at *
  generalize wlo a = a0 at *
  generalize wlo b = b0 at *
  have E2 := Lib.hid e2
  clear e2 e1
  go_enter Tryd.func46, Tryd.ntmps46
  go_wp2
  refine bodyPost_ret (v := .agg #[.int .i64 _, .int .u64 _]) ?_ rfl ⟨rfl, ?_⟩
  · rw [results_cell rfl]; go_simp
    rw [wr_add0]; exact E2.out
  · exact b3

set_option maxHeartbeats 1000000 in
theorem w_minus (a b : Int) (w : World) :
    Calls Tryd.prog 59 #[.agg #[.int .i64 (whi a), .int .u64 (wlo a)], .agg #[.int .i64 (whi b), .int .u64 (wlo b)]] w fun e w' => e = .returned (.agg #[.int .i64 (whi (a - b)), .int .u64 (wlo (a - b))]) ∧ Below w.heap.size w w' := by
  have hr := run_sub (wlo a) (wlo b) (wlo_bd a) (wlo_bd b)
  have e1 := minus_lo a b
  have e2 := minus_hi a b
  rw [e1] at hr
  have ba := whi_bd a
  have bb := whi_bd b
  have bc : 0 ≤ (if wlo a < wlo b then 1 else 0 : Int) ∧ (if wlo a < wlo b then 1 else 0 : Int) ≤ 1 := by have := wlo_bd a; have := wlo_bd b; split <;> omega
  generalize whi a = A at *
  generalize whi b = B at *
  generalize (if wlo a < wlo b then 1 else 0 : Int) = c at *
  generalize wlo a = a0 at *
  generalize wlo b = b0 at *
  have E2 := Lib.hid e2
  clear e2 e1
  go_enter Tryd.func59, Tryd.ntmps59
  go_wp2
  refine bodyPost_ret (v := .agg #[.int .i64 _, .int .u64 _]) ?_ rfl ⟨rfl, ?_⟩
  · rw [results_cell rfl]; go_simp
    rw [wr_sub0]; exact E2.out
  · exact b3

set_option maxHeartbeats 2000000 in
theorem w_left1 (a : Int) (w : World) :
    Calls Tryd.prog 45 #[.agg #[.int .i64 (whi a), .int .u64 (wlo a)], .int .i64 1] w fun e w' => e = .returned (.agg #[.int .i64 (whi (a * 2)), .int .u64 (wlo (a * 2))]) ∧ Below w.heap.size w w' := by
  have e1 := left1_lo a
  have e2 := left1_hi a
  have ba := whi_bd a
  have bl := wlo_bd a
  go_enter Tryd.func45, Tryd.ntmps45
  go_wp2
  go_region
  go_wp2
  refine bodyPost_ret (v := .agg #[.int .i64 _, .int .u64 _]) ?_ rfl ⟨rfl, ?_⟩
  · rw [results_cell rfl]; go_simp
    refine ⟨?_, (IntKind.wrap_u64 _).trans e1⟩
    rw [or_low 1 (by omega) _ _ (by omega) (by omega) (by unfold wrap64; omega)]
    have := whi_bd (a * 2)
    unfold wrap64 at *
    omega
  · exact b2.drew

set_option maxHeartbeats 2000000 in
theorem w_left3 (a : Int) (w : World) :
    Calls Tryd.prog 45 #[.agg #[.int .i64 (whi a), .int .u64 (wlo a)], .int .i64 3] w fun e w' => e = .returned (.agg #[.int .i64 (whi (a * 8)), .int .u64 (wlo (a * 8))]) ∧ Below w.heap.size w w' := by
  have e1 := left3_lo a
  have e2 := left3_hi a
  have ba := whi_bd a
  have bl := wlo_bd a
  go_enter Tryd.func45, Tryd.ntmps45
  go_wp2
  go_region
  go_wp2
  refine bodyPost_ret (v := .agg #[.int .i64 _, .int .u64 _]) ?_ rfl ⟨rfl, ?_⟩
  · rw [results_cell rfl]; go_simp
    refine ⟨?_, (IntKind.wrap_u64 _).trans e1⟩
    rw [or_low 3 (by omega) _ _ (by omega) (by omega) (by unfold wrap64; omega)]
    have := whi_bd (a * 8)
    unfold wrap64 at *
    omega
  · exact b2.drew
end Go.Proofs.YtfjoobopfjahcaaDoor
