/-
  The document's own memory: made. A contract that the proofs call; no statement is proved here.
-/
import Derived.Test.YtaihmcengecmiaaMemRefC
namespace Go.Proofs.Ytaihmcengecmiaa
open Go.RowKit Go.Maps
set_option linter.unusedVariables false
set_option linter.unusedSimpArgs false

set_option maxRecDepth 100000 in
set_option maxHeartbeats 2000000 in
theorem rnew_arg (least m : Int) (h1 : -9223372036854775808 ≤ least ∧ least ≤ 9223372036854775807) (h2 : -9223372036854775808 ≤ m ∧ m ≤ 9223372036854775807) (hno : least < 0 ∨ m < -1 ∨ m ≠ -1 ∧ m < least) (w : World) :
    Calls Try.prog 10 #[.int .i64 least, .int .i64 m] w fun e w' => e = .returned (.tuple #[.pointer none, .int .i64 1]) ∧ w = w' := by
  obtain ⟨p1, p2⟩ := h1
  obtain ⟨p3, p4⟩ := h2
  by_cases g1 : least < 0
  · clear hno
    go_enter Try.func10, Try.ntmps10
    go_wp2
    go_ret2
    exact ⟨rfl, rfl⟩
  by_cases g2 : m < -1
  · clear hno
    go_enter Try.func10, Try.ntmps10
    go_wp2
    go_ret2
    exact ⟨rfl, rfl⟩
  have g3 : ¬ m = -1 := by omega
  have g4 : m < least := by omega
  clear hno
  go_enter Try.func10, Try.ntmps10
  go_wp2
  go_ret2
  exact ⟨rfl, rfl⟩
set_option maxRecDepth 100000 in
set_option maxHeartbeats 2000000 in
theorem rnew_room (least m : Int) (h1 : -9223372036854775808 ≤ least ∧ least ≤ 9223372036854775807) (h2 : -9223372036854775808 ≤ m ∧ m ≤ 9223372036854775807) (g1 : 0 ≤ least) (g2 : m = -1 ∨ 0 ≤ m ∧ least ≤ m) (g3 : 256 < least) (w : World) :
    Calls Try.prog 10 #[.int .i64 least, .int .i64 m] w fun e w' => e = .returned (.tuple #[.pointer none, .int .i64 12]) ∧ w = w' := by
  obtain ⟨p1, p2⟩ := h1
  obtain ⟨p3, p4⟩ := h2
  rcases g2 with g2 | ⟨g2, g4⟩
  · subst g2
    go_enter Try.func10, Try.ntmps10
    go_wp2
    go_ret2
    exact ⟨rfl, rfl⟩
  · go_enter Try.func10, Try.ntmps10
    go_wp2
    go_ret2
    exact ⟨rfl, rfl⟩
theorem made_at (c i : Nat) (h : i < c) : (madeCells #[.int .u8 0] c)[i]? = some (.int .u8 0) := by
  simp [madeCells, h, Nat.mod_one]
set_option maxRecDepth 100000 in
set_option maxHeartbeats 2000000 in
theorem rnew_is (least : Nat) (m : Int) (h2 : -9223372036854775808 ≤ m ∧ m ≤ 9223372036854775807) (g2 : m = -1 ∨ 0 ≤ m ∧ (least : Int) ≤ m) (g3 : least ≤ 6) (w : World) :
    Calls Try.prog 10 #[.int .i64 least, .int .i64 m] w fun e w' => ∃ b O, e = .returned (.tuple #[.pointer (some ⟨b, 0, none⟩), .int .i64 0]) ∧ RefAt O w.heap.size b least m (fun _ => 0) w' ∧ Below w.heap.size w w' := by
  obtain ⟨i0, hi, hz0, hz1, hz2⟩ := info_parts (P := Try.prog) (e := 5) (z := .int .u8 0) (size := 1) (bytes := 1) (by kernel_rfl)
  have hrun := run_make (P := Try.prog) w 38 5 i0 (.int .u8 0) Try.underlying38 hi hz0 .i64 .i64 ((least : Int) * 65536) ((least : Int) * 65536) (by omega) (Int.le_refl _) (by rw [hz2]; omega) (by omega)
  obtain ⟨N, hN⟩ : ∃ N : Nat, N = least * 65536 := ⟨_, rfl⟩
  have e1 : ((least : Int) * 65536).toNat = N := by omega
  rw [e1, hz1, Nat.mul_one] at hrun
  have hzc : (Value.int .u8 0).cells = #[.int .u8 0] := rfl
  rw [hzc] at hrun
  have hfin : RefAt (fun k => k = w.heap.size ∨ k = w.heap.size + 1) w.heap.size (w.heap.size + 1) least m (fun _ => 0) ((w.alloc (.cells (madeCells #[.int .u8 0] N) 5)).alloc (.cells #[.slice (some ⟨w.heap.size, 0, none⟩) N N, .int .i64 m] 58)) := by
    have s1 : (w.alloc (.cells (madeCells #[.int .u8 0] N) 5)).heap.size = w.heap.size + 1 := by simp
    have s2 : ((w.alloc (.cells (madeCells #[.int .u8 0] N) 5)).alloc (.cells #[.slice (some ⟨w.heap.size, 0, none⟩) N N, .int .i64 m] 58)).heap.size = w.heap.size + 1 + 1 := by simp
    refine ⟨w.heap.size, N, madeCells #[.int .u8 0] N, ?_, ?_, size_madeCells _ _, Nat.le_of_eq hN.symm, by unfold maxLen; omega, fun i hi => ?_, fun _ _ => rfl, by omega, .inr rfl, .inl rfl, fun k hk => ?_⟩
    · rw [← hN, ← s1]
      exact heap_alloc_new _ _
    · rw [Below.heap_alloc _ _ _ (by omega)]
      exact heap_alloc_new _ _
    · rw [made_at _ _ (by omega)]
      rfl
    · rw [s2]
      rcases hk with rfl | rfl <;> omega
  have HF := Lib.hid hfin
  have HR := Lib.hid hrun
  clear hfin hi hz0 hz1 hz2 hN hzc
  have hb : Below w.heap.size w ((w.alloc (.cells (madeCells #[.int .u8 0] N) 5)).alloc (.cells #[.slice (some ⟨w.heap.size, 0, none⟩) N N, .int .i64 m] 58)) := ((Below.refl _ _).alloc (Nat.le_refl _) _).alloc (by simp) _
  obtain ⟨p3, p4⟩ := h2
  have hl : (least : Int) ≤ 6 := by omega
  rcases g2 with g2 | ⟨g2, g4⟩
  · subst g2
    clear e1
    go_enter Try.func10, Try.ntmps10
    go_wp2
    go_ret2
    exact ⟨_, _, rfl, HF.out, hb⟩
  · clear e1
    have hml : ¬ m < least := by omega
    go_enter Try.func10, Try.ntmps10
    go_wp2
    go_ret2
    exact ⟨_, rfl, ⟨_, HF.out⟩, hb⟩
end Go.Proofs.Ytaihmcengecmiaa
