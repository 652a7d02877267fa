/-
  The document's own answer to chapter 2: operations of two numbers of 64 bits; walked. Contracts that the proofs call; no statement is proved here.
-/
import Derived.Test.YtfbgejgapdpjcaaDoorNumRefOne
namespace Go.Proofs.YtfbgejgapdpjcaaDoor
open Go.RowKit
set_option linter.unusedVariables false

set_option maxRecDepth 100000 in
set_option maxHeartbeats 2000000 in
theorem ref_two_t64 (op a b : Int) (ha0 : 0 ≤ a) (ha1 : a ≤ 18446744073709551615) (hb0 : 0 ≤ b) (hb1 : b ≤ 18446744073709551615) (h0 : 81 ≤ op) (h1 : op ≤ 90) (w : World) :
    Calls Tryd.prog 17 #[.int .i64 op, .int .u64 a, .int .u64 b] w fun e w' => e = .returned (.tuple #[.int .u64 (twoK (op - 81) 64 a b).1, .int .i64 (twoK (op - 81) 64 a b).2]) ∧ w = w' := by
  have cu : ∀ x : Int, 0 ≤ x → ∀ w, Calls Tryd.prog 22 #[.int .u64 x, .int .i64 64] w fun e w' => e = .returned (.int .u64 x) ∧ w = w' := fun x _ w => num_cut64 x w
  have ha : 0 ≤ a ∧ a < 18446744073709551616 := by omega
  have hb : 0 ≤ b ∧ b < 18446744073709551616 := by omega
  have ct : ∀ w, Calls Tryd.prog 30 #[.int .i64 (op - 81), .int .u64 a, .int .u64 b, .int .i64 64] w fun e w' => e = .returned (.bool (tst (op - 81) 64 a b)) ∧ w = w' :=
    num_test (op - 81) 64 a b (by decide) (by omega) (by omega) ha.1 ha.2 hb.1 hb.2
  go_enter Tryd.func17, Tryd.ntmps17
  go_wp2_with (first
  | (go_at_call 22; (with_reducible refine (cu _ (by omega) _).mono ?_); rintro e w' ⟨rfl, rfl⟩)
  | (go_at_call 30; (with_reducible refine (ct _).mono ?_); rintro e w' ⟨rfl, rfl⟩)
  | (go_at_call 21; (with_reducible refine (num_truth _ _).mono ?_); rintro e w' ⟨rfl, rfl⟩))
  go_ret2
  exact ⟨ret_two (by unfold twoK; rw [if_pos (by omega)] <;> rfl), rfl⟩

set_option maxRecDepth 100000 in
set_option maxHeartbeats 2000000 in
theorem ref_two_64_10 (a b : Int) (ha0 : 0 ≤ a) (ha1 : a ≤ 18446744073709551615) (hb0 : 0 ≤ b) (hb1 : b ≤ 18446744073709551615) (w : World) :
    Calls Tryd.prog 17 #[.int .i64 124, .int .u64 a, .int .u64 b] w fun e w' => e = .returned (.tuple #[.int .u64 (twoK 10 64 a b).1, .int .i64 (twoK 10 64 a b).2]) ∧ w = w' := by
  have cu : ∀ x : Int, 0 ≤ x → ∀ w, Calls Tryd.prog 22 #[.int .u64 x, .int .i64 64] w fun e w' => e = .returned (.int .u64 x) ∧ w = w' := fun x _ w => num_cut64 x w
  have ha : 0 ≤ a ∧ a < 18446744073709551616 := by omega
  have hb : 0 ≤ b ∧ b < 18446744073709551616 := by omega
  have hw := IntKind.wrap_u64 (a + b)
  go_enter Tryd.func17, Tryd.ntmps17
  go_wp2_with (first
    | (go_at_call 22; (with_reducible refine (cu _ (by omega) _).mono ?_); rintro e w' ⟨rfl, rfl⟩))
  go_ret2
  exact ⟨ret_two (by show ((a + b) % 2 ^ 64, (0 : Int)) = _; first | rfl | (congr 1; omega)), rfl⟩

set_option maxRecDepth 100000 in
set_option maxHeartbeats 2000000 in
theorem ref_two_64_11 (a b : Int) (ha0 : 0 ≤ a) (ha1 : a ≤ 18446744073709551615) (hb0 : 0 ≤ b) (hb1 : b ≤ 18446744073709551615) (w : World) :
    Calls Tryd.prog 17 #[.int .i64 125, .int .u64 a, .int .u64 b] w fun e w' => e = .returned (.tuple #[.int .u64 (twoK 11 64 a b).1, .int .i64 (twoK 11 64 a b).2]) ∧ w = w' := by
  have cu : ∀ x : Int, 0 ≤ x → ∀ w, Calls Tryd.prog 22 #[.int .u64 x, .int .i64 64] w fun e w' => e = .returned (.int .u64 x) ∧ w = w' := fun x _ w => num_cut64 x w
  have ha : 0 ≤ a ∧ a < 18446744073709551616 := by omega
  have hb : 0 ≤ b ∧ b < 18446744073709551616 := by omega
  have hw := IntKind.wrap_u64 (a - b)
  go_enter Tryd.func17, Tryd.ntmps17
  go_wp2_with (first
    | (go_at_call 22; (with_reducible refine (cu _ (by omega) _).mono ?_); rintro e w' ⟨rfl, rfl⟩))
  go_ret2
  exact ⟨ret_two (by show ((a - b) % 2 ^ 64, (0 : Int)) = _; first | rfl | exact congrArg (fun n => (n, (0 : Int))) (cut_cut (bs := 64) (by decide) _).symm | (rw [Prod.mk.injEq]; exact ⟨by omega, rfl⟩)), rfl⟩

set_option maxRecDepth 100000 in
set_option maxHeartbeats 2000000 in
theorem ref_two_64_12 (a b : Int) (ha0 : 0 ≤ a) (ha1 : a ≤ 18446744073709551615) (hb0 : 0 ≤ b) (hb1 : b ≤ 18446744073709551615) (w : World) :
    Calls Tryd.prog 17 #[.int .i64 126, .int .u64 a, .int .u64 b] w fun e w' => e = .returned (.tuple #[.int .u64 (twoK 12 64 a b).1, .int .i64 (twoK 12 64 a b).2]) ∧ w = w' := by
  have cu : ∀ x : Int, 0 ≤ x → ∀ w, Calls Tryd.prog 22 #[.int .u64 x, .int .i64 64] w fun e w' => e = .returned (.int .u64 x) ∧ w = w' := fun x _ w => num_cut64 x w
  have ha : 0 ≤ a ∧ a < 18446744073709551616 := by omega
  have hb : 0 ≤ b ∧ b < 18446744073709551616 := by omega
  have hw := IntKind.wrap_u64 (a * b)
  go_enter Tryd.func17, Tryd.ntmps17
  go_wp2_with (first
    | (go_at_call 22; (with_reducible refine (cu _ (by omega) _).mono ?_); rintro e w' ⟨rfl, rfl⟩))
  go_ret2
  exact ⟨ret_two (by show (a * b % 2 ^ 64, (0 : Int)) = _; first | rfl | exact congrArg (fun n => (n, (0 : Int))) (cut_cut (bs := 64) (by decide) _).symm | (rw [Prod.mk.injEq]; exact ⟨by omega, rfl⟩)), rfl⟩

set_option maxRecDepth 100000 in
set_option maxHeartbeats 2000000 in
theorem ref_two_64_13 (a b : Int) (ha0 : 0 ≤ a) (ha1 : a ≤ 18446744073709551615) (hb0 : 0 ≤ b) (hb1 : b ≤ 18446744073709551615) (w : World) :
    Calls Tryd.prog 17 #[.int .i64 127, .int .u64 a, .int .u64 b] w fun e w' => e = .returned (.tuple #[.int .u64 (twoK 13 64 a b).1, .int .i64 (twoK 13 64 a b).2]) ∧ w = w' := by
  have cu : ∀ x : Int, 0 ≤ x → ∀ w, Calls Tryd.prog 22 #[.int .u64 x, .int .i64 64] w fun e w' => e = .returned (.int .u64 x) ∧ w = w' := fun x _ w => num_cut64 x w
  have ha : 0 ≤ a ∧ a < 18446744073709551616 := by omega
  have hb : 0 ≤ b ∧ b < 18446744073709551616 := by omega
  have cd : ∀ w, Calls Tryd.prog 32 #[.int .i64 0, .int .u64 a, .int .u64 b, .int .i64 64] w fun e w' => e = .returned (.tuple #[.int .u64 (dvdRaw 0 64 a b).1, .bool (dvdRaw 0 64 a b).2]) ∧ w = w' :=
    num_div0_64 a b ha.1 ha.2 hb.1 hb.2
  have hr := dvd_raw (kind := 0) (bs := 64) (a := a) (b := b) (by decide) ha.1 ha.2 hb.1 hb.2
  have h0 : 0 ≤ (dvdRaw 0 64 a b).1 ∧ (dvdRaw 0 64 a b).1 < 18446744073709551616 := dvdRaw_bd ha.1 ha.2 hb.1 hb.2 (by decide)
  have HR : Hid (twoK 13 64 a b = dvd 0 64 a b) := Lib.hid rfl
  generalize dvdRaw 0 64 a b = r at cd hr h0
  obtain ⟨n, ok⟩ := r
  have HR2 := Lib.hid hr
  clear hr
  simp only at cd h0
  cases ok
  · go_enter Tryd.func17, Tryd.ntmps17
    go_wp2_with (first
      | (go_at_call 22; (with_reducible refine (cu _ (by omega) _).mono ?_); rintro e w' ⟨rfl, rfl⟩)
      | (go_at_call 32; (with_reducible refine (cd _).mono ?_); rintro e w' ⟨rfl, rfl⟩))
    go_ret2
    exact ⟨ret_two (by rw [HR.out, HR2.out]; rfl), rfl⟩
  · go_enter Tryd.func17, Tryd.ntmps17
    go_wp2_with (first
      | (go_at_call 22; (with_reducible refine (cu _ (by omega) _).mono ?_); rintro e w' ⟨rfl, rfl⟩)
      | (go_at_call 32; (with_reducible refine (cd _).mono ?_); rintro e w' ⟨rfl, rfl⟩))
    go_ret2
    exact ⟨ret_two (by rw [HR.out, HR2.out]; first | rfl | (simp; omega)), rfl⟩

set_option maxRecDepth 100000 in
set_option maxHeartbeats 2000000 in
theorem ref_two_64_14 (a b : Int) (ha0 : 0 ≤ a) (ha1 : a ≤ 18446744073709551615) (hb0 : 0 ≤ b) (hb1 : b ≤ 18446744073709551615) (w : World) :
    Calls Tryd.prog 17 #[.int .i64 128, .int .u64 a, .int .u64 b] w fun e w' => e = .returned (.tuple #[.int .u64 (twoK 14 64 a b).1, .int .i64 (twoK 14 64 a b).2]) ∧ w = w' := by
  have cu : ∀ x : Int, 0 ≤ x → ∀ w, Calls Tryd.prog 22 #[.int .u64 x, .int .i64 64] w fun e w' => e = .returned (.int .u64 x) ∧ w = w' := fun x _ w => num_cut64 x w
  have ha : 0 ≤ a ∧ a < 18446744073709551616 := by omega
  have hb : 0 ≤ b ∧ b < 18446744073709551616 := by omega
  have cd : ∀ w, Calls Tryd.prog 32 #[.int .i64 1, .int .u64 a, .int .u64 b, .int .i64 64] w fun e w' => e = .returned (.tuple #[.int .u64 (dvdRaw 1 64 a b).1, .bool (dvdRaw 1 64 a b).2]) ∧ w = w' :=
    num_div1_64 a b ha.1 ha.2 hb.1 hb.2
  have hr := dvd_raw (kind := 1) (bs := 64) (a := a) (b := b) (by decide) ha.1 ha.2 hb.1 hb.2
  have h0 : 0 ≤ (dvdRaw 1 64 a b).1 ∧ (dvdRaw 1 64 a b).1 < 18446744073709551616 := dvdRaw_bd ha.1 ha.2 hb.1 hb.2 (by decide)
  have HR : Hid (twoK 14 64 a b = dvd 1 64 a b) := Lib.hid rfl
  generalize dvdRaw 1 64 a b = r at cd hr h0
  obtain ⟨n, ok⟩ := r
  have HR2 := Lib.hid hr
  clear hr
  simp only at cd h0
  cases ok
  · go_enter Tryd.func17, Tryd.ntmps17
    go_wp2_with (first
      | (go_at_call 22; (with_reducible refine (cu _ (by omega) _).mono ?_); rintro e w' ⟨rfl, rfl⟩)
      | (go_at_call 32; (with_reducible refine (cd _).mono ?_); rintro e w' ⟨rfl, rfl⟩))
    go_ret2
    exact ⟨ret_two (by rw [HR.out, HR2.out]; rfl), rfl⟩
  · go_enter Tryd.func17, Tryd.ntmps17
    go_wp2_with (first
      | (go_at_call 22; (with_reducible refine (cu _ (by omega) _).mono ?_); rintro e w' ⟨rfl, rfl⟩)
      | (go_at_call 32; (with_reducible refine (cd _).mono ?_); rintro e w' ⟨rfl, rfl⟩))
    go_ret2
    exact ⟨ret_two (by rw [HR.out, HR2.out]; first | rfl | (simp; omega)), rfl⟩

set_option maxRecDepth 100000 in
set_option maxHeartbeats 2000000 in
theorem ref_two_64_15 (a b : Int) (ha0 : 0 ≤ a) (ha1 : a ≤ 18446744073709551615) (hb0 : 0 ≤ b) (hb1 : b ≤ 18446744073709551615) (w : World) :
    Calls Tryd.prog 17 #[.int .i64 129, .int .u64 a, .int .u64 b] w fun e w' => e = .returned (.tuple #[.int .u64 (twoK 15 64 a b).1, .int .i64 (twoK 15 64 a b).2]) ∧ w = w' := by
  have cu : ∀ x : Int, 0 ≤ x → ∀ w, Calls Tryd.prog 22 #[.int .u64 x, .int .i64 64] w fun e w' => e = .returned (.int .u64 x) ∧ w = w' := fun x _ w => num_cut64 x w
  have ha : 0 ≤ a ∧ a < 18446744073709551616 := by omega
  have hb : 0 ≤ b ∧ b < 18446744073709551616 := by omega
  have cd : ∀ w, Calls Tryd.prog 32 #[.int .i64 2, .int .u64 a, .int .u64 b, .int .i64 64] w fun e w' => e = .returned (.tuple #[.int .u64 (dvdRaw 2 64 a b).1, .bool (dvdRaw 2 64 a b).2]) ∧ w = w' :=
    num_div2_64 a b ha.1 ha.2 hb.1 hb.2
  have hr := dvd_raw (kind := 2) (bs := 64) (a := a) (b := b) (by decide) ha.1 ha.2 hb.1 hb.2
  have h0 : 0 ≤ (dvdRaw 2 64 a b).1 ∧ (dvdRaw 2 64 a b).1 < 18446744073709551616 := dvdRaw_bd ha.1 ha.2 hb.1 hb.2 (by decide)
  have HR : Hid (twoK 15 64 a b = dvd 2 64 a b) := Lib.hid rfl
  generalize dvdRaw 2 64 a b = r at cd hr h0
  obtain ⟨n, ok⟩ := r
  have HR2 := Lib.hid hr
  clear hr
  simp only at cd h0
  cases ok
  · go_enter Tryd.func17, Tryd.ntmps17
    go_wp2_with (first
      | (go_at_call 22; (with_reducible refine (cu _ (by omega) _).mono ?_); rintro e w' ⟨rfl, rfl⟩)
      | (go_at_call 32; (with_reducible refine (cd _).mono ?_); rintro e w' ⟨rfl, rfl⟩))
    go_ret2
    exact ⟨ret_two (by rw [HR.out, HR2.out]; rfl), rfl⟩
  · go_enter Tryd.func17, Tryd.ntmps17
    go_wp2_with (first
      | (go_at_call 22; (with_reducible refine (cu _ (by omega) _).mono ?_); rintro e w' ⟨rfl, rfl⟩)
      | (go_at_call 32; (with_reducible refine (cd _).mono ?_); rintro e w' ⟨rfl, rfl⟩))
    go_ret2
    exact ⟨ret_two (by rw [HR.out, HR2.out]; first | rfl | (simp; omega)), rfl⟩

set_option maxRecDepth 100000 in
set_option maxHeartbeats 2000000 in
theorem ref_two_64_16 (a b : Int) (ha0 : 0 ≤ a) (ha1 : a ≤ 18446744073709551615) (hb0 : 0 ≤ b) (hb1 : b ≤ 18446744073709551615) (w : World) :
    Calls Tryd.prog 17 #[.int .i64 130, .int .u64 a, .int .u64 b] w fun e w' => e = .returned (.tuple #[.int .u64 (twoK 16 64 a b).1, .int .i64 (twoK 16 64 a b).2]) ∧ w = w' := by
  have cu : ∀ x : Int, 0 ≤ x → ∀ w, Calls Tryd.prog 22 #[.int .u64 x, .int .i64 64] w fun e w' => e = .returned (.int .u64 x) ∧ w = w' := fun x _ w => num_cut64 x w
  have ha : 0 ≤ a ∧ a < 18446744073709551616 := by omega
  have hb : 0 ≤ b ∧ b < 18446744073709551616 := by omega
  have cd : ∀ w, Calls Tryd.prog 32 #[.int .i64 3, .int .u64 a, .int .u64 b, .int .i64 64] w fun e w' => e = .returned (.tuple #[.int .u64 (dvdRaw 3 64 a b).1, .bool (dvdRaw 3 64 a b).2]) ∧ w = w' :=
    num_div3_64 a b ha.1 ha.2 hb.1 hb.2
  have hr := dvd_raw (kind := 3) (bs := 64) (a := a) (b := b) (by decide) ha.1 ha.2 hb.1 hb.2
  have h0 : 0 ≤ (dvdRaw 3 64 a b).1 ∧ (dvdRaw 3 64 a b).1 < 18446744073709551616 := dvdRaw_bd ha.1 ha.2 hb.1 hb.2 (by decide)
  have HR : Hid (twoK 16 64 a b = dvd 3 64 a b) := Lib.hid rfl
  generalize dvdRaw 3 64 a b = r at cd hr h0
  obtain ⟨n, ok⟩ := r
  have HR2 := Lib.hid hr
  clear hr
  simp only at cd h0
  cases ok
  · go_enter Tryd.func17, Tryd.ntmps17
    go_wp2_with (first
      | (go_at_call 22; (with_reducible refine (cu _ (by omega) _).mono ?_); rintro e w' ⟨rfl, rfl⟩)
      | (go_at_call 32; (with_reducible refine (cd _).mono ?_); rintro e w' ⟨rfl, rfl⟩))
    go_ret2
    exact ⟨ret_two (by rw [HR.out, HR2.out]; rfl), rfl⟩
  · go_enter Tryd.func17, Tryd.ntmps17
    go_wp2_with (first
      | (go_at_call 22; (with_reducible refine (cu _ (by omega) _).mono ?_); rintro e w' ⟨rfl, rfl⟩)
      | (go_at_call 32; (with_reducible refine (cd _).mono ?_); rintro e w' ⟨rfl, rfl⟩))
    go_ret2
    exact ⟨ret_two (by rw [HR.out, HR2.out]; first | rfl | (simp; omega)), rfl⟩

set_option maxRecDepth 100000 in
set_option maxHeartbeats 2000000 in
theorem ref_two_64_17 (a b : Int) (ha0 : 0 ≤ a) (ha1 : a ≤ 18446744073709551615) (hb0 : 0 ≤ b) (hb1 : b ≤ 18446744073709551615) (w : World) :
    Calls Tryd.prog 17 #[.int .i64 131, .int .u64 a, .int .u64 b] w fun e w' => e = .returned (.tuple #[.int .u64 (twoK 17 64 a b).1, .int .i64 (twoK 17 64 a b).2]) ∧ w = w' := by
  have cu : ∀ x : Int, 0 ≤ x → ∀ w, Calls Tryd.prog 22 #[.int .u64 x, .int .i64 64] w fun e w' => e = .returned (.int .u64 x) ∧ w = w' := fun x _ w => num_cut64 x w
  have ha : 0 ≤ a ∧ a < 18446744073709551616 := by omega
  have hb : 0 ≤ b ∧ b < 18446744073709551616 := by omega
  go_enter Tryd.func17, Tryd.ntmps17
  go_wp2_with (first
    | (go_at_call 22; (with_reducible refine (cu _ (by omega) _).mono ?_); rintro e w' ⟨rfl, rfl⟩))
  go_ret2
  exact ⟨ret_two (rfl), rfl⟩

set_option maxRecDepth 100000 in
set_option maxHeartbeats 2000000 in
theorem ref_two_64_18 (a b : Int) (ha0 : 0 ≤ a) (ha1 : a ≤ 18446744073709551615) (hb0 : 0 ≤ b) (hb1 : b ≤ 18446744073709551615) (w : World) :
    Calls Tryd.prog 17 #[.int .i64 132, .int .u64 a, .int .u64 b] w fun e w' => e = .returned (.tuple #[.int .u64 (twoK 18 64 a b).1, .int .i64 (twoK 18 64 a b).2]) ∧ w = w' := by
  have cu : ∀ x : Int, 0 ≤ x → ∀ w, Calls Tryd.prog 22 #[.int .u64 x, .int .i64 64] w fun e w' => e = .returned (.int .u64 x) ∧ w = w' := fun x _ w => num_cut64 x w
  have ha : 0 ≤ a ∧ a < 18446744073709551616 := by omega
  have hb : 0 ≤ b ∧ b < 18446744073709551616 := by omega
  go_enter Tryd.func17, Tryd.ntmps17
  go_wp2_with (first
    | (go_at_call 22; (with_reducible refine (cu _ (by omega) _).mono ?_); rintro e w' ⟨rfl, rfl⟩))
  go_ret2
  exact ⟨ret_two (rfl), rfl⟩

set_option maxRecDepth 100000 in
set_option maxHeartbeats 2000000 in
theorem ref_two_64_19 (a b : Int) (ha0 : 0 ≤ a) (ha1 : a ≤ 18446744073709551615) (hb0 : 0 ≤ b) (hb1 : b ≤ 18446744073709551615) (w : World) :
    Calls Tryd.prog 17 #[.int .i64 133, .int .u64 a, .int .u64 b] w fun e w' => e = .returned (.tuple #[.int .u64 (twoK 19 64 a b).1, .int .i64 (twoK 19 64 a b).2]) ∧ w = w' := by
  have cu : ∀ x : Int, 0 ≤ x → ∀ w, Calls Tryd.prog 22 #[.int .u64 x, .int .i64 64] w fun e w' => e = .returned (.int .u64 x) ∧ w = w' := fun x _ w => num_cut64 x w
  have ha : 0 ≤ a ∧ a < 18446744073709551616 := by omega
  have hb : 0 ≤ b ∧ b < 18446744073709551616 := by omega
  go_enter Tryd.func17, Tryd.ntmps17
  go_wp2_with (first
    | (go_at_call 22; (with_reducible refine (cu _ (by omega) _).mono ?_); rintro e w' ⟨rfl, rfl⟩))
  go_ret2
  exact ⟨ret_two (rfl), rfl⟩

set_option maxRecDepth 100000 in
set_option maxHeartbeats 2000000 in
theorem ref_two_64_20 (a b : Int) (ha0 : 0 ≤ a) (ha1 : a ≤ 18446744073709551615) (hb0 : 0 ≤ b) (hb1 : b ≤ 18446744073709551615) (w : World) :
    Calls Tryd.prog 17 #[.int .i64 134, .int .u64 a, .int .u64 b] w fun e w' => e = .returned (.tuple #[.int .u64 (twoK 20 64 a b).1, .int .i64 (twoK 20 64 a b).2]) ∧ w = w' := by
  have cu : ∀ x : Int, 0 ≤ x → ∀ w, Calls Tryd.prog 22 #[.int .u64 x, .int .i64 64] w fun e w' => e = .returned (.int .u64 x) ∧ w = w' := fun x _ w => num_cut64 x w
  have ha : 0 ≤ a ∧ a < 18446744073709551616 := by omega
  have hb : 0 ≤ b ∧ b < 18446744073709551616 := by omega
  obtain ⟨m, hm⟩ : ∃ m : Nat, b % 64 = m := Int.eq_ofNat_of_zero_le (by omega)
  have cd : ∀ w, Calls Tryd.prog 31 #[.int .i64 0, .int .u64 a, .int .u64 b, .int .i64 64] w fun e w' => e = .returned (.int .u64 (mov 0 64 a m)) ∧ w = w' :=
    num_mov0 a b 64 m (by decide) (by decide) ha.1 ha.2 hb.1 (by omega) (by omega) hm
  have HR : Hid (twoK 20 64 a b = (mov 0 64 a m, 0)) := Lib.hid (by show (mov 0 64 a (b % 64).toNat, (0 : Int)) = _; rw [show b % 64 = (m : Int) from hm, Int.toNat_natCast] <;> rfl)
  clear hm
  go_enter Tryd.func17, Tryd.ntmps17
  go_wp2_with (first
    | (go_at_call 22; (with_reducible refine (cu _ (by omega) _).mono ?_); rintro e w' ⟨rfl, rfl⟩)
    | (go_at_call 31; (with_reducible refine (cd _).mono ?_); rintro e w' ⟨rfl, rfl⟩))
  go_ret2
  exact ⟨ret_two (by rw [HR.out] <;> rfl), rfl⟩

set_option maxRecDepth 100000 in
set_option maxHeartbeats 2000000 in
theorem ref_two_64_21 (a b : Int) (ha0 : 0 ≤ a) (ha1 : a ≤ 18446744073709551615) (hb0 : 0 ≤ b) (hb1 : b ≤ 18446744073709551615) (w : World) :
    Calls Tryd.prog 17 #[.int .i64 135, .int .u64 a, .int .u64 b] w fun e w' => e = .returned (.tuple #[.int .u64 (twoK 21 64 a b).1, .int .i64 (twoK 21 64 a b).2]) ∧ w = w' := by
  have cu : ∀ x : Int, 0 ≤ x → ∀ w, Calls Tryd.prog 22 #[.int .u64 x, .int .i64 64] w fun e w' => e = .returned (.int .u64 x) ∧ w = w' := fun x _ w => num_cut64 x w
  have ha : 0 ≤ a ∧ a < 18446744073709551616 := by omega
  have hb : 0 ≤ b ∧ b < 18446744073709551616 := by omega
  obtain ⟨m, hm⟩ : ∃ m : Nat, b % 64 = m := Int.eq_ofNat_of_zero_le (by omega)
  have cd : ∀ w, Calls Tryd.prog 31 #[.int .i64 1, .int .u64 a, .int .u64 b, .int .i64 64] w fun e w' => e = .returned (.int .u64 (mov 1 64 a m)) ∧ w = w' :=
    num_mov1 a b 64 m (by decide) (by decide) ha.1 ha.2 hb.1 (by omega) (by omega) hm
  have HR : Hid (twoK 21 64 a b = (mov 1 64 a m, 0)) := Lib.hid (by show (mov 1 64 a (b % 64).toNat, (0 : Int)) = _; rw [show b % 64 = (m : Int) from hm, Int.toNat_natCast] <;> rfl)
  clear hm
  go_enter Tryd.func17, Tryd.ntmps17
  go_wp2_with (first
    | (go_at_call 22; (with_reducible refine (cu _ (by omega) _).mono ?_); rintro e w' ⟨rfl, rfl⟩)
    | (go_at_call 31; (with_reducible refine (cd _).mono ?_); rintro e w' ⟨rfl, rfl⟩))
  go_ret2
  exact ⟨ret_two (by rw [HR.out] <;> rfl), rfl⟩

set_option maxRecDepth 100000 in
set_option maxHeartbeats 2000000 in
theorem ref_two_64_22 (a b : Int) (ha0 : 0 ≤ a) (ha1 : a ≤ 18446744073709551615) (hb0 : 0 ≤ b) (hb1 : b ≤ 18446744073709551615) (w : World) :
    Calls Tryd.prog 17 #[.int .i64 136, .int .u64 a, .int .u64 b] w fun e w' => e = .returned (.tuple #[.int .u64 (twoK 22 64 a b).1, .int .i64 (twoK 22 64 a b).2]) ∧ w = w' := by
  have cu : ∀ x : Int, 0 ≤ x → ∀ w, Calls Tryd.prog 22 #[.int .u64 x, .int .i64 64] w fun e w' => e = .returned (.int .u64 x) ∧ w = w' := fun x _ w => num_cut64 x w
  have ha : 0 ≤ a ∧ a < 18446744073709551616 := by omega
  have hb : 0 ≤ b ∧ b < 18446744073709551616 := by omega
  obtain ⟨m, hm⟩ : ∃ m : Nat, b % 64 = m := Int.eq_ofNat_of_zero_le (by omega)
  have cd : ∀ w, Calls Tryd.prog 31 #[.int .i64 2, .int .u64 a, .int .u64 b, .int .i64 64] w fun e w' => e = .returned (.int .u64 (mov 2 64 a m)) ∧ w = w' :=
    num_mov2 a b 64 m (by decide) (by decide) ha.1 ha.2 hb.1 (by omega) (by omega) hm
  have HR : Hid (twoK 22 64 a b = (mov 2 64 a m, 0)) := Lib.hid (by show (mov 2 64 a (b % 64).toNat, (0 : Int)) = _; rw [show b % 64 = (m : Int) from hm, Int.toNat_natCast] <;> rfl)
  clear hm
  go_enter Tryd.func17, Tryd.ntmps17
  go_wp2_with (first
    | (go_at_call 22; (with_reducible refine (cu _ (by omega) _).mono ?_); rintro e w' ⟨rfl, rfl⟩)
    | (go_at_call 31; (with_reducible refine (cd _).mono ?_); rintro e w' ⟨rfl, rfl⟩))
  go_ret2
  exact ⟨ret_two (by rw [HR.out] <;> rfl), rfl⟩

set_option maxRecDepth 100000 in
set_option maxHeartbeats 2000000 in
theorem ref_two_64_23 (a b : Int) (ha0 : 0 ≤ a) (ha1 : a ≤ 18446744073709551615) (hb0 : 0 ≤ b) (hb1 : b ≤ 18446744073709551615) (w : World) :
    Calls Tryd.prog 17 #[.int .i64 137, .int .u64 a, .int .u64 b] w fun e w' => e = .returned (.tuple #[.int .u64 (twoK 23 64 a b).1, .int .i64 (twoK 23 64 a b).2]) ∧ w = w' := by
  have cu : ∀ x : Int, 0 ≤ x → ∀ w, Calls Tryd.prog 22 #[.int .u64 x, .int .i64 64] w fun e w' => e = .returned (.int .u64 x) ∧ w = w' := fun x _ w => num_cut64 x w
  have ha : 0 ≤ a ∧ a < 18446744073709551616 := by omega
  have hb : 0 ≤ b ∧ b < 18446744073709551616 := by omega
  obtain ⟨m, hm⟩ : ∃ m : Nat, b % 64 = m := Int.eq_ofNat_of_zero_le (by omega)
  have cd : ∀ w, Calls Tryd.prog 31 #[.int .i64 3, .int .u64 a, .int .u64 b, .int .i64 64] w fun e w' => e = .returned (.int .u64 (mov 3 64 a m)) ∧ w = w' :=
    num_mov3 a b 64 m (by decide) (by decide) ha.1 ha.2 hb.1 (by omega) (by omega) hm
  have HR : Hid (twoK 23 64 a b = (mov 3 64 a m, 0)) := Lib.hid (by show (mov 3 64 a (b % 64).toNat, (0 : Int)) = _; rw [show b % 64 = (m : Int) from hm, Int.toNat_natCast] <;> rfl)
  clear hm
  go_enter Tryd.func17, Tryd.ntmps17
  go_wp2_with (first
    | (go_at_call 22; (with_reducible refine (cu _ (by omega) _).mono ?_); rintro e w' ⟨rfl, rfl⟩)
    | (go_at_call 31; (with_reducible refine (cd _).mono ?_); rintro e w' ⟨rfl, rfl⟩))
  go_ret2
  exact ⟨ret_two (by rw [HR.out] <;> rfl), rfl⟩

set_option maxRecDepth 100000 in
set_option maxHeartbeats 2000000 in
theorem ref_two_64_24 (a b : Int) (ha0 : 0 ≤ a) (ha1 : a ≤ 18446744073709551615) (hb0 : 0 ≤ b) (hb1 : b ≤ 18446744073709551615) (w : World) :
    Calls Tryd.prog 17 #[.int .i64 138, .int .u64 a, .int .u64 b] w fun e w' => e = .returned (.tuple #[.int .u64 (twoK 24 64 a b).1, .int .i64 (twoK 24 64 a b).2]) ∧ w = w' := by
  have cu : ∀ x : Int, 0 ≤ x → ∀ w, Calls Tryd.prog 22 #[.int .u64 x, .int .i64 64] w fun e w' => e = .returned (.int .u64 x) ∧ w = w' := fun x _ w => num_cut64 x w
  have ha : 0 ≤ a ∧ a < 18446744073709551616 := by omega
  have hb : 0 ≤ b ∧ b < 18446744073709551616 := by omega
  obtain ⟨m, hm⟩ : ∃ m : Nat, b % 64 = m := Int.eq_ofNat_of_zero_le (by omega)
  have cd : ∀ w, Calls Tryd.prog 31 #[.int .i64 4, .int .u64 a, .int .u64 b, .int .i64 64] w fun e w' => e = .returned (.int .u64 (mov 4 64 a m)) ∧ w = w' :=
    num_mov4 a b 64 m (by decide) (by decide) ha.1 ha.2 hb.1 (by omega) (by omega) hm
  have HR : Hid (twoK 24 64 a b = (mov 4 64 a m, 0)) := Lib.hid (by show (mov 4 64 a (b % 64).toNat, (0 : Int)) = _; rw [show b % 64 = (m : Int) from hm, Int.toNat_natCast] <;> rfl)
  clear hm
  go_enter Tryd.func17, Tryd.ntmps17
  go_wp2_with (first
    | (go_at_call 22; (with_reducible refine (cu _ (by omega) _).mono ?_); rintro e w' ⟨rfl, rfl⟩)
    | (go_at_call 31; (with_reducible refine (cd _).mono ?_); rintro e w' ⟨rfl, rfl⟩))
  go_ret2
  exact ⟨ret_two (by rw [HR.out] <;> rfl), rfl⟩
end Go.Proofs.YtfbgejgapdpjcaaDoor
