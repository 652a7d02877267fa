/-
  The document's own answer to chapter 2: operations of two numbers of 32 bits; walked. Contracts that the proofs call; no statement is proved here.
-/
import Derived.Test.YtfbgejgapdpjcaaDoorNumRefOne
namespace Go.Proofs.YtfbgejgapdpjcaaDoor
open Go.RowKit
set_option linter.unusedVariables false

set_option maxRecDepth 100000 in
set_option maxHeartbeats 2000000 in
theorem ref_two_t32 (op a b : Int) (ha0 : 0 ≤ a) (ha1 : a ≤ 18446744073709551615) (hb0 : 0 ≤ b) (hb1 : b ≤ 18446744073709551615) (h0 : 70 ≤ op) (h1 : op ≤ 79) (w : World) :
    Calls Tryd.prog 17 #[.int .i64 op, .int .u64 a, .int .u64 b] w fun e w' => e = .returned (.tuple #[.int .u64 (twoK (op - 70) 32 (a % 2 ^ 32) (b % 2 ^ 32)).1, .int .i64 (twoK (op - 70) 32 (a % 2 ^ 32) (b % 2 ^ 32)).2]) ∧ w = w' := by
  have cu : ∀ x : Int, 0 ≤ x → ∀ w, Calls Tryd.prog 22 #[.int .u64 x, .int .i64 32] w fun e w' => e = .returned (.int .u64 (x % 4294967296)) ∧ w = w' := fun x hx w => num_cut32 x hx w
  have ha : 0 ≤ (a % 4294967296) ∧ (a % 4294967296) < 4294967296 := by omega
  have hb : 0 ≤ (b % 4294967296) ∧ (b % 4294967296) < 4294967296 := by omega
  have ct : ∀ w, Calls Tryd.prog 30 #[.int .i64 (op - 70), .int .u64 (a % 4294967296), .int .u64 (b % 4294967296), .int .i64 32] w fun e w' => e = .returned (.bool (tst (op - 70) 32 (a % 4294967296) (b % 4294967296))) ∧ w = w' :=
    num_test (op - 70) 32 (a % 4294967296) (b % 4294967296) (by decide) (by omega) (by omega) ha.1 ha.2 hb.1 hb.2
  go_enter Tryd.func17, Tryd.ntmps17
  go_wp2_with (first
  | (go_at_call 22; (with_reducible refine (cu _ (by omega) _).mono ?_); rintro e w' ⟨rfl, rfl⟩)
  | (go_at_call 30; (with_reducible refine (ct _).mono ?_); rintro e w' ⟨rfl, rfl⟩)
  | (go_at_call 21; (with_reducible refine (num_truth _ _).mono ?_); rintro e w' ⟨rfl, rfl⟩))
  go_ret2
  exact ⟨ret_two (by unfold twoK; rw [if_pos (by omega)] <;> rfl), rfl⟩

set_option maxRecDepth 100000 in
set_option maxHeartbeats 2000000 in
theorem ref_two_32_10 (a b : Int) (ha0 : 0 ≤ a) (ha1 : a ≤ 18446744073709551615) (hb0 : 0 ≤ b) (hb1 : b ≤ 18446744073709551615) (w : World) :
    Calls Tryd.prog 17 #[.int .i64 106, .int .u64 a, .int .u64 b] w fun e w' => e = .returned (.tuple #[.int .u64 (twoK 10 32 (a % 2 ^ 32) (b % 2 ^ 32)).1, .int .i64 (twoK 10 32 (a % 2 ^ 32) (b % 2 ^ 32)).2]) ∧ w = w' := by
  have cu : ∀ x : Int, 0 ≤ x → ∀ w, Calls Tryd.prog 22 #[.int .u64 x, .int .i64 32] w fun e w' => e = .returned (.int .u64 (x % 4294967296)) ∧ w = w' := fun x hx w => num_cut32 x hx w
  have ha : 0 ≤ (a % 4294967296) ∧ (a % 4294967296) < 4294967296 := by omega
  have hb : 0 ≤ (b % 4294967296) ∧ (b % 4294967296) < 4294967296 := by omega
  have hw := IntKind.wrap_u64 ((a % 4294967296) + (b % 4294967296))
  go_enter Tryd.func17, Tryd.ntmps17
  go_wp2_with (first
    | (go_at_call 22; (with_reducible refine (cu _ (by omega) _).mono ?_); rintro e w' ⟨rfl, rfl⟩))
  go_ret2
  exact ⟨ret_two (by show (((a % 2 ^ 32) + (b % 2 ^ 32)) % 2 ^ 32, (0 : Int)) = _; first | rfl | (congr 1; omega)), rfl⟩

set_option maxRecDepth 100000 in
set_option maxHeartbeats 2000000 in
theorem ref_two_32_11 (a b : Int) (ha0 : 0 ≤ a) (ha1 : a ≤ 18446744073709551615) (hb0 : 0 ≤ b) (hb1 : b ≤ 18446744073709551615) (w : World) :
    Calls Tryd.prog 17 #[.int .i64 107, .int .u64 a, .int .u64 b] w fun e w' => e = .returned (.tuple #[.int .u64 (twoK 11 32 (a % 2 ^ 32) (b % 2 ^ 32)).1, .int .i64 (twoK 11 32 (a % 2 ^ 32) (b % 2 ^ 32)).2]) ∧ w = w' := by
  have cu : ∀ x : Int, 0 ≤ x → ∀ w, Calls Tryd.prog 22 #[.int .u64 x, .int .i64 32] w fun e w' => e = .returned (.int .u64 (x % 4294967296)) ∧ w = w' := fun x hx w => num_cut32 x hx w
  have ha : 0 ≤ (a % 4294967296) ∧ (a % 4294967296) < 4294967296 := by omega
  have hb : 0 ≤ (b % 4294967296) ∧ (b % 4294967296) < 4294967296 := by omega
  have hw := IntKind.wrap_u64 ((a % 4294967296) - (b % 4294967296))
  go_enter Tryd.func17, Tryd.ntmps17
  go_wp2_with (first
    | (go_at_call 22; (with_reducible refine (cu _ (by omega) _).mono ?_); rintro e w' ⟨rfl, rfl⟩))
  go_ret2
  exact ⟨ret_two (by show (((a % 2 ^ 32) - (b % 2 ^ 32)) % 2 ^ 32, (0 : Int)) = _; first | rfl | exact congrArg (fun n => (n, (0 : Int))) (cut_cut (bs := 32) (by decide) _).symm | (rw [Prod.mk.injEq]; exact ⟨by omega, rfl⟩)), rfl⟩

set_option maxRecDepth 100000 in
set_option maxHeartbeats 2000000 in
theorem ref_two_32_12 (a b : Int) (ha0 : 0 ≤ a) (ha1 : a ≤ 18446744073709551615) (hb0 : 0 ≤ b) (hb1 : b ≤ 18446744073709551615) (w : World) :
    Calls Tryd.prog 17 #[.int .i64 108, .int .u64 a, .int .u64 b] w fun e w' => e = .returned (.tuple #[.int .u64 (twoK 12 32 (a % 2 ^ 32) (b % 2 ^ 32)).1, .int .i64 (twoK 12 32 (a % 2 ^ 32) (b % 2 ^ 32)).2]) ∧ w = w' := by
  have cu : ∀ x : Int, 0 ≤ x → ∀ w, Calls Tryd.prog 22 #[.int .u64 x, .int .i64 32] w fun e w' => e = .returned (.int .u64 (x % 4294967296)) ∧ w = w' := fun x hx w => num_cut32 x hx w
  have ha : 0 ≤ (a % 4294967296) ∧ (a % 4294967296) < 4294967296 := by omega
  have hb : 0 ≤ (b % 4294967296) ∧ (b % 4294967296) < 4294967296 := by omega
  have hw := IntKind.wrap_u64 ((a % 4294967296) * (b % 4294967296))
  go_enter Tryd.func17, Tryd.ntmps17
  go_wp2_with (first
    | (go_at_call 22; (with_reducible refine (cu _ (by omega) _).mono ?_); rintro e w' ⟨rfl, rfl⟩))
  go_ret2
  exact ⟨ret_two (by show ((a % 2 ^ 32) * (b % 2 ^ 32) % 2 ^ 32, (0 : Int)) = _; first | rfl | exact congrArg (fun n => (n, (0 : Int))) (cut_cut (bs := 32) (by decide) _).symm | (rw [Prod.mk.injEq]; exact ⟨by omega, rfl⟩)), rfl⟩

set_option maxRecDepth 100000 in
set_option maxHeartbeats 2000000 in
theorem ref_two_32_13 (a b : Int) (ha0 : 0 ≤ a) (ha1 : a ≤ 18446744073709551615) (hb0 : 0 ≤ b) (hb1 : b ≤ 18446744073709551615) (w : World) :
    Calls Tryd.prog 17 #[.int .i64 109, .int .u64 a, .int .u64 b] w fun e w' => e = .returned (.tuple #[.int .u64 (twoK 13 32 (a % 2 ^ 32) (b % 2 ^ 32)).1, .int .i64 (twoK 13 32 (a % 2 ^ 32) (b % 2 ^ 32)).2]) ∧ w = w' := by
  have cu : ∀ x : Int, 0 ≤ x → ∀ w, Calls Tryd.prog 22 #[.int .u64 x, .int .i64 32] w fun e w' => e = .returned (.int .u64 (x % 4294967296)) ∧ w = w' := fun x hx w => num_cut32 x hx w
  have ha : 0 ≤ (a % 4294967296) ∧ (a % 4294967296) < 4294967296 := by omega
  have hb : 0 ≤ (b % 4294967296) ∧ (b % 4294967296) < 4294967296 := by omega
  have cd : ∀ w, Calls Tryd.prog 32 #[.int .i64 0, .int .u64 (a % 4294967296), .int .u64 (b % 4294967296), .int .i64 32] w fun e w' => e = .returned (.tuple #[.int .u64 (dvdRaw 0 32 (a % 4294967296) (b % 4294967296)).1, .bool (dvdRaw 0 32 (a % 4294967296) (b % 4294967296)).2]) ∧ w = w' :=
    num_div0_32 (a % 4294967296) (b % 4294967296) ha.1 ha.2 hb.1 hb.2
  have hr := dvd_raw (kind := 0) (bs := 32) (a := (a % 4294967296)) (b := (b % 4294967296)) (by decide) ha.1 ha.2 hb.1 hb.2
  have h0 : 0 ≤ (dvdRaw 0 32 (a % 4294967296) (b % 4294967296)).1 ∧ (dvdRaw 0 32 (a % 4294967296) (b % 4294967296)).1 < 18446744073709551616 := dvdRaw_bd ha.1 ha.2 hb.1 hb.2 (by decide)
  have HR : Hid (twoK 13 32 (a % 2 ^ 32) (b % 2 ^ 32) = dvd 0 32 (a % 4294967296) (b % 4294967296)) := Lib.hid rfl
  generalize dvdRaw 0 32 (a % 4294967296) (b % 4294967296) = r at cd hr h0
  obtain ⟨n, ok⟩ := r
  have HR2 := Lib.hid hr
  clear hr
  simp only at cd h0
  cases ok
  · go_enter Tryd.func17, Tryd.ntmps17
    go_wp2_with (first
      | (go_at_call 22; (with_reducible refine (cu _ (by omega) _).mono ?_); rintro e w' ⟨rfl, rfl⟩)
      | (go_at_call 32; (with_reducible refine (cd _).mono ?_); rintro e w' ⟨rfl, rfl⟩))
    go_ret2
    exact ⟨ret_two (by rw [HR.out, HR2.out]; rfl), rfl⟩
  · go_enter Tryd.func17, Tryd.ntmps17
    go_wp2_with (first
      | (go_at_call 22; (with_reducible refine (cu _ (by omega) _).mono ?_); rintro e w' ⟨rfl, rfl⟩)
      | (go_at_call 32; (with_reducible refine (cd _).mono ?_); rintro e w' ⟨rfl, rfl⟩))
    go_ret2
    exact ⟨ret_two (by rw [HR.out, HR2.out]; first | rfl | (simp; omega)), rfl⟩

set_option maxRecDepth 100000 in
set_option maxHeartbeats 2000000 in
theorem ref_two_32_14 (a b : Int) (ha0 : 0 ≤ a) (ha1 : a ≤ 18446744073709551615) (hb0 : 0 ≤ b) (hb1 : b ≤ 18446744073709551615) (w : World) :
    Calls Tryd.prog 17 #[.int .i64 110, .int .u64 a, .int .u64 b] w fun e w' => e = .returned (.tuple #[.int .u64 (twoK 14 32 (a % 2 ^ 32) (b % 2 ^ 32)).1, .int .i64 (twoK 14 32 (a % 2 ^ 32) (b % 2 ^ 32)).2]) ∧ w = w' := by
  have cu : ∀ x : Int, 0 ≤ x → ∀ w, Calls Tryd.prog 22 #[.int .u64 x, .int .i64 32] w fun e w' => e = .returned (.int .u64 (x % 4294967296)) ∧ w = w' := fun x hx w => num_cut32 x hx w
  have ha : 0 ≤ (a % 4294967296) ∧ (a % 4294967296) < 4294967296 := by omega
  have hb : 0 ≤ (b % 4294967296) ∧ (b % 4294967296) < 4294967296 := by omega
  have cd : ∀ w, Calls Tryd.prog 32 #[.int .i64 1, .int .u64 (a % 4294967296), .int .u64 (b % 4294967296), .int .i64 32] w fun e w' => e = .returned (.tuple #[.int .u64 (dvdRaw 1 32 (a % 4294967296) (b % 4294967296)).1, .bool (dvdRaw 1 32 (a % 4294967296) (b % 4294967296)).2]) ∧ w = w' :=
    num_div1_32 (a % 4294967296) (b % 4294967296) ha.1 ha.2 hb.1 hb.2
  have hr := dvd_raw (kind := 1) (bs := 32) (a := (a % 4294967296)) (b := (b % 4294967296)) (by decide) ha.1 ha.2 hb.1 hb.2
  have h0 : 0 ≤ (dvdRaw 1 32 (a % 4294967296) (b % 4294967296)).1 ∧ (dvdRaw 1 32 (a % 4294967296) (b % 4294967296)).1 < 18446744073709551616 := dvdRaw_bd ha.1 ha.2 hb.1 hb.2 (by decide)
  have HR : Hid (twoK 14 32 (a % 2 ^ 32) (b % 2 ^ 32) = dvd 1 32 (a % 4294967296) (b % 4294967296)) := Lib.hid rfl
  generalize dvdRaw 1 32 (a % 4294967296) (b % 4294967296) = r at cd hr h0
  obtain ⟨n, ok⟩ := r
  have HR2 := Lib.hid hr
  clear hr
  simp only at cd h0
  cases ok
  · go_enter Tryd.func17, Tryd.ntmps17
    go_wp2_with (first
      | (go_at_call 22; (with_reducible refine (cu _ (by omega) _).mono ?_); rintro e w' ⟨rfl, rfl⟩)
      | (go_at_call 32; (with_reducible refine (cd _).mono ?_); rintro e w' ⟨rfl, rfl⟩))
    go_ret2
    exact ⟨ret_two (by rw [HR.out, HR2.out]; rfl), rfl⟩
  · go_enter Tryd.func17, Tryd.ntmps17
    go_wp2_with (first
      | (go_at_call 22; (with_reducible refine (cu _ (by omega) _).mono ?_); rintro e w' ⟨rfl, rfl⟩)
      | (go_at_call 32; (with_reducible refine (cd _).mono ?_); rintro e w' ⟨rfl, rfl⟩))
    go_ret2
    exact ⟨ret_two (by rw [HR.out, HR2.out]; first | rfl | (simp; omega)), rfl⟩

set_option maxRecDepth 100000 in
set_option maxHeartbeats 2000000 in
theorem ref_two_32_15 (a b : Int) (ha0 : 0 ≤ a) (ha1 : a ≤ 18446744073709551615) (hb0 : 0 ≤ b) (hb1 : b ≤ 18446744073709551615) (w : World) :
    Calls Tryd.prog 17 #[.int .i64 111, .int .u64 a, .int .u64 b] w fun e w' => e = .returned (.tuple #[.int .u64 (twoK 15 32 (a % 2 ^ 32) (b % 2 ^ 32)).1, .int .i64 (twoK 15 32 (a % 2 ^ 32) (b % 2 ^ 32)).2]) ∧ w = w' := by
  have cu : ∀ x : Int, 0 ≤ x → ∀ w, Calls Tryd.prog 22 #[.int .u64 x, .int .i64 32] w fun e w' => e = .returned (.int .u64 (x % 4294967296)) ∧ w = w' := fun x hx w => num_cut32 x hx w
  have ha : 0 ≤ (a % 4294967296) ∧ (a % 4294967296) < 4294967296 := by omega
  have hb : 0 ≤ (b % 4294967296) ∧ (b % 4294967296) < 4294967296 := by omega
  have cd : ∀ w, Calls Tryd.prog 32 #[.int .i64 2, .int .u64 (a % 4294967296), .int .u64 (b % 4294967296), .int .i64 32] w fun e w' => e = .returned (.tuple #[.int .u64 (dvdRaw 2 32 (a % 4294967296) (b % 4294967296)).1, .bool (dvdRaw 2 32 (a % 4294967296) (b % 4294967296)).2]) ∧ w = w' :=
    num_div2_32 (a % 4294967296) (b % 4294967296) ha.1 ha.2 hb.1 hb.2
  have hr := dvd_raw (kind := 2) (bs := 32) (a := (a % 4294967296)) (b := (b % 4294967296)) (by decide) ha.1 ha.2 hb.1 hb.2
  have h0 : 0 ≤ (dvdRaw 2 32 (a % 4294967296) (b % 4294967296)).1 ∧ (dvdRaw 2 32 (a % 4294967296) (b % 4294967296)).1 < 18446744073709551616 := dvdRaw_bd ha.1 ha.2 hb.1 hb.2 (by decide)
  have HR : Hid (twoK 15 32 (a % 2 ^ 32) (b % 2 ^ 32) = dvd 2 32 (a % 4294967296) (b % 4294967296)) := Lib.hid rfl
  generalize dvdRaw 2 32 (a % 4294967296) (b % 4294967296) = r at cd hr h0
  obtain ⟨n, ok⟩ := r
  have HR2 := Lib.hid hr
  clear hr
  simp only at cd h0
  cases ok
  · go_enter Tryd.func17, Tryd.ntmps17
    go_wp2_with (first
      | (go_at_call 22; (with_reducible refine (cu _ (by omega) _).mono ?_); rintro e w' ⟨rfl, rfl⟩)
      | (go_at_call 32; (with_reducible refine (cd _).mono ?_); rintro e w' ⟨rfl, rfl⟩))
    go_ret2
    exact ⟨ret_two (by rw [HR.out, HR2.out]; rfl), rfl⟩
  · go_enter Tryd.func17, Tryd.ntmps17
    go_wp2_with (first
      | (go_at_call 22; (with_reducible refine (cu _ (by omega) _).mono ?_); rintro e w' ⟨rfl, rfl⟩)
      | (go_at_call 32; (with_reducible refine (cd _).mono ?_); rintro e w' ⟨rfl, rfl⟩))
    go_ret2
    exact ⟨ret_two (by rw [HR.out, HR2.out]; first | rfl | (simp; omega)), rfl⟩

set_option maxRecDepth 100000 in
set_option maxHeartbeats 2000000 in
theorem ref_two_32_16 (a b : Int) (ha0 : 0 ≤ a) (ha1 : a ≤ 18446744073709551615) (hb0 : 0 ≤ b) (hb1 : b ≤ 18446744073709551615) (w : World) :
    Calls Tryd.prog 17 #[.int .i64 112, .int .u64 a, .int .u64 b] w fun e w' => e = .returned (.tuple #[.int .u64 (twoK 16 32 (a % 2 ^ 32) (b % 2 ^ 32)).1, .int .i64 (twoK 16 32 (a % 2 ^ 32) (b % 2 ^ 32)).2]) ∧ w = w' := by
  have cu : ∀ x : Int, 0 ≤ x → ∀ w, Calls Tryd.prog 22 #[.int .u64 x, .int .i64 32] w fun e w' => e = .returned (.int .u64 (x % 4294967296)) ∧ w = w' := fun x hx w => num_cut32 x hx w
  have ha : 0 ≤ (a % 4294967296) ∧ (a % 4294967296) < 4294967296 := by omega
  have hb : 0 ≤ (b % 4294967296) ∧ (b % 4294967296) < 4294967296 := by omega
  have cd : ∀ w, Calls Tryd.prog 32 #[.int .i64 3, .int .u64 (a % 4294967296), .int .u64 (b % 4294967296), .int .i64 32] w fun e w' => e = .returned (.tuple #[.int .u64 (dvdRaw 3 32 (a % 4294967296) (b % 4294967296)).1, .bool (dvdRaw 3 32 (a % 4294967296) (b % 4294967296)).2]) ∧ w = w' :=
    num_div3_32 (a % 4294967296) (b % 4294967296) ha.1 ha.2 hb.1 hb.2
  have hr := dvd_raw (kind := 3) (bs := 32) (a := (a % 4294967296)) (b := (b % 4294967296)) (by decide) ha.1 ha.2 hb.1 hb.2
  have h0 : 0 ≤ (dvdRaw 3 32 (a % 4294967296) (b % 4294967296)).1 ∧ (dvdRaw 3 32 (a % 4294967296) (b % 4294967296)).1 < 18446744073709551616 := dvdRaw_bd ha.1 ha.2 hb.1 hb.2 (by decide)
  have HR : Hid (twoK 16 32 (a % 2 ^ 32) (b % 2 ^ 32) = dvd 3 32 (a % 4294967296) (b % 4294967296)) := Lib.hid rfl
  generalize dvdRaw 3 32 (a % 4294967296) (b % 4294967296) = r at cd hr h0
  obtain ⟨n, ok⟩ := r
  have HR2 := Lib.hid hr
  clear hr
  simp only at cd h0
  cases ok
  · go_enter Tryd.func17, Tryd.ntmps17
    go_wp2_with (first
      | (go_at_call 22; (with_reducible refine (cu _ (by omega) _).mono ?_); rintro e w' ⟨rfl, rfl⟩)
      | (go_at_call 32; (with_reducible refine (cd _).mono ?_); rintro e w' ⟨rfl, rfl⟩))
    go_ret2
    exact ⟨ret_two (by rw [HR.out, HR2.out]; rfl), rfl⟩
  · go_enter Tryd.func17, Tryd.ntmps17
    go_wp2_with (first
      | (go_at_call 22; (with_reducible refine (cu _ (by omega) _).mono ?_); rintro e w' ⟨rfl, rfl⟩)
      | (go_at_call 32; (with_reducible refine (cd _).mono ?_); rintro e w' ⟨rfl, rfl⟩))
    go_ret2
    exact ⟨ret_two (by rw [HR.out, HR2.out]; first | rfl | (simp; omega)), rfl⟩

set_option maxRecDepth 100000 in
set_option maxHeartbeats 2000000 in
theorem ref_two_32_17 (a b : Int) (ha0 : 0 ≤ a) (ha1 : a ≤ 18446744073709551615) (hb0 : 0 ≤ b) (hb1 : b ≤ 18446744073709551615) (w : World) :
    Calls Tryd.prog 17 #[.int .i64 113, .int .u64 a, .int .u64 b] w fun e w' => e = .returned (.tuple #[.int .u64 (twoK 17 32 (a % 2 ^ 32) (b % 2 ^ 32)).1, .int .i64 (twoK 17 32 (a % 2 ^ 32) (b % 2 ^ 32)).2]) ∧ w = w' := by
  have cu : ∀ x : Int, 0 ≤ x → ∀ w, Calls Tryd.prog 22 #[.int .u64 x, .int .i64 32] w fun e w' => e = .returned (.int .u64 (x % 4294967296)) ∧ w = w' := fun x hx w => num_cut32 x hx w
  have ha : 0 ≤ (a % 4294967296) ∧ (a % 4294967296) < 4294967296 := by omega
  have hb : 0 ≤ (b % 4294967296) ∧ (b % 4294967296) < 4294967296 := by omega
  go_enter Tryd.func17, Tryd.ntmps17
  go_wp2_with (first
    | (go_at_call 22; (with_reducible refine (cu _ (by omega) _).mono ?_); rintro e w' ⟨rfl, rfl⟩))
  go_ret2
  exact ⟨ret_two (rfl), rfl⟩

set_option maxRecDepth 100000 in
set_option maxHeartbeats 2000000 in
theorem ref_two_32_18 (a b : Int) (ha0 : 0 ≤ a) (ha1 : a ≤ 18446744073709551615) (hb0 : 0 ≤ b) (hb1 : b ≤ 18446744073709551615) (w : World) :
    Calls Tryd.prog 17 #[.int .i64 114, .int .u64 a, .int .u64 b] w fun e w' => e = .returned (.tuple #[.int .u64 (twoK 18 32 (a % 2 ^ 32) (b % 2 ^ 32)).1, .int .i64 (twoK 18 32 (a % 2 ^ 32) (b % 2 ^ 32)).2]) ∧ w = w' := by
  have cu : ∀ x : Int, 0 ≤ x → ∀ w, Calls Tryd.prog 22 #[.int .u64 x, .int .i64 32] w fun e w' => e = .returned (.int .u64 (x % 4294967296)) ∧ w = w' := fun x hx w => num_cut32 x hx w
  have ha : 0 ≤ (a % 4294967296) ∧ (a % 4294967296) < 4294967296 := by omega
  have hb : 0 ≤ (b % 4294967296) ∧ (b % 4294967296) < 4294967296 := by omega
  go_enter Tryd.func17, Tryd.ntmps17
  go_wp2_with (first
    | (go_at_call 22; (with_reducible refine (cu _ (by omega) _).mono ?_); rintro e w' ⟨rfl, rfl⟩))
  go_ret2
  exact ⟨ret_two (rfl), rfl⟩

set_option maxRecDepth 100000 in
set_option maxHeartbeats 2000000 in
theorem ref_two_32_19 (a b : Int) (ha0 : 0 ≤ a) (ha1 : a ≤ 18446744073709551615) (hb0 : 0 ≤ b) (hb1 : b ≤ 18446744073709551615) (w : World) :
    Calls Tryd.prog 17 #[.int .i64 115, .int .u64 a, .int .u64 b] w fun e w' => e = .returned (.tuple #[.int .u64 (twoK 19 32 (a % 2 ^ 32) (b % 2 ^ 32)).1, .int .i64 (twoK 19 32 (a % 2 ^ 32) (b % 2 ^ 32)).2]) ∧ w = w' := by
  have cu : ∀ x : Int, 0 ≤ x → ∀ w, Calls Tryd.prog 22 #[.int .u64 x, .int .i64 32] w fun e w' => e = .returned (.int .u64 (x % 4294967296)) ∧ w = w' := fun x hx w => num_cut32 x hx w
  have ha : 0 ≤ (a % 4294967296) ∧ (a % 4294967296) < 4294967296 := by omega
  have hb : 0 ≤ (b % 4294967296) ∧ (b % 4294967296) < 4294967296 := by omega
  go_enter Tryd.func17, Tryd.ntmps17
  go_wp2_with (first
    | (go_at_call 22; (with_reducible refine (cu _ (by omega) _).mono ?_); rintro e w' ⟨rfl, rfl⟩))
  go_ret2
  exact ⟨ret_two (rfl), rfl⟩

set_option maxRecDepth 100000 in
set_option maxHeartbeats 2000000 in
theorem ref_two_32_20 (a b : Int) (ha0 : 0 ≤ a) (ha1 : a ≤ 18446744073709551615) (hb0 : 0 ≤ b) (hb1 : b ≤ 18446744073709551615) (w : World) :
    Calls Tryd.prog 17 #[.int .i64 116, .int .u64 a, .int .u64 b] w fun e w' => e = .returned (.tuple #[.int .u64 (twoK 20 32 (a % 2 ^ 32) (b % 2 ^ 32)).1, .int .i64 (twoK 20 32 (a % 2 ^ 32) (b % 2 ^ 32)).2]) ∧ w = w' := by
  have cu : ∀ x : Int, 0 ≤ x → ∀ w, Calls Tryd.prog 22 #[.int .u64 x, .int .i64 32] w fun e w' => e = .returned (.int .u64 (x % 4294967296)) ∧ w = w' := fun x hx w => num_cut32 x hx w
  have ha : 0 ≤ (a % 4294967296) ∧ (a % 4294967296) < 4294967296 := by omega
  have hb : 0 ≤ (b % 4294967296) ∧ (b % 4294967296) < 4294967296 := by omega
  obtain ⟨m, hm⟩ : ∃ m : Nat, (b % 4294967296) % 32 = m := Int.eq_ofNat_of_zero_le (by omega)
  have cd : ∀ w, Calls Tryd.prog 31 #[.int .i64 0, .int .u64 (a % 4294967296), .int .u64 (b % 4294967296), .int .i64 32] w fun e w' => e = .returned (.int .u64 (mov 0 32 (a % 4294967296) m)) ∧ w = w' :=
    num_mov0 (a % 4294967296) (b % 4294967296) 32 m (by decide) (by decide) ha.1 ha.2 hb.1 (by omega) (by omega) hm
  have HR : Hid (twoK 20 32 (a % 2 ^ 32) (b % 2 ^ 32) = (mov 0 32 (a % 4294967296) m, 0)) := Lib.hid (by show (mov 0 32 (a % 2 ^ 32) ((b % 2 ^ 32) % 32).toNat, (0 : Int)) = _; rw [show (b % 2 ^ 32) % 32 = (m : Int) from hm, Int.toNat_natCast] <;> rfl)
  clear hm
  go_enter Tryd.func17, Tryd.ntmps17
  go_wp2_with (first
    | (go_at_call 22; (with_reducible refine (cu _ (by omega) _).mono ?_); rintro e w' ⟨rfl, rfl⟩)
    | (go_at_call 31; (with_reducible refine (cd _).mono ?_); rintro e w' ⟨rfl, rfl⟩))
  go_ret2
  exact ⟨ret_two (by rw [HR.out] <;> rfl), rfl⟩

set_option maxRecDepth 100000 in
set_option maxHeartbeats 2000000 in
theorem ref_two_32_21 (a b : Int) (ha0 : 0 ≤ a) (ha1 : a ≤ 18446744073709551615) (hb0 : 0 ≤ b) (hb1 : b ≤ 18446744073709551615) (w : World) :
    Calls Tryd.prog 17 #[.int .i64 117, .int .u64 a, .int .u64 b] w fun e w' => e = .returned (.tuple #[.int .u64 (twoK 21 32 (a % 2 ^ 32) (b % 2 ^ 32)).1, .int .i64 (twoK 21 32 (a % 2 ^ 32) (b % 2 ^ 32)).2]) ∧ w = w' := by
  have cu : ∀ x : Int, 0 ≤ x → ∀ w, Calls Tryd.prog 22 #[.int .u64 x, .int .i64 32] w fun e w' => e = .returned (.int .u64 (x % 4294967296)) ∧ w = w' := fun x hx w => num_cut32 x hx w
  have ha : 0 ≤ (a % 4294967296) ∧ (a % 4294967296) < 4294967296 := by omega
  have hb : 0 ≤ (b % 4294967296) ∧ (b % 4294967296) < 4294967296 := by omega
  obtain ⟨m, hm⟩ : ∃ m : Nat, (b % 4294967296) % 32 = m := Int.eq_ofNat_of_zero_le (by omega)
  have cd : ∀ w, Calls Tryd.prog 31 #[.int .i64 1, .int .u64 (a % 4294967296), .int .u64 (b % 4294967296), .int .i64 32] w fun e w' => e = .returned (.int .u64 (mov 1 32 (a % 4294967296) m)) ∧ w = w' :=
    num_mov1 (a % 4294967296) (b % 4294967296) 32 m (by decide) (by decide) ha.1 ha.2 hb.1 (by omega) (by omega) hm
  have HR : Hid (twoK 21 32 (a % 2 ^ 32) (b % 2 ^ 32) = (mov 1 32 (a % 4294967296) m, 0)) := Lib.hid (by show (mov 1 32 (a % 2 ^ 32) ((b % 2 ^ 32) % 32).toNat, (0 : Int)) = _; rw [show (b % 2 ^ 32) % 32 = (m : Int) from hm, Int.toNat_natCast] <;> rfl)
  clear hm
  go_enter Tryd.func17, Tryd.ntmps17
  go_wp2_with (first
    | (go_at_call 22; (with_reducible refine (cu _ (by omega) _).mono ?_); rintro e w' ⟨rfl, rfl⟩)
    | (go_at_call 31; (with_reducible refine (cd _).mono ?_); rintro e w' ⟨rfl, rfl⟩))
  go_ret2
  exact ⟨ret_two (by rw [HR.out] <;> rfl), rfl⟩

set_option maxRecDepth 100000 in
set_option maxHeartbeats 2000000 in
theorem ref_two_32_22 (a b : Int) (ha0 : 0 ≤ a) (ha1 : a ≤ 18446744073709551615) (hb0 : 0 ≤ b) (hb1 : b ≤ 18446744073709551615) (w : World) :
    Calls Tryd.prog 17 #[.int .i64 118, .int .u64 a, .int .u64 b] w fun e w' => e = .returned (.tuple #[.int .u64 (twoK 22 32 (a % 2 ^ 32) (b % 2 ^ 32)).1, .int .i64 (twoK 22 32 (a % 2 ^ 32) (b % 2 ^ 32)).2]) ∧ w = w' := by
  have cu : ∀ x : Int, 0 ≤ x → ∀ w, Calls Tryd.prog 22 #[.int .u64 x, .int .i64 32] w fun e w' => e = .returned (.int .u64 (x % 4294967296)) ∧ w = w' := fun x hx w => num_cut32 x hx w
  have ha : 0 ≤ (a % 4294967296) ∧ (a % 4294967296) < 4294967296 := by omega
  have hb : 0 ≤ (b % 4294967296) ∧ (b % 4294967296) < 4294967296 := by omega
  obtain ⟨m, hm⟩ : ∃ m : Nat, (b % 4294967296) % 32 = m := Int.eq_ofNat_of_zero_le (by omega)
  have cd : ∀ w, Calls Tryd.prog 31 #[.int .i64 2, .int .u64 (a % 4294967296), .int .u64 (b % 4294967296), .int .i64 32] w fun e w' => e = .returned (.int .u64 (mov 2 32 (a % 4294967296) m)) ∧ w = w' :=
    num_mov2 (a % 4294967296) (b % 4294967296) 32 m (by decide) (by decide) ha.1 ha.2 hb.1 (by omega) (by omega) hm
  have HR : Hid (twoK 22 32 (a % 2 ^ 32) (b % 2 ^ 32) = (mov 2 32 (a % 4294967296) m, 0)) := Lib.hid (by show (mov 2 32 (a % 2 ^ 32) ((b % 2 ^ 32) % 32).toNat, (0 : Int)) = _; rw [show (b % 2 ^ 32) % 32 = (m : Int) from hm, Int.toNat_natCast] <;> rfl)
  clear hm
  go_enter Tryd.func17, Tryd.ntmps17
  go_wp2_with (first
    | (go_at_call 22; (with_reducible refine (cu _ (by omega) _).mono ?_); rintro e w' ⟨rfl, rfl⟩)
    | (go_at_call 31; (with_reducible refine (cd _).mono ?_); rintro e w' ⟨rfl, rfl⟩))
  go_ret2
  exact ⟨ret_two (by rw [HR.out] <;> rfl), rfl⟩

set_option maxRecDepth 100000 in
set_option maxHeartbeats 2000000 in
theorem ref_two_32_23 (a b : Int) (ha0 : 0 ≤ a) (ha1 : a ≤ 18446744073709551615) (hb0 : 0 ≤ b) (hb1 : b ≤ 18446744073709551615) (w : World) :
    Calls Tryd.prog 17 #[.int .i64 119, .int .u64 a, .int .u64 b] w fun e w' => e = .returned (.tuple #[.int .u64 (twoK 23 32 (a % 2 ^ 32) (b % 2 ^ 32)).1, .int .i64 (twoK 23 32 (a % 2 ^ 32) (b % 2 ^ 32)).2]) ∧ w = w' := by
  have cu : ∀ x : Int, 0 ≤ x → ∀ w, Calls Tryd.prog 22 #[.int .u64 x, .int .i64 32] w fun e w' => e = .returned (.int .u64 (x % 4294967296)) ∧ w = w' := fun x hx w => num_cut32 x hx w
  have ha : 0 ≤ (a % 4294967296) ∧ (a % 4294967296) < 4294967296 := by omega
  have hb : 0 ≤ (b % 4294967296) ∧ (b % 4294967296) < 4294967296 := by omega
  obtain ⟨m, hm⟩ : ∃ m : Nat, (b % 4294967296) % 32 = m := Int.eq_ofNat_of_zero_le (by omega)
  have cd : ∀ w, Calls Tryd.prog 31 #[.int .i64 3, .int .u64 (a % 4294967296), .int .u64 (b % 4294967296), .int .i64 32] w fun e w' => e = .returned (.int .u64 (mov 3 32 (a % 4294967296) m)) ∧ w = w' :=
    num_mov3 (a % 4294967296) (b % 4294967296) 32 m (by decide) (by decide) ha.1 ha.2 hb.1 (by omega) (by omega) hm
  have HR : Hid (twoK 23 32 (a % 2 ^ 32) (b % 2 ^ 32) = (mov 3 32 (a % 4294967296) m, 0)) := Lib.hid (by show (mov 3 32 (a % 2 ^ 32) ((b % 2 ^ 32) % 32).toNat, (0 : Int)) = _; rw [show (b % 2 ^ 32) % 32 = (m : Int) from hm, Int.toNat_natCast] <;> rfl)
  clear hm
  go_enter Tryd.func17, Tryd.ntmps17
  go_wp2_with (first
    | (go_at_call 22; (with_reducible refine (cu _ (by omega) _).mono ?_); rintro e w' ⟨rfl, rfl⟩)
    | (go_at_call 31; (with_reducible refine (cd _).mono ?_); rintro e w' ⟨rfl, rfl⟩))
  go_ret2
  exact ⟨ret_two (by rw [HR.out] <;> rfl), rfl⟩

set_option maxRecDepth 100000 in
set_option maxHeartbeats 2000000 in
theorem ref_two_32_24 (a b : Int) (ha0 : 0 ≤ a) (ha1 : a ≤ 18446744073709551615) (hb0 : 0 ≤ b) (hb1 : b ≤ 18446744073709551615) (w : World) :
    Calls Tryd.prog 17 #[.int .i64 120, .int .u64 a, .int .u64 b] w fun e w' => e = .returned (.tuple #[.int .u64 (twoK 24 32 (a % 2 ^ 32) (b % 2 ^ 32)).1, .int .i64 (twoK 24 32 (a % 2 ^ 32) (b % 2 ^ 32)).2]) ∧ w = w' := by
  have cu : ∀ x : Int, 0 ≤ x → ∀ w, Calls Tryd.prog 22 #[.int .u64 x, .int .i64 32] w fun e w' => e = .returned (.int .u64 (x % 4294967296)) ∧ w = w' := fun x hx w => num_cut32 x hx w
  have ha : 0 ≤ (a % 4294967296) ∧ (a % 4294967296) < 4294967296 := by omega
  have hb : 0 ≤ (b % 4294967296) ∧ (b % 4294967296) < 4294967296 := by omega
  obtain ⟨m, hm⟩ : ∃ m : Nat, (b % 4294967296) % 32 = m := Int.eq_ofNat_of_zero_le (by omega)
  have cd : ∀ w, Calls Tryd.prog 31 #[.int .i64 4, .int .u64 (a % 4294967296), .int .u64 (b % 4294967296), .int .i64 32] w fun e w' => e = .returned (.int .u64 (mov 4 32 (a % 4294967296) m)) ∧ w = w' :=
    num_mov4 (a % 4294967296) (b % 4294967296) 32 m (by decide) (by decide) ha.1 ha.2 hb.1 (by omega) (by omega) hm
  have HR : Hid (twoK 24 32 (a % 2 ^ 32) (b % 2 ^ 32) = (mov 4 32 (a % 4294967296) m, 0)) := Lib.hid (by show (mov 4 32 (a % 2 ^ 32) ((b % 2 ^ 32) % 32).toNat, (0 : Int)) = _; rw [show (b % 2 ^ 32) % 32 = (m : Int) from hm, Int.toNat_natCast] <;> rfl)
  clear hm
  go_enter Tryd.func17, Tryd.ntmps17
  go_wp2_with (first
    | (go_at_call 22; (with_reducible refine (cu _ (by omega) _).mono ?_); rintro e w' ⟨rfl, rfl⟩)
    | (go_at_call 31; (with_reducible refine (cd _).mono ?_); rintro e w' ⟨rfl, rfl⟩))
  go_ret2
  exact ⟨ret_two (by rw [HR.out] <;> rfl), rfl⟩
end Go.Proofs.YtfbgejgapdpjcaaDoor
