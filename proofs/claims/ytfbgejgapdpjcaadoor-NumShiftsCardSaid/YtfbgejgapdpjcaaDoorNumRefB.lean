/-
  The document's own answer to chapter 2: tests, quotients; walked. Contracts that the proofs call; no statement is proved here.
-/
import Derived.Test.YtfbgejgapdpjcaaDoorNumRefA
namespace Go.Proofs.YtfbgejgapdpjcaaDoor
open Go.RowKit

theorem num_truth (b : Bool) (w : World) : Calls Tryd.prog 21 #[.bool b] w fun e w' => e = .returned (.int .u64 (truth b)) ∧ w = w' := by
  cases b
  · go_enter Tryd.func21, Tryd.ntmps21
    go_wp2
    go_ret
    exact ⟨rfl, rfl⟩
  · go_enter Tryd.func21, Tryd.ntmps21
    go_wp2
    go_ret
    exact ⟨rfl, rfl⟩

theorem num_signed (a : Int) (bs : Nat) (hbs : bs = 32 ∨ bs = 64) (h0 : 0 ≤ a) (h1 : a < 2 ^ bs) (w : World) : Calls Tryd.prog 24 #[.int .u64 a, .int .i64 bs] w fun e w' => e = .returned (.int .i64 (sgnv bs a)) ∧ w = w' := by
  rcases hbs with rfl | rfl
  · exact num_signed32 a h0 h1 w
  · exact num_signed64 a h0 h1 w

theorem ret_bool {a b : Bool} (h : a = b) : Ending.returned (.bool a) = .returned (.bool b) := by rw [h]

set_option maxRecDepth 100000 in
set_option maxHeartbeats 2000000 in
theorem num_test (kind : Int) (bs : Nat) (a b : Int) (hbs : bs = 32 ∨ bs = 64) (hk0 : 0 ≤ kind) (hk1 : kind ≤ 9) (ha0 : 0 ≤ a) (ha1 : a < 2 ^ bs) (hb0 : 0 ≤ b) (hb1 : b < 2 ^ bs) (w : World) :
    Calls Tryd.prog 30 #[.int .i64 kind, .int .u64 a, .int .u64 b, .int .i64 bs] w fun e w' => e = .returned (.bool (tst kind bs a b)) ∧ w = w' := by
  have c1 := num_signed a bs hbs ha0 ha1
  have c2 := num_signed b bs hbs hb0 hb1
  generalize hx : sgnv bs a = x at c1
  generalize hy : sgnv bs b = y at c2
  have HX := Lib.hid hx
  have HY := Lib.hid hy
  clear hx hy hbs ha1 hb1
  go_enter Tryd.func30, Tryd.ntmps30
  go_wp2_with (first
    | (go_at_call 24; (with_reducible refine (c1 _).mono ?_); rintro e w' ⟨rfl, rfl⟩)
    | (go_at_call 24; (with_reducible refine (c2 _).mono ?_); rintro e w' ⟨rfl, rfl⟩))
  all_goals go_ret
  all_goals refine ⟨ret_bool ?_, rfl⟩
  all_goals unfold tst less
  all_goals rw [HX.out, HY.out]
  all_goals clear HX HY
  all_goals simp_all

theorem sgnv_bd {bs : Nat} {a : Int} (hbs : bs = 32 ∨ bs = 64) (h0 : 0 ≤ a) (h1 : a < 2 ^ bs) : -(2 ^ (bs - 1)) ≤ sgnv bs a ∧ sgnv bs a < 2 ^ (bs - 1) := by
  rcases hbs with rfl | rfl <;> (unfold sgnv; simp at *; split <;> omega)

theorem tdiv_bd {x y : Int} (hx : -9223372036854775808 ≤ x) (hx2 : x < 9223372036854775808) (h : ¬ (x = -9223372036854775808 ∧ y = -1)) : -9223372036854775808 ≤ x.tdiv y ∧ x.tdiv y ≤ 9223372036854775807 := by
  have hQ : (x.tdiv y).natAbs ≤ x.natAbs := by rw [Int.natAbs_tdiv]; exact Nat.div_le_self _ _
  by_cases hm : x = -9223372036854775808
  · have hy : y ≠ -1 := fun hy => h ⟨hm, hy⟩
    by_cases h1 : y = 1
    · subst h1; rw [Int.tdiv_one]; omega
    · by_cases h0 : y = 0
      · subst h0; rw [Int.tdiv_zero]; omega
      · have hlt : (x.tdiv y).natAbs < x.natAbs := by rw [Int.natAbs_tdiv]; exact Nat.div_lt_self (by omega) (by omega)
        omega
  · omega
theorem tmod_bd {x y : Int} (hx : -9223372036854775808 ≤ x) (hx2 : x < 9223372036854775808) : -9223372036854775808 ≤ x.tmod y ∧ x.tmod y ≤ 9223372036854775807 := by
  have hn := Int.natAbs_tmod x y
  have hle : x.natAbs % y.natAbs ≤ x.natAbs := Nat.mod_le _ _
  by_cases h2 : x.tmod y = 9223372036854775808
  · exfalso
    have := Int.tmod_nonneg (a := x) y
    by_cases h0 : 0 ≤ x
    · omega
    · have h3 : (-(-x)).tmod y = -((-x).tmod y) := Int.neg_tmod _ _
      have h4 := Int.tmod_nonneg (a := -x) y (by omega)
      rw [Int.neg_neg] at h3
      omega
  · omega
theorem sgnv_zero {bs : Nat} {b : Int} (hbs : bs = 32 ∨ bs = 64) (h0 : 0 ≤ b) (h1 : b < 2 ^ bs) (h : b ≠ 0) : sgnv bs b ≠ 0 := by
  rcases hbs with rfl | rfl <;> (unfold sgnv; simp at *; split <;> omega)
theorem ret_pair {v : Int} {o : Bool} {r : Int × Bool} (h : r = (v, o)) : Ending.returned (.tuple #[.int .u64 v, .bool o]) = .returned (.tuple #[.int .u64 r.1, .bool r.2]) := by rw [h]

set_option maxRecDepth 100000 in
set_option maxHeartbeats 1000000 in
theorem num_div0_32 (a b : Int) (ha0 : 0 ≤ a) (ha1 : a < 4294967296) (hb0 : 0 ≤ b) (hb1 : b < 4294967296) (w : World) :
    Calls Tryd.prog 32 #[.int .i64 0, .int .u64 a, .int .u64 b, .int .i64 32] w fun e w' => e = .returned (.tuple #[.int .u64 (dvdRaw 0 32 a b).1, .bool (dvdRaw 0 32 a b).2]) ∧ w = w' := by
  have c1 := num_signed32 a ha0 ha1
  have c2 := num_signed32 b hb0 hb1
  have x1 := sgnv_bd (bs := 32) (a := a) (by decide) ha0 ha1
  have y1 := sgnv_bd (bs := 32) (a := b) (by decide) hb0 hb1
  have z1 := sgnv_zero (bs := 32) (b := b) (by decide) hb0 hb1
  generalize hR : dvdRaw 0 32 a b = R
  unfold dvdRaw at hR
  generalize sgnv 32 a = x at c1 x1 hR
  generalize sgnv 32 b = y at c2 y1 z1 hR
  simp at x1 y1
  have HR := Lib.hid hR
  clear hR
  by_cases hb : b = 0
  · have HB := Lib.hid hb
    have hbz : (b == 0) = true := by simp [hb]
    clear hb z1
    go_enter Tryd.func32, Tryd.ntmps32
    go_wp2
    go_ret2
    exact ⟨ret_pair (by rw [← HR.out, if_pos HB.out] <;> first | rfl | simp), rfl⟩
  · have hbz : (b == 0) = false := by simp [hb]
    have hyz : (y == 0) = false := by simp [z1 hb]
    have hyn : ¬ y = 0 := z1 hb
    have HB := Lib.hid hb
    clear hb z1
    by_cases ho : x = -2147483648 ∧ y = -1
    · have h1 : (x == -2147483648) = true := by simp [ho.1]
      have h2 : (y == -1) = true := by simp [ho.2]
      have HO : Hid (x = -(2 ^ (32 - 1)) ∧ y = -1) := Lib.hid (by simpa using ho)
      clear ho
      go_enter Tryd.func32, Tryd.ntmps32
      go_wp2_with (first
        | (go_at_call 24; (with_reducible refine (c1 _).mono ?_); rintro e w' ⟨rfl, rfl⟩)
        | (go_at_call 24; (with_reducible refine (c2 _).mono ?_); rintro e w' ⟨rfl, rfl⟩))
      go_ret2
      exact ⟨ret_pair (by rw [← HR.out, if_neg HB.out, if_pos trivial, if_pos HO.out] <;> first | rfl | simp), rfl⟩
    · have hq := tdiv_bd (x := x) (y := y) (by omega) (by omega) (by omega)
      have HO : Hid (¬ (x = -(2 ^ (32 - 1)) ∧ y = -1)) := Lib.hid (by simpa using ho)
      by_cases h1 : (x == -2147483648) = true
      · have h2 : (y == -1) = false := by simp at h1 ⊢; exact fun h => ho ⟨h1, h⟩
        clear ho
        go_enter Tryd.func32, Tryd.ntmps32
        go_wp2_with (first
          | (go_at_call 24; (with_reducible refine (c1 _).mono ?_); rintro e w' ⟨rfl, rfl⟩)
          | (go_at_call 24; (with_reducible refine (c2 _).mono ?_); rintro e w' ⟨rfl, rfl⟩))
        go_ret2
        exact ⟨ret_pair (by rw [← HR.out, if_neg HB.out, if_pos trivial, if_neg HO.out] <;> first | rfl | simp), rfl⟩
      · have h1 : (x == -2147483648) = false := by simpa using h1
        clear ho
        go_enter Tryd.func32, Tryd.ntmps32
        go_wp2_with (first
          | (go_at_call 24; (with_reducible refine (c1 _).mono ?_); rintro e w' ⟨rfl, rfl⟩)
          | (go_at_call 24; (with_reducible refine (c2 _).mono ?_); rintro e w' ⟨rfl, rfl⟩))
        go_ret2
        exact ⟨ret_pair (by rw [← HR.out, if_neg HB.out, if_pos trivial, if_neg HO.out] <;> first | rfl | simp), rfl⟩

set_option maxRecDepth 100000 in
set_option maxHeartbeats 1000000 in
theorem num_div0_64 (a b : Int) (ha0 : 0 ≤ a) (ha1 : a < 18446744073709551616) (hb0 : 0 ≤ b) (hb1 : b < 18446744073709551616) (w : World) :
    Calls Tryd.prog 32 #[.int .i64 0, .int .u64 a, .int .u64 b, .int .i64 64] w fun e w' => e = .returned (.tuple #[.int .u64 (dvdRaw 0 64 a b).1, .bool (dvdRaw 0 64 a b).2]) ∧ w = w' := by
  have c1 := num_signed64 a ha0 ha1
  have c2 := num_signed64 b hb0 hb1
  have x1 := sgnv_bd (bs := 64) (a := a) (by decide) ha0 ha1
  have y1 := sgnv_bd (bs := 64) (a := b) (by decide) hb0 hb1
  have z1 := sgnv_zero (bs := 64) (b := b) (by decide) hb0 hb1
  generalize hR : dvdRaw 0 64 a b = R
  unfold dvdRaw at hR
  generalize sgnv 64 a = x at c1 x1 hR
  generalize sgnv 64 b = y at c2 y1 z1 hR
  simp at x1 y1
  have HR := Lib.hid hR
  clear hR
  by_cases hb : b = 0
  · have HB := Lib.hid hb
    have hbz : (b == 0) = true := by simp [hb]
    clear hb z1
    go_enter Tryd.func32, Tryd.ntmps32
    go_wp2
    go_ret2
    exact ⟨ret_pair (by rw [← HR.out, if_pos HB.out] <;> first | rfl | simp), rfl⟩
  · have hbz : (b == 0) = false := by simp [hb]
    have hyz : (y == 0) = false := by simp [z1 hb]
    have hyn : ¬ y = 0 := z1 hb
    have HB := Lib.hid hb
    clear hb z1
    by_cases ho : x = -9223372036854775808 ∧ y = -1
    · have h1 : (x == -9223372036854775808) = true := by simp [ho.1]
      have h2 : (y == -1) = true := by simp [ho.2]
      have HO : Hid (x = -(2 ^ (64 - 1)) ∧ y = -1) := Lib.hid (by simpa using ho)
      clear ho
      go_enter Tryd.func32, Tryd.ntmps32
      go_wp2_with (first
        | (go_at_call 24; (with_reducible refine (c1 _).mono ?_); rintro e w' ⟨rfl, rfl⟩)
        | (go_at_call 24; (with_reducible refine (c2 _).mono ?_); rintro e w' ⟨rfl, rfl⟩))
      go_ret2
      exact ⟨ret_pair (by rw [← HR.out, if_neg HB.out, if_pos trivial, if_pos HO.out] <;> first | rfl | simp), rfl⟩
    · have hq := tdiv_bd (x := x) (y := y) (by omega) (by omega) (by omega)
      have HO : Hid (¬ (x = -(2 ^ (64 - 1)) ∧ y = -1)) := Lib.hid (by simpa using ho)
      by_cases h1 : (x == -9223372036854775808) = true
      · have h2 : (y == -1) = false := by simp at h1 ⊢; exact fun h => ho ⟨h1, h⟩
        clear ho
        go_enter Tryd.func32, Tryd.ntmps32
        go_wp2_with (first
          | (go_at_call 24; (with_reducible refine (c1 _).mono ?_); rintro e w' ⟨rfl, rfl⟩)
          | (go_at_call 24; (with_reducible refine (c2 _).mono ?_); rintro e w' ⟨rfl, rfl⟩))
        go_ret2
        exact ⟨ret_pair (by rw [← HR.out, if_neg HB.out, if_pos trivial, if_neg HO.out] <;> first | rfl | simp), rfl⟩
      · have h1 : (x == -9223372036854775808) = false := by simpa using h1
        clear ho
        go_enter Tryd.func32, Tryd.ntmps32
        go_wp2_with (first
          | (go_at_call 24; (with_reducible refine (c1 _).mono ?_); rintro e w' ⟨rfl, rfl⟩)
          | (go_at_call 24; (with_reducible refine (c2 _).mono ?_); rintro e w' ⟨rfl, rfl⟩))
        go_ret2
        exact ⟨ret_pair (by rw [← HR.out, if_neg HB.out, if_pos trivial, if_neg HO.out] <;> first | rfl | simp), rfl⟩

set_option maxRecDepth 100000 in
set_option maxHeartbeats 1000000 in
theorem num_div1_32 (a b : Int) (ha0 : 0 ≤ a) (ha1 : a < 4294967296) (hb0 : 0 ≤ b) (hb1 : b < 4294967296) (w : World) :
    Calls Tryd.prog 32 #[.int .i64 1, .int .u64 a, .int .u64 b, .int .i64 32] w fun e w' => e = .returned (.tuple #[.int .u64 (dvdRaw 1 32 a b).1, .bool (dvdRaw 1 32 a b).2]) ∧ w = w' := by
  have c1 := num_signed32 a ha0 ha1
  have c2 := num_signed32 b hb0 hb1
  have x1 := sgnv_bd (bs := 32) (a := a) (by decide) ha0 ha1
  have y1 := sgnv_bd (bs := 32) (a := b) (by decide) hb0 hb1
  have z1 := sgnv_zero (bs := 32) (b := b) (by decide) hb0 hb1
  generalize hR : dvdRaw 1 32 a b = R
  unfold dvdRaw at hR
  generalize sgnv 32 a = x at c1 x1 hR
  generalize sgnv 32 b = y at c2 y1 z1 hR
  simp at x1 y1
  have HR := Lib.hid hR
  clear hR
  by_cases hb : b = 0
  · have HB := Lib.hid hb
    have hbz : (b == 0) = true := by simp [hb]
    clear hb z1
    go_enter Tryd.func32, Tryd.ntmps32
    go_wp2
    go_ret2
    exact ⟨ret_pair (by rw [← HR.out, if_pos HB.out] <;> first | rfl | simp), rfl⟩
  · have hbz : (b == 0) = false := by simp [hb]
    have hyz : (y == 0) = false := by simp [z1 hb]
    have hyn : ¬ y = 0 := z1 hb
    have HB := Lib.hid hb
    clear hb z1
    go_enter Tryd.func32, Tryd.ntmps32
    go_wp2_with (first
      | (go_at_call 24; (with_reducible refine (c1 _).mono ?_); rintro e w' ⟨rfl, rfl⟩)
      | (go_at_call 24; (with_reducible refine (c2 _).mono ?_); rintro e w' ⟨rfl, rfl⟩))
    go_ret2
    exact ⟨ret_pair (by rw [← HR.out, if_neg HB.out, if_neg (by decide), if_pos trivial] <;> first | rfl | simp), rfl⟩

set_option maxRecDepth 100000 in
set_option maxHeartbeats 1000000 in
theorem num_div1_64 (a b : Int) (ha0 : 0 ≤ a) (ha1 : a < 18446744073709551616) (hb0 : 0 ≤ b) (hb1 : b < 18446744073709551616) (w : World) :
    Calls Tryd.prog 32 #[.int .i64 1, .int .u64 a, .int .u64 b, .int .i64 64] w fun e w' => e = .returned (.tuple #[.int .u64 (dvdRaw 1 64 a b).1, .bool (dvdRaw 1 64 a b).2]) ∧ w = w' := by
  have c1 := num_signed64 a ha0 ha1
  have c2 := num_signed64 b hb0 hb1
  have x1 := sgnv_bd (bs := 64) (a := a) (by decide) ha0 ha1
  have y1 := sgnv_bd (bs := 64) (a := b) (by decide) hb0 hb1
  have z1 := sgnv_zero (bs := 64) (b := b) (by decide) hb0 hb1
  generalize hR : dvdRaw 1 64 a b = R
  unfold dvdRaw at hR
  generalize sgnv 64 a = x at c1 x1 hR
  generalize sgnv 64 b = y at c2 y1 z1 hR
  simp at x1 y1
  have HR := Lib.hid hR
  clear hR
  by_cases hb : b = 0
  · have HB := Lib.hid hb
    have hbz : (b == 0) = true := by simp [hb]
    clear hb z1
    go_enter Tryd.func32, Tryd.ntmps32
    go_wp2
    go_ret2
    exact ⟨ret_pair (by rw [← HR.out, if_pos HB.out] <;> first | rfl | simp), rfl⟩
  · have hbz : (b == 0) = false := by simp [hb]
    have hyz : (y == 0) = false := by simp [z1 hb]
    have hyn : ¬ y = 0 := z1 hb
    have HB := Lib.hid hb
    clear hb z1
    go_enter Tryd.func32, Tryd.ntmps32
    go_wp2_with (first
      | (go_at_call 24; (with_reducible refine (c1 _).mono ?_); rintro e w' ⟨rfl, rfl⟩)
      | (go_at_call 24; (with_reducible refine (c2 _).mono ?_); rintro e w' ⟨rfl, rfl⟩))
    go_ret2
    exact ⟨ret_pair (by rw [← HR.out, if_neg HB.out, if_neg (by decide), if_pos trivial] <;> first | rfl | simp), rfl⟩

set_option maxRecDepth 100000 in
set_option maxHeartbeats 1000000 in
theorem num_div2_32 (a b : Int) (ha0 : 0 ≤ a) (ha1 : a < 4294967296) (hb0 : 0 ≤ b) (hb1 : b < 4294967296) (w : World) :
    Calls Tryd.prog 32 #[.int .i64 2, .int .u64 a, .int .u64 b, .int .i64 32] w fun e w' => e = .returned (.tuple #[.int .u64 (dvdRaw 2 32 a b).1, .bool (dvdRaw 2 32 a b).2]) ∧ w = w' := by
  have c1 := num_signed32 a ha0 ha1
  have c2 := num_signed32 b hb0 hb1
  have x1 := sgnv_bd (bs := 32) (a := a) (by decide) ha0 ha1
  have y1 := sgnv_bd (bs := 32) (a := b) (by decide) hb0 hb1
  have z1 := sgnv_zero (bs := 32) (b := b) (by decide) hb0 hb1
  generalize hR : dvdRaw 2 32 a b = R
  unfold dvdRaw at hR
  generalize sgnv 32 a = x at c1 x1 hR
  generalize sgnv 32 b = y at c2 y1 z1 hR
  simp at x1 y1
  have HR := Lib.hid hR
  clear hR
  by_cases hb : b = 0
  · have HB := Lib.hid hb
    have hbz : (b == 0) = true := by simp [hb]
    clear hb z1
    go_enter Tryd.func32, Tryd.ntmps32
    go_wp2
    go_ret2
    exact ⟨ret_pair (by rw [← HR.out, if_pos HB.out] <;> first | rfl | simp), rfl⟩
  · have hbz : (b == 0) = false := by simp [hb]
    have hyz : (y == 0) = false := by simp [z1 hb]
    have hyn : ¬ y = 0 := z1 hb
    have HB := Lib.hid hb
    clear hb z1
    by_cases ho : y = -1
    · have h2 : (y == -1) = true := by simp [ho]
      have HO := Lib.hid ho
      clear ho
      go_enter Tryd.func32, Tryd.ntmps32
      go_wp2_with (first
        | (go_at_call 24; (with_reducible refine (c1 _).mono ?_); rintro e w' ⟨rfl, rfl⟩)
        | (go_at_call 24; (with_reducible refine (c2 _).mono ?_); rintro e w' ⟨rfl, rfl⟩))
      go_ret2
      exact ⟨ret_pair (by rw [← HR.out, if_neg HB.out, if_neg (by decide), if_neg (by decide), if_pos trivial, if_pos HO.out] <;> first | rfl | simp), rfl⟩
    · have h2 : (y == -1) = false := by simp [ho]
      have hq := tmod_bd (x := x) (y := y) (by omega) (by omega)
      have HO := Lib.hid ho
      clear ho
      go_enter Tryd.func32, Tryd.ntmps32
      go_wp2_with (first
        | (go_at_call 24; (with_reducible refine (c1 _).mono ?_); rintro e w' ⟨rfl, rfl⟩)
        | (go_at_call 24; (with_reducible refine (c2 _).mono ?_); rintro e w' ⟨rfl, rfl⟩))
      go_ret2
      exact ⟨ret_pair (by rw [← HR.out, if_neg HB.out, if_neg (by decide), if_neg (by decide), if_pos trivial, if_neg HO.out] <;> first | rfl | simp), rfl⟩

set_option maxRecDepth 100000 in
set_option maxHeartbeats 1000000 in
theorem num_div2_64 (a b : Int) (ha0 : 0 ≤ a) (ha1 : a < 18446744073709551616) (hb0 : 0 ≤ b) (hb1 : b < 18446744073709551616) (w : World) :
    Calls Tryd.prog 32 #[.int .i64 2, .int .u64 a, .int .u64 b, .int .i64 64] w fun e w' => e = .returned (.tuple #[.int .u64 (dvdRaw 2 64 a b).1, .bool (dvdRaw 2 64 a b).2]) ∧ w = w' := by
  have c1 := num_signed64 a ha0 ha1
  have c2 := num_signed64 b hb0 hb1
  have x1 := sgnv_bd (bs := 64) (a := a) (by decide) ha0 ha1
  have y1 := sgnv_bd (bs := 64) (a := b) (by decide) hb0 hb1
  have z1 := sgnv_zero (bs := 64) (b := b) (by decide) hb0 hb1
  generalize hR : dvdRaw 2 64 a b = R
  unfold dvdRaw at hR
  generalize sgnv 64 a = x at c1 x1 hR
  generalize sgnv 64 b = y at c2 y1 z1 hR
  simp at x1 y1
  have HR := Lib.hid hR
  clear hR
  by_cases hb : b = 0
  · have HB := Lib.hid hb
    have hbz : (b == 0) = true := by simp [hb]
    clear hb z1
    go_enter Tryd.func32, Tryd.ntmps32
    go_wp2
    go_ret2
    exact ⟨ret_pair (by rw [← HR.out, if_pos HB.out] <;> first | rfl | simp), rfl⟩
  · have hbz : (b == 0) = false := by simp [hb]
    have hyz : (y == 0) = false := by simp [z1 hb]
    have hyn : ¬ y = 0 := z1 hb
    have HB := Lib.hid hb
    clear hb z1
    by_cases ho : y = -1
    · have h2 : (y == -1) = true := by simp [ho]
      have HO := Lib.hid ho
      clear ho
      go_enter Tryd.func32, Tryd.ntmps32
      go_wp2_with (first
        | (go_at_call 24; (with_reducible refine (c1 _).mono ?_); rintro e w' ⟨rfl, rfl⟩)
        | (go_at_call 24; (with_reducible refine (c2 _).mono ?_); rintro e w' ⟨rfl, rfl⟩))
      go_ret2
      exact ⟨ret_pair (by rw [← HR.out, if_neg HB.out, if_neg (by decide), if_neg (by decide), if_pos trivial, if_pos HO.out] <;> first | rfl | simp), rfl⟩
    · have h2 : (y == -1) = false := by simp [ho]
      have hq := tmod_bd (x := x) (y := y) (by omega) (by omega)
      have HO := Lib.hid ho
      clear ho
      go_enter Tryd.func32, Tryd.ntmps32
      go_wp2_with (first
        | (go_at_call 24; (with_reducible refine (c1 _).mono ?_); rintro e w' ⟨rfl, rfl⟩)
        | (go_at_call 24; (with_reducible refine (c2 _).mono ?_); rintro e w' ⟨rfl, rfl⟩))
      go_ret2
      exact ⟨ret_pair (by rw [← HR.out, if_neg HB.out, if_neg (by decide), if_neg (by decide), if_pos trivial, if_neg HO.out] <;> first | rfl | simp), rfl⟩

set_option maxRecDepth 100000 in
set_option maxHeartbeats 1000000 in
theorem num_div3_32 (a b : Int) (ha0 : 0 ≤ a) (ha1 : a < 4294967296) (hb0 : 0 ≤ b) (hb1 : b < 4294967296) (w : World) :
    Calls Tryd.prog 32 #[.int .i64 3, .int .u64 a, .int .u64 b, .int .i64 32] w fun e w' => e = .returned (.tuple #[.int .u64 (dvdRaw 3 32 a b).1, .bool (dvdRaw 3 32 a b).2]) ∧ w = w' := by
  have c1 := num_signed32 a ha0 ha1
  have c2 := num_signed32 b hb0 hb1
  have x1 := sgnv_bd (bs := 32) (a := a) (by decide) ha0 ha1
  have y1 := sgnv_bd (bs := 32) (a := b) (by decide) hb0 hb1
  have z1 := sgnv_zero (bs := 32) (b := b) (by decide) hb0 hb1
  generalize hR : dvdRaw 3 32 a b = R
  unfold dvdRaw at hR
  generalize sgnv 32 a = x at c1 x1 hR
  generalize sgnv 32 b = y at c2 y1 z1 hR
  simp at x1 y1
  have HR := Lib.hid hR
  clear hR
  by_cases hb : b = 0
  · have HB := Lib.hid hb
    have hbz : (b == 0) = true := by simp [hb]
    clear hb z1
    go_enter Tryd.func32, Tryd.ntmps32
    go_wp2
    go_ret2
    exact ⟨ret_pair (by rw [← HR.out, if_pos HB.out] <;> first | rfl | simp), rfl⟩
  · have hbz : (b == 0) = false := by simp [hb]
    have hyz : (y == 0) = false := by simp [z1 hb]
    have hyn : ¬ y = 0 := z1 hb
    have HB := Lib.hid hb
    clear hb z1
    go_enter Tryd.func32, Tryd.ntmps32
    go_wp2_with (first
      | (go_at_call 24; (with_reducible refine (c1 _).mono ?_); rintro e w' ⟨rfl, rfl⟩)
      | (go_at_call 24; (with_reducible refine (c2 _).mono ?_); rintro e w' ⟨rfl, rfl⟩))
    go_ret2
    exact ⟨ret_pair (by rw [← HR.out, if_neg HB.out, if_neg (by decide), if_neg (by decide), if_neg (by decide)] <;> first | rfl | simp), rfl⟩

set_option maxRecDepth 100000 in
set_option maxHeartbeats 1000000 in
theorem num_div3_64 (a b : Int) (ha0 : 0 ≤ a) (ha1 : a < 18446744073709551616) (hb0 : 0 ≤ b) (hb1 : b < 18446744073709551616) (w : World) :
    Calls Tryd.prog 32 #[.int .i64 3, .int .u64 a, .int .u64 b, .int .i64 64] w fun e w' => e = .returned (.tuple #[.int .u64 (dvdRaw 3 64 a b).1, .bool (dvdRaw 3 64 a b).2]) ∧ w = w' := by
  have c1 := num_signed64 a ha0 ha1
  have c2 := num_signed64 b hb0 hb1
  have x1 := sgnv_bd (bs := 64) (a := a) (by decide) ha0 ha1
  have y1 := sgnv_bd (bs := 64) (a := b) (by decide) hb0 hb1
  have z1 := sgnv_zero (bs := 64) (b := b) (by decide) hb0 hb1
  generalize hR : dvdRaw 3 64 a b = R
  unfold dvdRaw at hR
  generalize sgnv 64 a = x at c1 x1 hR
  generalize sgnv 64 b = y at c2 y1 z1 hR
  simp at x1 y1
  have HR := Lib.hid hR
  clear hR
  by_cases hb : b = 0
  · have HB := Lib.hid hb
    have hbz : (b == 0) = true := by simp [hb]
    clear hb z1
    go_enter Tryd.func32, Tryd.ntmps32
    go_wp2
    go_ret2
    exact ⟨ret_pair (by rw [← HR.out, if_pos HB.out] <;> first | rfl | simp), rfl⟩
  · have hbz : (b == 0) = false := by simp [hb]
    have hyz : (y == 0) = false := by simp [z1 hb]
    have hyn : ¬ y = 0 := z1 hb
    have HB := Lib.hid hb
    clear hb z1
    go_enter Tryd.func32, Tryd.ntmps32
    go_wp2_with (first
      | (go_at_call 24; (with_reducible refine (c1 _).mono ?_); rintro e w' ⟨rfl, rfl⟩)
      | (go_at_call 24; (with_reducible refine (c2 _).mono ?_); rintro e w' ⟨rfl, rfl⟩))
    go_ret2
    exact ⟨ret_pair (by rw [← HR.out, if_neg HB.out, if_neg (by decide), if_neg (by decide), if_neg (by decide)] <;> first | rfl | simp), rfl⟩

end Go.Proofs.YtfbgejgapdpjcaaDoor
