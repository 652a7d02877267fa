/-
  NumDivides, walked: a quotient times the divisor, and the rest, is the number; the rest is less than the divisor.
-/
import Derived.Test.YtfbgejgapdpjcaaDoorNumAddsWalk
namespace Go.Proofs.YtfbgejgapdpjcaaDoor
open Go.RowKit

theorem back_s {x y m p q r a b : Int} (hq : q = x.tdiv y % m) (hr : r = x.tmod y % m) (ha : a = x % m) (hb : b = y % m) (hp : p = (q * b % m + r) % m) : p = a := by
  rw [hp, hq, hr, hb, ha]
  have h := Int.tdiv_mul_add_tmod x y
  rw [Int.add_emod, Int.emod_emod_of_dvd _ (Int.dvd_refl m), ← Int.mul_emod, Int.emod_emod_of_dvd _ (Int.dvd_refl m), ← Int.add_emod, h]

theorem dvd_s {bs : Nat} (x y : Int) (hy : y ≠ 0) (ho : ¬ (sgnv bs x = -(2 ^ (bs - 1)) ∧ sgnv bs y = -1)) : dvd 0 bs x y = ((sgnv bs x).tdiv (sgnv bs y) % 2 ^ bs, 0) := by
  unfold dvd; rw [if_neg hy, if_pos rfl, if_neg ho]
theorem rem_s {bs : Nat} (x y : Int) (hy : y ≠ 0) : dvd 2 bs x y = ((sgnv bs x).tmod (sgnv bs y) % 2 ^ bs, 0) := by
  unfold dvd; rw [if_neg hy, if_neg (by decide), if_neg (by decide), if_pos rfl]
  split
  · next h => rw [h, Int.tmod_neg, Int.tmod_one]; simp
  · rfl
theorem dvd_over {bs : Nat} (x y : Int) (hy : y ≠ 0) (ho : sgnv bs x = -(2 ^ (bs - 1)) ∧ sgnv bs y = -1) : dvd 0 bs x y = (0, 6) ∧ dvd 2 bs x y = (0, 0) := by
  unfold dvd
  rw [if_neg hy, if_pos rfl, if_pos ho, if_neg hy, if_neg (by decide), if_neg (by decide), if_pos rfl, if_pos ho.2]
  exact ⟨rfl, rfl⟩
theorem dvd_u (bs : Nat) (x y : Int) (hy : y ≠ 0) : dvd 1 bs x y = (x / y, 0) ∧ dvd 3 bs x y = (x % y, 0) := by
  unfold dvd
  rw [if_neg hy, if_neg (by decide), if_pos rfl, if_neg hy, if_neg (by decide), if_neg (by decide), if_neg (by decide)]
  exact ⟨rfl, rfl⟩
theorem dvd_zero (k : Int) (bs : Nat) (x : Int) : dvd k bs x 0 = (0, 6) := by unfold dvd; rw [if_pos rfl]

set_option maxRecDepth 100000 in
set_option maxHeartbeats 4000000 in
theorem numDivides_32s (a b : Int) (ha : 0 ≤ a ∧ a ≤ 18446744073709551615) (hb : 0 ≤ b ∧ b ≤ 18446744073709551615) (w : World) (hLaid : Laid w) :
    Calls Tryd.prog 5 #[.int .u64 a, .int .u64 b, .bool true, .bool true] w fun e w' => e = .returned (.bool true) ∧ Below w.heap.size w w' := by
  have hB := Below.refl w.heap.size w
  obtain ⟨x, hx⟩ : ∃ x, a % 4294967296 = x := ⟨_, rfl⟩
  obtain ⟨y, hy⟩ : ∃ y, b % 4294967296 = y := ⟨_, rfl⟩
  have hx2 : 0 ≤ x ∧ x < 4294967296 := by omega
  have hy2 : 0 ≤ y ∧ y < 4294967296 := by omega
  by_cases hz : y = 0
  · have c1 := two_is 109 x y (x := 0) (y := 6) (by rw [show (109 : Int) = 96 + 13 from rfl, k_val32 13 x y (by decide) (by omega) (by omega)]; show dvd 0 32 x y = _; rw [hz, dvd_zero]) (by omega) (by omega)
    have c2 := two_is 111 x y (x := 0) (y := 6) (by rw [show (111 : Int) = 96 + 15 from rfl, k_val32 15 x y (by decide) (by omega) (by omega)]; show dvd 2 32 x y = _; rw [hz, dvd_zero]) (by omega) (by omega)
    have hzb : (y == 0) = true := by simp [hz]
    clear hz
    go_enter Tryd.func5, Tryd.ntmps5
    go_wp2_with (first
      | (go_at_call 12; (with_reducible refine (head_num _ hLaid).mono ?_); rintro e w1 ⟨rfl, hb⟩; replace hB := bt hB hb; clear hb)
      | (go_at_call 16; (with_reducible refine (c1 _).mono ?_); rintro e w1 ⟨rfl, hb⟩; replace hB := bt hB hb; clear hb)
      | (go_at_call 16; (with_reducible refine (c2 _).mono ?_); rintro e w1 ⟨rfl, hb⟩; replace hB := bt hB hb; clear hb))
    go_ret
    exact ⟨by first | rfl | exact ret_true (by simp) | exact ret_true (by simp; omega), hB⟩
  · have hzb : (y == 0) = false := by simp [hz]
    by_cases ho : sgnv 32 x = -(2 ^ (32 - 1)) ∧ sgnv 32 y = -1
    · obtain ⟨e1, e2⟩ := dvd_over x y hz ho
      have c1 := two_is 109 x y (x := 0) (y := 6) (by rw [show (109 : Int) = 96 + 13 from rfl, k_val32 13 x y (by decide) (by omega) (by omega)]; exact e1) (by omega) (by omega)
      have c2 := two_is 111 x y (x := 0) (y := 0) (by rw [show (111 : Int) = 96 + 15 from rfl, k_val32 15 x y (by decide) (by omega) (by omega)]; exact e2) (by omega) (by omega)
      clear ho hz
      go_enter Tryd.func5, Tryd.ntmps5
      go_wp2_with (first
        | (go_at_call 12; (with_reducible refine (head_num _ hLaid).mono ?_); rintro e w1 ⟨rfl, hb⟩; replace hB := bt hB hb; clear hb)
        | (go_at_call 16; (with_reducible refine (c1 _).mono ?_); rintro e w1 ⟨rfl, hb⟩; replace hB := bt hB hb; clear hb)
        | (go_at_call 16; (with_reducible refine (c2 _).mono ?_); rintro e w1 ⟨rfl, hb⟩; replace hB := bt hB hb; clear hb))
      go_ret
      exact ⟨by first | rfl | exact ret_true (by simp) | exact ret_true (by simp; omega), hB⟩
    · have e1 := dvd_s (bs := 32) x y hz ho
      have e2 := rem_s (bs := 32) x y hz
      have sx := (sgnv_mod (bs := 32) x (by omega) (by simp; omega)).symm
      have sy := (sgnv_mod (bs := 32) y (by omega) (by simp; omega)).symm
      obtain ⟨q, hq⟩ : ∃ q, q = (sgnv 32 x).tdiv (sgnv 32 y) % 2 ^ 32 := ⟨_, rfl⟩
      obtain ⟨r, hr⟩ : ∃ r, r = (sgnv 32 x).tmod (sgnv 32 y) % 2 ^ 32 := ⟨_, rfl⟩
      have hback := fun p hp => back_s (p := p) hq hr sx sy hp
      rw [← hq] at e1
      rw [← hr] at e2
      have hq1 : 0 ≤ q ∧ q < 4294967296 := by omega
      have hr1 : 0 ≤ r ∧ r < 4294967296 := by omega
      have c1 := two_is 109 x y (x := q) (y := 0) (by rw [show (109 : Int) = 96 + 13 from rfl, k_val32 13 x y (by decide) (by omega) (by omega)]; exact e1) (by omega) (by omega)
      have c2 := two_is 111 x y (x := r) (y := 0) (by rw [show (111 : Int) = 96 + 15 from rfl, k_val32 15 x y (by decide) (by omega) (by omega)]; exact e2) (by omega) (by omega)
      obtain ⟨m, hm⟩ : ∃ m, m = q * y % 2 ^ 32 := ⟨_, rfl⟩
      rw [← hm] at hback
      have hm1 : 0 ≤ m ∧ m < 4294967296 := by omega
      have c3 := ltwo_is 108 q y (x := m) (by rw [show (108 : Int) = 96 + 12 from rfl, k_val32 12 q y (by decide) (by omega) (by omega)]; exact hm.symm) (by omega) (by omega)
      have c4 := ltwo_is 106 m r (x := x) (by rw [show (106 : Int) = 96 + 10 from rfl, k_val32 10 m r (by decide) (by omega) (by omega)]; exact hback _ rfl) (by omega) (by omega)
      clear hz ho e1 e2 sx sy hq hr hm hback
      go_enter Tryd.func5, Tryd.ntmps5
      go_wp2_with (first
        | (go_at_call 12; (with_reducible refine (head_num _ hLaid).mono ?_); rintro e w1 ⟨rfl, hb⟩; replace hB := bt hB hb; clear hb)
        | (go_at_call 16; (with_reducible refine (c1 _).mono ?_); rintro e w1 ⟨rfl, hb⟩; replace hB := bt hB hb; clear hb)
        | (go_at_call 16; (with_reducible refine (c2 _).mono ?_); rintro e w1 ⟨rfl, hb⟩; replace hB := bt hB hb; clear hb)
        | (go_at_call 18; (with_reducible refine (c3 _).mono ?_); rintro e w1 ⟨rfl, hb⟩; replace hB := bt hB hb; clear hb)
        | (go_at_call 18; (with_reducible refine (c4 _).mono ?_); rintro e w1 ⟨rfl, hb⟩; replace hB := bt hB hb; clear hb))
      go_ret
      exact ⟨by first | rfl | exact ret_true (by simp) | exact ret_true (by simp; omega), hB⟩

set_option maxRecDepth 100000 in
set_option maxHeartbeats 4000000 in
theorem numDivides_32u (a b : Int) (ha : 0 ≤ a ∧ a ≤ 18446744073709551615) (hb : 0 ≤ b ∧ b ≤ 18446744073709551615) (w : World) (hLaid : Laid w) :
    Calls Tryd.prog 5 #[.int .u64 a, .int .u64 b, .bool true, .bool false] w fun e w' => e = .returned (.bool true) ∧ Below w.heap.size w w' := by
  have hB := Below.refl w.heap.size w
  obtain ⟨x, hx⟩ : ∃ x, a % 4294967296 = x := ⟨_, rfl⟩
  obtain ⟨y, hy⟩ : ∃ y, b % 4294967296 = y := ⟨_, rfl⟩
  have hx2 : 0 ≤ x ∧ x < 4294967296 := by omega
  have hy2 : 0 ≤ y ∧ y < 4294967296 := by omega
  by_cases hz : y = 0
  · have c1 := two_is 110 x y (x := 0) (y := 6) (by rw [show (110 : Int) = 96 + 14 from rfl, k_val32 14 x y (by decide) (by omega) (by omega)]; show dvd 1 32 x y = _; rw [hz, dvd_zero]) (by omega) (by omega)
    have c2 := two_is 112 x y (x := 0) (y := 6) (by rw [show (112 : Int) = 96 + 16 from rfl, k_val32 16 x y (by decide) (by omega) (by omega)]; show dvd 3 32 x y = _; rw [hz, dvd_zero]) (by omega) (by omega)
    have hzb : (y == 0) = true := by simp [hz]
    clear hz
    go_enter Tryd.func5, Tryd.ntmps5
    go_wp2_with (first
      | (go_at_call 12; (with_reducible refine (head_num _ hLaid).mono ?_); rintro e w1 ⟨rfl, hb⟩; replace hB := bt hB hb; clear hb)
      | (go_at_call 16; (with_reducible refine (c1 _).mono ?_); rintro e w1 ⟨rfl, hb⟩; replace hB := bt hB hb; clear hb)
      | (go_at_call 16; (with_reducible refine (c2 _).mono ?_); rintro e w1 ⟨rfl, hb⟩; replace hB := bt hB hb; clear hb))
    go_ret
    exact ⟨by first | rfl | exact ret_true (by simp) | exact ret_true (by simp; omega), hB⟩
  · obtain ⟨e1, e2⟩ := dvd_u 32 x y hz
    have hm := Int.mul_ediv_add_emod x y
    have hq2 := Int.ediv_le_self (a := x) y (by omega)
    have hq1 := Int.ediv_nonneg (a := x) (b := y) (by omega) (by omega)
    have hr1 := Int.emod_nonneg x hz
    have hr2 := Int.emod_lt_of_pos x (show 0 < y by omega)
    rw [Int.mul_comm] at hm
    generalize x / y = q at e1 hm hq1 hq2
    generalize x % y = r at e2 hm hr1 hr2
    have hqb : 0 ≤ q * y ∧ q * y ≤ x := ⟨Int.mul_nonneg hq1 (by omega), by omega⟩
    have c1 := two_is 110 x y (x := q) (y := 0) (by rw [show (110 : Int) = 96 + 14 from rfl, k_val32 14 x y (by decide) (by omega) (by omega)]; exact e1) (by omega) (by omega)
    have c2 := two_is 112 x y (x := r) (y := 0) (by rw [show (112 : Int) = 96 + 16 from rfl, k_val32 16 x y (by decide) (by omega) (by omega)]; exact e2) (by omega) (by omega)
    have c3 := ltwo_is 108 q y (x := q * y) (by rw [show (108 : Int) = 96 + 12 from rfl, k_val32 12 q y (by decide) (by omega) (by omega)]; show q * y % 2 ^ 32 = _; exact Int.emod_eq_of_lt hqb.1 (by omega)) (by omega) (by omega)
    have c4 := ltwo_is 106 (q * y) r (x := x) (by rw [show (106 : Int) = 96 + 10 from rfl, k_val32 10 (q * y) r (by decide) (by omega) (by omega)]; show (q * y + r) % 2 ^ 32 = _; rw [hm]; exact Int.emod_eq_of_lt (by omega) (by omega)) (by omega) (by omega)
    generalize q * y = m at c3 c4 hm hqb
    clear hz e1 e2 hm
    go_enter Tryd.func5, Tryd.ntmps5
    go_wp2_with (first
      | (go_at_call 12; (with_reducible refine (head_num _ hLaid).mono ?_); rintro e w1 ⟨rfl, hb⟩; replace hB := bt hB hb; clear hb)
      | (go_at_call 16; (with_reducible refine (c1 _).mono ?_); rintro e w1 ⟨rfl, hb⟩; replace hB := bt hB hb; clear hb)
      | (go_at_call 16; (with_reducible refine (c2 _).mono ?_); rintro e w1 ⟨rfl, hb⟩; replace hB := bt hB hb; clear hb)
      | (go_at_call 18; (with_reducible refine (c3 _).mono ?_); rintro e w1 ⟨rfl, hb⟩; replace hB := bt hB hb; clear hb)
      | (go_at_call 18; (with_reducible refine (c4 _).mono ?_); rintro e w1 ⟨rfl, hb⟩; replace hB := bt hB hb; clear hb))
    go_ret
    exact ⟨by first | rfl | exact ret_true (by simp) | exact ret_true (by simp; omega), hB⟩

set_option maxRecDepth 100000 in
set_option maxHeartbeats 4000000 in
theorem numDivides_64s (a b : Int) (ha : 0 ≤ a ∧ a ≤ 18446744073709551615) (hb : 0 ≤ b ∧ b ≤ 18446744073709551615) (w : World) (hLaid : Laid w) :
    Calls Tryd.prog 5 #[.int .u64 a, .int .u64 b, .bool false, .bool true] w fun e w' => e = .returned (.bool true) ∧ Below w.heap.size w w' := by
  have hB := Below.refl w.heap.size w
  have hx2 : 0 ≤ a ∧ a < 18446744073709551616 := by omega
  have hy2 : 0 ≤ b ∧ b < 18446744073709551616 := by omega
  by_cases hz : b = 0
  · have c1 := two_is 127 a b (x := 0) (y := 6) (by rw [show (127 : Int) = 114 + 13 from rfl, k_val64 13 a b (by decide)]; show dvd 0 64 a b = _; rw [hz, dvd_zero]) (by omega) (by omega)
    have c2 := two_is 129 a b (x := 0) (y := 6) (by rw [show (129 : Int) = 114 + 15 from rfl, k_val64 15 a b (by decide)]; show dvd 2 64 a b = _; rw [hz, dvd_zero]) (by omega) (by omega)
    have hzb : (b == 0) = true := by simp [hz]
    clear hz
    go_enter Tryd.func5, Tryd.ntmps5
    go_wp2_with (first
      | (go_at_call 12; (with_reducible refine (head_num _ hLaid).mono ?_); rintro e w1 ⟨rfl, hb⟩; replace hB := bt hB hb; clear hb)
      | (go_at_call 16; (with_reducible refine (c1 _).mono ?_); rintro e w1 ⟨rfl, hb⟩; replace hB := bt hB hb; clear hb)
      | (go_at_call 16; (with_reducible refine (c2 _).mono ?_); rintro e w1 ⟨rfl, hb⟩; replace hB := bt hB hb; clear hb))
    go_ret
    exact ⟨by first | rfl | exact ret_true (by simp) | exact ret_true (by simp; omega), hB⟩
  · have hzb : (b == 0) = false := by simp [hz]
    by_cases ho : sgnv 64 a = -(2 ^ (64 - 1)) ∧ sgnv 64 b = -1
    · obtain ⟨e1, e2⟩ := dvd_over a b hz ho
      have c1 := two_is 127 a b (x := 0) (y := 6) (by rw [show (127 : Int) = 114 + 13 from rfl, k_val64 13 a b (by decide)]; exact e1) (by omega) (by omega)
      have c2 := two_is 129 a b (x := 0) (y := 0) (by rw [show (129 : Int) = 114 + 15 from rfl, k_val64 15 a b (by decide)]; exact e2) (by omega) (by omega)
      clear ho hz
      go_enter Tryd.func5, Tryd.ntmps5
      go_wp2_with (first
        | (go_at_call 12; (with_reducible refine (head_num _ hLaid).mono ?_); rintro e w1 ⟨rfl, hb⟩; replace hB := bt hB hb; clear hb)
        | (go_at_call 16; (with_reducible refine (c1 _).mono ?_); rintro e w1 ⟨rfl, hb⟩; replace hB := bt hB hb; clear hb)
        | (go_at_call 16; (with_reducible refine (c2 _).mono ?_); rintro e w1 ⟨rfl, hb⟩; replace hB := bt hB hb; clear hb))
      go_ret
      exact ⟨by first | rfl | exact ret_true (by simp) | exact ret_true (by simp; omega), hB⟩
    · have e1 := dvd_s (bs := 64) a b hz ho
      have e2 := rem_s (bs := 64) a b hz
      have sx := (sgnv_mod (bs := 64) a (by omega) (by simp; omega)).symm
      have sy := (sgnv_mod (bs := 64) b (by omega) (by simp; omega)).symm
      obtain ⟨q, hq⟩ : ∃ q, q = (sgnv 64 a).tdiv (sgnv 64 b) % 2 ^ 64 := ⟨_, rfl⟩
      obtain ⟨r, hr⟩ : ∃ r, r = (sgnv 64 a).tmod (sgnv 64 b) % 2 ^ 64 := ⟨_, rfl⟩
      have hback := fun p hp => back_s (p := p) hq hr sx sy hp
      rw [← hq] at e1
      rw [← hr] at e2
      have hq1 : 0 ≤ q ∧ q < 18446744073709551616 := by omega
      have hr1 : 0 ≤ r ∧ r < 18446744073709551616 := by omega
      have c1 := two_is 127 a b (x := q) (y := 0) (by rw [show (127 : Int) = 114 + 13 from rfl, k_val64 13 a b (by decide)]; exact e1) (by omega) (by omega)
      have c2 := two_is 129 a b (x := r) (y := 0) (by rw [show (129 : Int) = 114 + 15 from rfl, k_val64 15 a b (by decide)]; exact e2) (by omega) (by omega)
      obtain ⟨m, hm⟩ : ∃ m, m = q * b % 2 ^ 64 := ⟨_, rfl⟩
      rw [← hm] at hback
      have hm1 : 0 ≤ m ∧ m < 18446744073709551616 := by omega
      have c3 := ltwo_is 126 q b (x := m) (by rw [show (126 : Int) = 114 + 12 from rfl, k_val64 12 q b (by decide)]; exact hm.symm) (by omega) (by omega)
      have c4 := ltwo_is 124 m r (x := a) (by rw [show (124 : Int) = 114 + 10 from rfl, k_val64 10 m r (by decide)]; exact hback _ rfl) (by omega) (by omega)
      clear hz ho e1 e2 sx sy hq hr hm hback
      go_enter Tryd.func5, Tryd.ntmps5
      go_wp2_with (first
        | (go_at_call 12; (with_reducible refine (head_num _ hLaid).mono ?_); rintro e w1 ⟨rfl, hb⟩; replace hB := bt hB hb; clear hb)
        | (go_at_call 16; (with_reducible refine (c1 _).mono ?_); rintro e w1 ⟨rfl, hb⟩; replace hB := bt hB hb; clear hb)
        | (go_at_call 16; (with_reducible refine (c2 _).mono ?_); rintro e w1 ⟨rfl, hb⟩; replace hB := bt hB hb; clear hb)
        | (go_at_call 18; (with_reducible refine (c3 _).mono ?_); rintro e w1 ⟨rfl, hb⟩; replace hB := bt hB hb; clear hb)
        | (go_at_call 18; (with_reducible refine (c4 _).mono ?_); rintro e w1 ⟨rfl, hb⟩; replace hB := bt hB hb; clear hb))
      go_ret
      exact ⟨by first | rfl | exact ret_true (by simp) | exact ret_true (by simp; omega), hB⟩

set_option maxRecDepth 100000 in
set_option maxHeartbeats 4000000 in
theorem numDivides_64u (a b : Int) (ha : 0 ≤ a ∧ a ≤ 18446744073709551615) (hb : 0 ≤ b ∧ b ≤ 18446744073709551615) (w : World) (hLaid : Laid w) :
    Calls Tryd.prog 5 #[.int .u64 a, .int .u64 b, .bool false, .bool false] w fun e w' => e = .returned (.bool true) ∧ Below w.heap.size w w' := by
  have hB := Below.refl w.heap.size w
  have hx2 : 0 ≤ a ∧ a < 18446744073709551616 := by omega
  have hy2 : 0 ≤ b ∧ b < 18446744073709551616 := by omega
  by_cases hz : b = 0
  · have c1 := two_is 128 a b (x := 0) (y := 6) (by rw [show (128 : Int) = 114 + 14 from rfl, k_val64 14 a b (by decide)]; show dvd 1 64 a b = _; rw [hz, dvd_zero]) (by omega) (by omega)
    have c2 := two_is 130 a b (x := 0) (y := 6) (by rw [show (130 : Int) = 114 + 16 from rfl, k_val64 16 a b (by decide)]; show dvd 3 64 a b = _; rw [hz, dvd_zero]) (by omega) (by omega)
    have hzb : (b == 0) = true := by simp [hz]
    clear hz
    go_enter Tryd.func5, Tryd.ntmps5
    go_wp2_with (first
      | (go_at_call 12; (with_reducible refine (head_num _ hLaid).mono ?_); rintro e w1 ⟨rfl, hb⟩; replace hB := bt hB hb; clear hb)
      | (go_at_call 16; (with_reducible refine (c1 _).mono ?_); rintro e w1 ⟨rfl, hb⟩; replace hB := bt hB hb; clear hb)
      | (go_at_call 16; (with_reducible refine (c2 _).mono ?_); rintro e w1 ⟨rfl, hb⟩; replace hB := bt hB hb; clear hb))
    go_ret
    exact ⟨by first | rfl | exact ret_true (by simp) | exact ret_true (by simp; omega), hB⟩
  · obtain ⟨e1, e2⟩ := dvd_u 64 a b hz
    have hm := Int.mul_ediv_add_emod a b
    have hq2 := Int.ediv_le_self (a := a) b (by omega)
    have hq1 := Int.ediv_nonneg (a := a) (b := b) (by omega) (by omega)
    have hr1 := Int.emod_nonneg a hz
    have hr2 := Int.emod_lt_of_pos a (show 0 < b by omega)
    rw [Int.mul_comm] at hm
    generalize a / b = q at e1 hm hq1 hq2
    generalize a % b = r at e2 hm hr1 hr2
    have hqb : 0 ≤ q * b ∧ q * b ≤ a := ⟨Int.mul_nonneg hq1 (by omega), by omega⟩
    have c1 := two_is 128 a b (x := q) (y := 0) (by rw [show (128 : Int) = 114 + 14 from rfl, k_val64 14 a b (by decide)]; exact e1) (by omega) (by omega)
    have c2 := two_is 130 a b (x := r) (y := 0) (by rw [show (130 : Int) = 114 + 16 from rfl, k_val64 16 a b (by decide)]; exact e2) (by omega) (by omega)
    have c3 := ltwo_is 126 q b (x := q * b) (by rw [show (126 : Int) = 114 + 12 from rfl, k_val64 12 q b (by decide)]; show q * b % 2 ^ 64 = _; exact Int.emod_eq_of_lt hqb.1 (by omega)) (by omega) (by omega)
    have c4 := ltwo_is 124 (q * b) r (x := a) (by rw [show (124 : Int) = 114 + 10 from rfl, k_val64 10 (q * b) r (by decide)]; show (q * b + r) % 2 ^ 64 = _; rw [hm]; exact Int.emod_eq_of_lt (by omega) (by omega)) (by omega) (by omega)
    generalize q * b = m at c3 c4 hm hqb
    clear hz e1 e2 hm
    go_enter Tryd.func5, Tryd.ntmps5
    go_wp2_with (first
      | (go_at_call 12; (with_reducible refine (head_num _ hLaid).mono ?_); rintro e w1 ⟨rfl, hb⟩; replace hB := bt hB hb; clear hb)
      | (go_at_call 16; (with_reducible refine (c1 _).mono ?_); rintro e w1 ⟨rfl, hb⟩; replace hB := bt hB hb; clear hb)
      | (go_at_call 16; (with_reducible refine (c2 _).mono ?_); rintro e w1 ⟨rfl, hb⟩; replace hB := bt hB hb; clear hb)
      | (go_at_call 18; (with_reducible refine (c3 _).mono ?_); rintro e w1 ⟨rfl, hb⟩; replace hB := bt hB hb; clear hb)
      | (go_at_call 18; (with_reducible refine (c4 _).mono ?_); rintro e w1 ⟨rfl, hb⟩; replace hB := bt hB hb; clear hb))
    go_ret
    exact ⟨by first | rfl | exact ret_true (by simp) | exact ret_true (by simp; omega), hB⟩

theorem numDivides_walk (a b : Int) (narrow sign : Bool) (ha0 : 0 ≤ a) (ha1 : a ≤ 18446744073709551615) (hb0 : 0 ≤ b) (hb1 : b ≤ 18446744073709551615) (w : World) (hLaid : Laid w) :
    Calls Tryd.prog 5 #[.int .u64 a, .int .u64 b, .bool narrow, .bool sign] w fun e w' => e = .returned (.bool true) ∧ Below w.heap.size w w' := by
  cases narrow <;> cases sign
  · exact numDivides_64u a b ⟨ha0, ha1⟩ ⟨hb0, hb1⟩ w hLaid
  · exact numDivides_64s a b ⟨ha0, ha1⟩ ⟨hb0, hb1⟩ w hLaid
  · exact numDivides_32u a b ⟨ha0, ha1⟩ ⟨hb0, hb1⟩ w hLaid
  · exact numDivides_32s a b ⟨ha0, ha1⟩ ⟨hb0, hb1⟩ w hLaid
end Go.Proofs.YtfbgejgapdpjcaaDoor
