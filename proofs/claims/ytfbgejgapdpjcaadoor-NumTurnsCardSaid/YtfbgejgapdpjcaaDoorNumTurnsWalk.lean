/-
  NumTurns, walked: what is turned left and right by the same is as it was; moved left and right without a sign it is its lowest bits.
-/
import Derived.Test.YtfbgejgapdpjcaaDoorNumAddsWalk
namespace Go.Proofs.YtfbgejgapdpjcaaDoor
open Go.RowKit

theorem rot_back {bs n : Nat} {a : Int} (hn : n ≤ bs) (h0 : 0 ≤ a) (h1 : a < 2 ^ bs) : rot bs (rot bs a n) (bs - n) = a := by
  have e : (2 : Int) ^ bs = 2 ^ n * 2 ^ (bs - n) := by rw [← Int.pow_add, show n + (bs - n) = bs by omega]
  have pn := pow2_pos n
  have l0 : 0 ≤ a / 2 ^ (bs - n) := Int.ediv_nonneg h0 (Int.le_of_lt (pow2_pos _))
  have l1 : a / 2 ^ (bs - n) < 2 ^ n := Int.ediv_lt_of_lt_mul (pow2_pos _) (by rw [← e]; exact h1)
  have h := Int.mul_ediv_add_emod a (2 ^ (bs - n))
  rw [rot_form (rot bs a n) (by omega), show bs - (bs - n) = n by omega, rot_form a hn, Int.add_mul_ediv_left _ _ (Int.ne_of_gt pn), Int.ediv_eq_zero_of_lt l0 l1, Int.add_mul_emod_self_left, Int.emod_eq_of_lt l0 l1]
  omega
theorem rot_zero {bs : Nat} {a : Int} (h0 : 0 ≤ a) (h1 : a < 2 ^ bs) : rot bs a 0 = a := by
  unfold rot
  rw [Int.pow_zero, Int.mul_one, Int.emod_eq_of_lt h0 h1, Nat.sub_zero, Int.ediv_eq_zero_of_lt h0 h1, Int.add_zero]
theorem or_rot {n : Nat} {a : Int} (hn : n ≤ 64) (h0 : 0 ≤ a) (h1 : a < 18446744073709551616) : bits .or .u64 (a * 2 ^ n % 18446744073709551616) (a / 2 ^ (64 - n)) = rot 64 a n := by
  have e : (18446744073709551616 : Int) = 2 ^ n * 2 ^ (64 - n) := by rw [← Int.pow_add, show n + (64 - n) = 64 by omega]; rfl
  have l0 : 0 ≤ a / 2 ^ (64 - n) := Int.ediv_nonneg h0 (Int.le_of_lt (pow2_pos _))
  have l1 : a / 2 ^ (64 - n) < 2 ^ n := Int.ediv_lt_of_lt_mul (pow2_pos _) (by rw [← e]; exact h1)
  have hm : a * 2 ^ n % 18446744073709551616 = 2 ^ n * (a % 2 ^ (64 - n)) := by rw [e, Int.mul_comm a, Int.mul_emod_mul_of_pos _ _ (pow2_pos n)]
  have hple : (2 : Int) ^ n ≤ 2 ^ 64 := by exact_mod_cast Nat.pow_le_pow_right (by decide) hn
  have hs0 : 0 ≤ a * 2 ^ n % 18446744073709551616 := Int.emod_nonneg _ (by decide)
  have hs1 : a * 2 ^ n % 18446744073709551616 < 18446744073709551616 := Int.emod_lt_of_pos _ (by decide)
  have hj := bits_join .u64 64 (by decide) wraps_u64 n (a * 2 ^ n % 18446744073709551616) (a / 2 ^ (64 - n)) hs0 (by rw [hm]; exact Int.mul_emod_right _ _) (by exact hs1) l0 l1 (by omega)
  rw [hj]; rfl

theorem or_zero0 {a : Int} (h0 : 0 ≤ a) (h1 : a < 18446744073709551616) : bits .or .u64 a 0 = a := by
  obtain ⟨m, n, rfl, e, _, _, _, h, _⟩ := bits64 (x := a) (y := 0) ⟨h0, h1⟩ (by decide)
  obtain rfl : n = 0 := by omega
  rw [h, Nat.or_zero]
theorem or_zero {a : Int} (h0 : 0 ≤ a) (h1 : a < 18446744073709551616) : bits .or .u64 a (a / 2 ^ (64 - 0)) = a := by
  rw [Int.ediv_eq_zero_of_lt h0 (show a < 2 ^ (64 - 0) from h1)]
  exact or_zero0 h0 h1

set_option maxRecDepth 100000 in
set_option maxHeartbeats 4000000 in
theorem numTurns_walk (a n : Int) (ha0 : 0 ≤ a) (ha1 : a ≤ 18446744073709551615) (hn0 : 0 ≤ n) (hn1 : n ≤ 18446744073709551615) (w : World) (hLaid : Laid w) :
    Calls Tryd.prog 6 #[.int .u64 a, .int .u64 n] w fun e w' => e = .returned (.bool true) ∧ Below w.heap.size w w' := by
  have hB := Below.refl w.heap.size w
  obtain ⟨k, hk⟩ : ∃ k : Nat, n % 64 = k := Int.eq_ofNat_of_zero_le (by omega)
  obtain ⟨j, hj⟩ : ∃ j : Nat, n % 32 = j := Int.eq_ofNat_of_zero_le (by omega)
  have hk2 : k < 64 := by omega
  have hj2 : j < 32 := by omega
  obtain ⟨x, hx⟩ : ∃ x, a % 4294967296 = x := ⟨_, rfl⟩
  have hx2 : 0 ≤ x ∧ x < 4294967296 := by omega
  have ekm : (n % (64 : Nat)).toNat = k := by omega
  have ejm : (n % 2 ^ 32 % (32 : Nat)).toNat = j := by omega
  obtain ⟨S, hS⟩ : ∃ S, a * 2 ^ k % 18446744073709551616 = S := ⟨_, rfl⟩
  have hS2 : 0 ≤ S ∧ S < 18446744073709551616 := by omega
  have hwS : IntKind.u64.wrap (a * 2 ^ k) = S := by rw [IntKind.wrap_u64, hS]
  obtain ⟨X, hX⟩ : ∃ X, rot 64 a k = X := ⟨_, rfl⟩
  have hX2 := mov_bd (kind := 3) (bs := 64) (n := k) (by decide) ha0 (show a < 2 ^ 64 by omega) (by omega)
  rw [mov3_rot, hX] at hX2
  have hX3 : 0 ≤ X ∧ X ≤ 18446744073709551615 := by omega
  have hXb := rot_back (bs := 64) (n := k) (by omega) ha0 (show a < 2 ^ 64 by omega)
  rw [hX] at hXb
  obtain ⟨Y, hY⟩ : ∃ Y, rot 32 x j = Y := ⟨_, rfl⟩
  have hY2 := mov_bd (kind := 3) (bs := 32) (n := j) (by decide) hx2.1 (show x < 2 ^ 32 by omega) (by omega)
  rw [mov3_rot, hY] at hY2
  have hY3 : 0 ≤ Y ∧ Y < 4294967296 := by omega
  have hYb := rot_back (bs := 32) (n := j) (by omega) hx2.1 (show x < 2 ^ 32 by omega)
  rw [hY] at hYb
  have kv : ∀ kind z : Int, 10 ≤ kind ∧ kind ≤ 24 → 0 ≤ z ∧ z < 4294967296 → two (96 + kind) z n = twoK kind 32 z (n % 2 ^ 32) := fun kind z hkd hz => by
    rw [two_32_k (by omega) (by omega), show 96 + kind - 106 + 10 = kind by omega, Int.emod_eq_of_lt hz.1 (show z < 2 ^ 32 from hz.2)]
  have c1 := ltwo_is 134 a n (x := S) (by rw [show (134 : Int) = 114 + 20 from rfl, k_val64 20 a n (by decide)]; show mov 0 64 a (n % (64 : Nat)).toNat = S; rw [ekm, ← hS]; rfl) (by omega) (by omega)
  have c2 := ltwo_is 136 S n (x := S / 2 ^ k) (by rw [show (136 : Int) = 114 + 22 from rfl, k_val64 22 S n (by decide)]; show mov 2 64 S (n % (64 : Nat)).toNat = S / 2 ^ k; rw [ekm]; rfl) (by omega) (by omega)
  have c3 := ltwo_is 137 a n (x := X) (by rw [show (137 : Int) = 114 + 23 from rfl, k_val64 23 a n (by decide)]; show mov 3 64 a (n % (64 : Nat)).toNat = X; rw [ekm, mov3_rot, hX]) (by omega) (by omega)
  have c4 := ltwo_is 138 X n (x := a) (by rw [show (138 : Int) = 114 + 24 from rfl, k_val64 24 X n (by decide)]; show mov 4 64 X (n % (64 : Nat)).toNat = a; rw [ekm, mov4_rot X (by omega), hXb]) hX3 (by omega)
  have c5 := ltwo_is 119 x n (x := Y) (by rw [show (119 : Int) = 96 + 23 from rfl, kv 23 x (by decide) hx2]; show mov 3 32 x (n % 2 ^ 32 % (32 : Nat)).toNat = Y; rw [ejm, mov3_rot, hY]) (by omega) (by omega)
  have c6 := ltwo_is 120 Y n (x := x) (by rw [show (120 : Int) = 96 + 24 from rfl, kv 24 Y (by decide) hY3]; show mov 4 32 Y (n % 2 ^ 32 % (32 : Nat)).toNat = x; rw [ejm, mov4_rot Y (by omega), hYb]) (by omega) (by omega)
  obtain ⟨Z, hZ⟩ : ∃ Z, x * 2 ^ j % 4294967296 = Z := ⟨_, rfl⟩
  have hZ2 : 0 ≤ Z ∧ Z < 4294967296 := by omega
  have hwZ : IntKind.u32.wrap (x * 2 ^ j) = Z := by rw [IntKind.wrap_u32, hZ]
  have c7 := ltwo_is 116 x n (x := Z) (by rw [show (116 : Int) = 96 + 20 from rfl, kv 20 x (by decide) hx2]; show mov 0 32 x (n % 2 ^ 32 % (32 : Nat)).toNat = Z; rw [ejm, ← hZ]; rfl) (by omega) (by omega)
  have hor := or_rot (n := k) (by omega) ha0 (by omega)
  rw [hS, hX] at hor
  clear hX hX2 hXb hY hY2 hYb kv ekm ejm
  by_cases h0 : k = 0
  · subst h0
    have hS0 : S = a := by rw [← hS]; simp; omega
    have hXa : X = a := by rw [← hor, hS0]; exact or_zero ha0 (by omega)
    have hoz := or_zero ha0 (show a < 18446744073709551616 by omega)
    have hhz : bits .or .u64 a 0 = a := by simpa using or_zero0 ha0 (show a < 18446744073709551616 by omega)
    subst hS0
    subst hXa
    clear hor hS hoz
    go_enter Tryd.func6, Tryd.ntmps6
    go_wp2_with (first
      | (go_at_call 12; (with_reducible refine (head_num _ hLaid).mono ?_); rintro e w1 ⟨rfl, hb⟩; replace hB := bt hB hb; clear hb)
      | (go_at_call 18; (with_reducible refine (c1 _).mono ?_); rintro e w1 ⟨rfl, hb⟩; replace hB := bt hB hb; clear hb)
      | (go_at_call 18; (with_reducible refine (c2 _).mono ?_); rintro e w1 ⟨rfl, hb⟩; replace hB := bt hB hb; clear hb)
      | (go_at_call 18; (with_reducible refine (c3 _).mono ?_); rintro e w1 ⟨rfl, hb⟩; replace hB := bt hB hb; clear hb)
      | (go_at_call 18; (with_reducible refine (c4 _).mono ?_); rintro e w1 ⟨rfl, hb⟩; replace hB := bt hB hb; clear hb)
      | (go_at_call 18; (with_reducible refine (c5 _).mono ?_); rintro e w1 ⟨rfl, hb⟩; replace hB := bt hB hb; clear hb)
      | (go_at_call 18; (with_reducible refine (c6 _).mono ?_); rintro e w1 ⟨rfl, hb⟩; replace hB := bt hB hb; clear hb)
      | (go_at_call 18; (with_reducible refine (c7 _).mono ?_); rintro e w1 ⟨rfl, hb⟩; replace hB := bt hB hb; clear hb))
    go_ret
    first
      | exact ⟨rfl, hB⟩
      | (refine ⟨ret_true ?_, hB⟩; simp; done)
      | (refine ⟨ret_true ?_, hB⟩; rw [show min (0 : Int) 1 = 0 by decide, Int.mul_zero, show IntKind.u64.wrap 0 = 0 by decide, hhz]; simp)
  · have hm1 : min (k : Int) 1 = 1 := by omega
    have hm2 : (64 - (k : Int)) % 64 = 64 - k := by omega
    have hm3 : (64 - (k : Int)).toNat = 64 - k := by omega
    have hlb : 0 ≤ a / 2 ^ (64 - k) ∧ a / 2 ^ (64 - k) ≤ 18446744073709551615 := by
      have := Int.ediv_le_self (a := a) (2 ^ (64 - k)) ha0
      have := Int.ediv_nonneg (a := a) (b := 2 ^ (64 - k)) ha0 (Int.le_of_lt (pow2_pos _))
      omega
    clear hS
    go_enter Tryd.func6, Tryd.ntmps6
    go_wp2_with (first
      | (go_at_call 12; (with_reducible refine (head_num _ hLaid).mono ?_); rintro e w1 ⟨rfl, hb⟩; replace hB := bt hB hb; clear hb)
      | (go_at_call 18; (with_reducible refine (c1 _).mono ?_); rintro e w1 ⟨rfl, hb⟩; replace hB := bt hB hb; clear hb)
      | (go_at_call 18; (with_reducible refine (c2 _).mono ?_); rintro e w1 ⟨rfl, hb⟩; replace hB := bt hB hb; clear hb)
      | (go_at_call 18; (with_reducible refine (c3 _).mono ?_); rintro e w1 ⟨rfl, hb⟩; replace hB := bt hB hb; clear hb)
      | (go_at_call 18; (with_reducible refine (c4 _).mono ?_); rintro e w1 ⟨rfl, hb⟩; replace hB := bt hB hb; clear hb)
      | (go_at_call 18; (with_reducible refine (c5 _).mono ?_); rintro e w1 ⟨rfl, hb⟩; replace hB := bt hB hb; clear hb)
      | (go_at_call 18; (with_reducible refine (c6 _).mono ?_); rintro e w1 ⟨rfl, hb⟩; replace hB := bt hB hb; clear hb)
      | (go_at_call 18; (with_reducible refine (c7 _).mono ?_); rintro e w1 ⟨rfl, hb⟩; replace hB := bt hB hb; clear hb))
    all_goals go_ret
    all_goals first
      | exact ⟨rfl, hB⟩
      | exact ⟨ret_true (by rw [beq_iff_eq, IntWalk.u64_in _ hlb, hor]), hB⟩
      | exact ⟨ret_true (by have h1 : (k : Int) = 1 := by omega
                            rw [beq_iff_eq, h1, Int.mul_one, IntWalk.u64_in _ hlb, hor]), hB⟩
end Go.Proofs.YtfbgejgapdpjcaaDoor
