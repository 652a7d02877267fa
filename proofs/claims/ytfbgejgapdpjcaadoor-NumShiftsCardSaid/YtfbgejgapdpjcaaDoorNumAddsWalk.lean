/-
  NumAdds, walked: what is added and taken away again is as it was; a number from itself is 0; xor turned twice is as it was; a number times 1, and divided by it, too.
-/
import Derived.Test.YtfbgejgapdpjcaaDoorNumHead
import Derived.Test.YtfbgejgapdpjcaaDoorNumPlain
namespace Go.Proofs.YtfbgejgapdpjcaaDoor
open Go.RowKit

theorem nat_and_or : ∀ (n x y : Nat), x < 2 ^ n → (x &&& y) + (x ||| y) = x + y
  | 0, x, y, h => by
    obtain rfl : x = 0 := by simpa using h
    simp
  | n + 1, x, y, h => by
    have ih := nat_and_or n (x / 2) (y / 2) (by rw [Nat.pow_succ] at h; omega)
    have e1 : (x &&& y) / 2 = x / 2 &&& y / 2 := by
      have := Nat.shiftRight_and_distrib (a := x) (b := y) (i := 1); simpa [Nat.shiftRight_eq_div_pow] using this
    have e2 : (x ||| y) / 2 = x / 2 ||| y / 2 := by
      have := Nat.shiftRight_or_distrib (a := x) (b := y) (i := 1); simpa [Nat.shiftRight_eq_div_pow] using this
    have m1 : (x &&& y) % 2 = x % 2 &&& y % 2 := by
      have := Nat.and_mod_two_pow (a := x) (b := y) (n := 1); simpa using this
    have m2 : (x ||| y) % 2 = x % 2 ||| y % 2 := by
      have := Nat.or_mod_two_pow (a := x) (b := y) (n := 1); simpa using this
    have m3 : (x % 2 &&& y % 2) + (x % 2 ||| y % 2) = x % 2 + y % 2 := by
      rcases Nat.mod_two_eq_zero_or_one x with hx | hx <;> rcases Nat.mod_two_eq_zero_or_one y with hy | hy <;> rw [hx, hy] <;> decide
    omega

theorem bits64 {x y : Int} (hx : 0 ≤ x ∧ x < 18446744073709551616) (hy : 0 ≤ y ∧ y < 18446744073709551616) :
    ∃ m n : Nat, x = m ∧ y = n ∧ m < 2 ^ 64 ∧ n < 2 ^ 64 ∧ bits .and .u64 x y = ((m &&& n : Nat) : Int) ∧ bits .or .u64 x y = ((m ||| n : Nat) : Int) ∧ bits .xor .u64 x y = ((m ^^^ n : Nat) : Int) := by
  obtain ⟨m, rfl⟩ := Int.eq_ofNat_of_zero_le hx.1
  obtain ⟨n, rfl⟩ := Int.eq_ofNat_of_zero_le hy.1
  have hm : m < 2 ^ 64 := by omega
  have hn : n < 2 ^ 64 := by omega
  have h := bits_nat .u64 64 (by decide) wraps_u64 m n hm hn
  refine ⟨m, n, rfl, rfl, hm, hn, h.1, h.2, ?_⟩
  have em : m % 2 ^ IntKind.u64.bits = m := Nat.mod_eq_of_lt hm
  have en : n % 2 ^ IntKind.u64.bits = n := Nat.mod_eq_of_lt hn
  have hlt : m ^^^ n < 2 ^ 64 := Nat.xor_lt_two_pow hm hn
  simp only [bits, BitVec.ofInt_natCast, BitVec.toNat_xor, BitVec.toNat_ofNat, em, en]
  exact wraps_u64 _ (Int.natCast_nonneg _) (by omega)
theorem and_or_sum {x y : Int} (hx : 0 ≤ x ∧ x < 18446744073709551616) (hy : 0 ≤ y ∧ y < 18446744073709551616) : bits .and .u64 x y + bits .or .u64 x y = x + y := by
  obtain ⟨m, n, rfl, rfl, hm, _, h1, h2, _⟩ := bits64 hx hy
  have := nat_and_or 64 m n hm
  rw [h1, h2]; omega
theorem xor_back {x y : Int} (hx : 0 ≤ x ∧ x < 18446744073709551616) (hy : 0 ≤ y ∧ y < 18446744073709551616) : bits .xor .u64 (bits .xor .u64 x y) y = x := by
  obtain ⟨m, n, rfl, rfl, hm, hn, _, _, h⟩ := bits64 hx hy
  rw [h]
  have hlt : m ^^^ n < 2 ^ 64 := Nat.xor_lt_two_pow hm hn
  obtain ⟨m', n', e1, e2, _, _, _, _, h'⟩ := bits64 (x := ((m ^^^ n : Nat) : Int)) (y := (n : Int)) (by omega) (by omega)
  obtain rfl : m ^^^ n = m' := by omega
  obtain rfl : n = n' := by omega
  rw [h', Nat.xor_assoc, Nat.xor_self, Nat.xor_zero]
theorem bits64_bd {x y : Int} (hx : 0 ≤ x ∧ x < 18446744073709551616) (hy : 0 ≤ y ∧ y < 18446744073709551616) :
    (0 ≤ bits .and .u64 x y ∧ bits .and .u64 x y ≤ 18446744073709551615) ∧ (0 ≤ bits .or .u64 x y ∧ bits .or .u64 x y ≤ 18446744073709551615) ∧ (0 ≤ bits .xor .u64 x y ∧ bits .xor .u64 x y ≤ 18446744073709551615) := by
  obtain ⟨m, n, rfl, rfl, hm, hn, h1, h2, h3⟩ := bits64 hx hy
  have a1 : m &&& n < 2 ^ 64 := Nat.and_lt_two_pow _ hn
  have a2 : m ||| n < 2 ^ 64 := Nat.or_lt_two_pow hm hn
  have a3 : m ^^^ n < 2 ^ 64 := Nat.xor_lt_two_pow hm hn
  rw [h1, h2, h3]; omega

theorem k_val32 (kind x y : Int) (hk : 10 ≤ kind ∧ kind ≤ 24) (hx : 0 ≤ x ∧ x < 4294967296) (hy : 0 ≤ y ∧ y < 4294967296) : two (96 + kind) x y = twoK kind 32 x y := by
  rw [two_32_k (by omega) (by omega), show 96 + kind - 106 + 10 = kind by omega, Int.emod_eq_of_lt hx.1 (show x < 2 ^ 32 from hx.2), Int.emod_eq_of_lt hy.1 (show y < 2 ^ 32 from hy.2)]
theorem k_val64 (kind x y : Int) (hk : 10 ≤ kind ∧ kind ≤ 24) : two (114 + kind) x y = twoK kind 64 x y := by
  rw [two_64_k (by omega) (by omega), show 114 + kind - 124 + 10 = kind by omega]
theorem dvd_one_s {bs : Nat} {x : Int} (hbs : bs = 32 ∨ bs = 64) (hx : 0 ≤ x ∧ x < 2 ^ bs) : dvd 0 bs x 1 = (x, 0) := by
  have h1 : sgnv bs 1 = 1 := by rcases hbs with rfl | rfl <;> decide
  unfold dvd
  rw [if_neg (by decide), if_pos rfl, h1, if_neg (fun h => absurd h.2 (by decide)), Int.tdiv_one, sgnv_mod x hx.1 hx.2]
theorem dvd_one_u {bs : Nat} {x : Int} : dvd 1 bs x 1 = (x, 0) := by
  unfold dvd
  rw [if_neg (by decide), if_neg (by decide), if_pos rfl, Int.ediv_one]

set_option maxRecDepth 100000 in
set_option maxHeartbeats 4000000 in
theorem numAdds_32 (a b : Int) (ha : 0 ≤ a ∧ a ≤ 18446744073709551615) (hb : 0 ≤ b ∧ b ≤ 18446744073709551615) (w : World) (hLaid : Laid w) :
    Calls Tryd.prog 10 #[.int .u64 a, .int .u64 b, .bool true] w fun e w' => e = .returned (.bool true) ∧ Below w.heap.size w w' := by
  have hB := Below.refl w.heap.size w
  obtain ⟨x, hx⟩ : ∃ x, a % 4294967296 = x := ⟨_, rfl⟩
  obtain ⟨y, hy⟩ : ∃ y, b % 4294967296 = y := ⟨_, rfl⟩
  have hx2 : 0 ≤ x ∧ x < 4294967296 := by omega
  have hy2 : 0 ≤ y ∧ y < 4294967296 := by omega
  have wx : 0 ≤ x ∧ x < 18446744073709551616 := by omega
  have wy : 0 ≤ y ∧ y < 18446744073709551616 := by omega
  have hao := and_or_sum wx wy
  have hxb := xor_back wx wy
  obtain ⟨bd1, bd2, bd3⟩ := bits64_bd wx wy
  obtain ⟨be1, be2, be3⟩ := bits_nat64 x y hx2.1 hx2.2 hy2.1 hy2.2
  obtain ⟨s, hs⟩ : ∃ s, (x + y) % 4294967296 = s := ⟨_, rfl⟩
  have hs2 : 0 ≤ s ∧ s < 4294967296 := by omega
  generalize hN : bits .xor .u64 x y = xo at hxb bd3 be3
  generalize hA : bits .and .u64 x y = an at hao bd1 be1
  generalize hO : bits .or .u64 x y = oo at hao bd2 be2
  have c1 := ltwo_is 106 x y (x := s) (by rw [show (106 : Int) = 96 + 10 from rfl, k_val32 10 x y (by decide) (by omega) (by omega)]; exact hs) (by omega) (by omega)
  have c2 := ltwo_is 107 s y (x := x) (by rw [show (107 : Int) = 96 + 11 from rfl, k_val32 11 s y (by decide) (by omega) (by omega)]; show (s - y) % 2 ^ 32 = x; omega) (by omega) (by omega)
  have c3 := ltwo_is 107 x x (x := 0) (by rw [show (107 : Int) = 96 + 11 from rfl, k_val32 11 x x (by decide) (by omega) (by omega)]; show (x - x) % 2 ^ 32 = 0; omega) (by omega) (by omega)
  have c4 := ltwo_is 115 x y (x := xo) (by rw [show (115 : Int) = 96 + 19 from rfl, k_val32 19 x y (by decide) (by omega) (by omega)]; exact hN) (by omega) (by omega)
  have c5 := ltwo_is 115 xo y (x := x) (by rw [show (115 : Int) = 96 + 19 from rfl, k_val32 19 xo y (by decide) (by omega) (by omega)]; exact hxb) (by omega) (by omega)
  have c6 := ltwo_is 108 x 1 (x := x) (by rw [show (108 : Int) = 96 + 12 from rfl, k_val32 12 x 1 (by decide) (by omega) (by omega)]; show x * 1 % 2 ^ 32 = x; omega) (by omega) (by omega)
  have c7 := ltwo_is 109 x 1 (x := x) (by rw [show (109 : Int) = 96 + 13 from rfl, k_val32 13 x 1 (by decide) (by omega) (by omega)]; show (dvd 0 32 x 1).1 = x; rw [dvd_one_s (by decide) (by simp; omega)]) (by omega) (by omega)
  have c8 := ltwo_is 110 x 1 (x := x) (by rw [show (110 : Int) = 96 + 14 from rfl, k_val32 14 x 1 (by decide) (by omega) (by omega)]; show (dvd 1 32 x 1).1 = x; rw [dvd_one_u]) (by omega) (by omega)
  have c9 := ltwo_is 106 y x (x := s) (by rw [show (106 : Int) = 96 + 10 from rfl, k_val32 10 y x (by decide) (by omega) (by omega)]; show (y + x) % 2 ^ 32 = s; omega) (by omega) (by omega)
  have c10 := ltwo_is 113 x y (x := an) (by rw [show (113 : Int) = 96 + 17 from rfl, k_val32 17 x y (by decide) (by omega) (by omega)]; exact hA) (by omega) (by omega)
  have c11 := ltwo_is 114 x y (x := oo) (by rw [show (114 : Int) = 96 + 18 from rfl, k_val32 18 x y (by decide) (by omega) (by omega)]; exact hO) (by omega) (by omega)
  clear hxb hN hA hO hs hs2
  go_enter Tryd.func10, Tryd.ntmps10
  go_wp2_with (first
    | (go_at_call 12; (with_reducible refine (head_num _ hLaid).mono ?_); rintro e w1 ⟨rfl, hb⟩; replace hB := bt hB hb; clear hb)
    | (go_at_call 18; (with_reducible refine (c1 _).mono ?_); rintro e w1 ⟨rfl, hb⟩; replace hB := bt hB hb; clear hb)
    | (go_at_call 18; (with_reducible refine (c2 _).mono ?_); rintro e w1 ⟨rfl, hb⟩; replace hB := bt hB hb; clear hb)
    | (go_at_call 18; (with_reducible refine (c3 _).mono ?_); rintro e w1 ⟨rfl, hb⟩; replace hB := bt hB hb; clear hb)
    | (go_at_call 18; (with_reducible refine (c4 _).mono ?_); rintro e w1 ⟨rfl, hb⟩; replace hB := bt hB hb; clear hb)
    | (go_at_call 18; (with_reducible refine (c5 _).mono ?_); rintro e w1 ⟨rfl, hb⟩; replace hB := bt hB hb; clear hb)
    | (go_at_call 18; (with_reducible refine (c6 _).mono ?_); rintro e w1 ⟨rfl, hb⟩; replace hB := bt hB hb; clear hb)
    | (go_at_call 18; (with_reducible refine (c7 _).mono ?_); rintro e w1 ⟨rfl, hb⟩; replace hB := bt hB hb; clear hb)
    | (go_at_call 18; (with_reducible refine (c8 _).mono ?_); rintro e w1 ⟨rfl, hb⟩; replace hB := bt hB hb; clear hb)
    | (go_at_call 18; (with_reducible refine (c9 _).mono ?_); rintro e w1 ⟨rfl, hb⟩; replace hB := bt hB hb; clear hb)
    | (go_at_call 18; (with_reducible refine (c10 _).mono ?_); rintro e w1 ⟨rfl, hb⟩; replace hB := bt hB hb; clear hb)
    | (go_at_call 18; (with_reducible refine (c11 _).mono ?_); rintro e w1 ⟨rfl, hb⟩; replace hB := bt hB hb; clear hb))
  go_ret
  exact ⟨by first | rfl | exact ret_true (by simp), hB⟩

set_option maxRecDepth 100000 in
set_option maxHeartbeats 4000000 in
theorem numAdds_64 (a b : Int) (ha : 0 ≤ a ∧ a ≤ 18446744073709551615) (hb : 0 ≤ b ∧ b ≤ 18446744073709551615) (w : World) (hLaid : Laid w) :
    Calls Tryd.prog 10 #[.int .u64 a, .int .u64 b, .bool false] w fun e w' => e = .returned (.bool true) ∧ Below w.heap.size w w' := by
  have hB := Below.refl w.heap.size w
  obtain ⟨x, hx⟩ : ∃ x, a = x := ⟨_, rfl⟩
  obtain ⟨y, hy⟩ : ∃ y, b = y := ⟨_, rfl⟩
  subst hx
  subst hy
  have hx2 : 0 ≤ a ∧ a < 18446744073709551616 := by omega
  have hy2 : 0 ≤ b ∧ b < 18446744073709551616 := by omega
  have wx : 0 ≤ a ∧ a < 18446744073709551616 := by omega
  have wy : 0 ≤ b ∧ b < 18446744073709551616 := by omega
  have hao := and_or_sum wx wy
  have hxb := xor_back wx wy
  obtain ⟨bd1, bd2, bd3⟩ := bits64_bd wx wy
  obtain ⟨s, hs⟩ : ∃ s, (a + b) % 18446744073709551616 = s := ⟨_, rfl⟩
  have hs2 : 0 ≤ s ∧ s < 18446744073709551616 := by omega
  generalize hN : bits .xor .u64 a b = xo at hxb bd3
  generalize hA : bits .and .u64 a b = an at hao bd1
  generalize hO : bits .or .u64 a b = oo at hao bd2
  have c1 := ltwo_is 124 a b (x := s) (by rw [show (124 : Int) = 114 + 10 from rfl, k_val64 10 a b (by decide)]; exact hs) (by omega) (by omega)
  have c2 := ltwo_is 125 s b (x := a) (by rw [show (125 : Int) = 114 + 11 from rfl, k_val64 11 s b (by decide)]; show (s - b) % 2 ^ 64 = a; omega) (by omega) (by omega)
  have c3 := ltwo_is 125 a a (x := 0) (by rw [show (125 : Int) = 114 + 11 from rfl, k_val64 11 a a (by decide)]; show (a - a) % 2 ^ 64 = 0; omega) (by omega) (by omega)
  have c4 := ltwo_is 133 a b (x := xo) (by rw [show (133 : Int) = 114 + 19 from rfl, k_val64 19 a b (by decide)]; exact hN) (by omega) (by omega)
  have c5 := ltwo_is 133 xo b (x := a) (by rw [show (133 : Int) = 114 + 19 from rfl, k_val64 19 xo b (by decide)]; exact hxb) (by omega) (by omega)
  have c6 := ltwo_is 126 a 1 (x := a) (by rw [show (126 : Int) = 114 + 12 from rfl, k_val64 12 a 1 (by decide)]; show a * 1 % 2 ^ 64 = a; omega) (by omega) (by omega)
  have c7 := ltwo_is 127 a 1 (x := a) (by rw [show (127 : Int) = 114 + 13 from rfl, k_val64 13 a 1 (by decide)]; show (dvd 0 64 a 1).1 = a; rw [dvd_one_s (by decide) (by simp; omega)]) (by omega) (by omega)
  have c8 := ltwo_is 128 a 1 (x := a) (by rw [show (128 : Int) = 114 + 14 from rfl, k_val64 14 a 1 (by decide)]; show (dvd 1 64 a 1).1 = a; rw [dvd_one_u]) (by omega) (by omega)
  have c9 := ltwo_is 124 b a (x := s) (by rw [show (124 : Int) = 114 + 10 from rfl, k_val64 10 b a (by decide)]; show (b + a) % 2 ^ 64 = s; omega) (by omega) (by omega)
  have c10 := ltwo_is 131 a b (x := an) (by rw [show (131 : Int) = 114 + 17 from rfl, k_val64 17 a b (by decide)]; exact hA) (by omega) (by omega)
  have c11 := ltwo_is 132 a b (x := oo) (by rw [show (132 : Int) = 114 + 18 from rfl, k_val64 18 a b (by decide)]; exact hO) (by omega) (by omega)
  clear hxb hN hA hO hs hs2
  go_enter Tryd.func10, Tryd.ntmps10
  go_wp2_with (first
    | (go_at_call 12; (with_reducible refine (head_num _ hLaid).mono ?_); rintro e w1 ⟨rfl, hb⟩; replace hB := bt hB hb; clear hb)
    | (go_at_call 18; (with_reducible refine (c1 _).mono ?_); rintro e w1 ⟨rfl, hb⟩; replace hB := bt hB hb; clear hb)
    | (go_at_call 18; (with_reducible refine (c2 _).mono ?_); rintro e w1 ⟨rfl, hb⟩; replace hB := bt hB hb; clear hb)
    | (go_at_call 18; (with_reducible refine (c3 _).mono ?_); rintro e w1 ⟨rfl, hb⟩; replace hB := bt hB hb; clear hb)
    | (go_at_call 18; (with_reducible refine (c4 _).mono ?_); rintro e w1 ⟨rfl, hb⟩; replace hB := bt hB hb; clear hb)
    | (go_at_call 18; (with_reducible refine (c5 _).mono ?_); rintro e w1 ⟨rfl, hb⟩; replace hB := bt hB hb; clear hb)
    | (go_at_call 18; (with_reducible refine (c6 _).mono ?_); rintro e w1 ⟨rfl, hb⟩; replace hB := bt hB hb; clear hb)
    | (go_at_call 18; (with_reducible refine (c7 _).mono ?_); rintro e w1 ⟨rfl, hb⟩; replace hB := bt hB hb; clear hb)
    | (go_at_call 18; (with_reducible refine (c8 _).mono ?_); rintro e w1 ⟨rfl, hb⟩; replace hB := bt hB hb; clear hb)
    | (go_at_call 18; (with_reducible refine (c9 _).mono ?_); rintro e w1 ⟨rfl, hb⟩; replace hB := bt hB hb; clear hb)
    | (go_at_call 18; (with_reducible refine (c10 _).mono ?_); rintro e w1 ⟨rfl, hb⟩; replace hB := bt hB hb; clear hb)
    | (go_at_call 18; (with_reducible refine (c11 _).mono ?_); rintro e w1 ⟨rfl, hb⟩; replace hB := bt hB hb; clear hb))
  go_ret
  exact ⟨by first | rfl | exact ret_true (by simp), hB⟩

theorem numAdds_walk (a b : Int) (narrow : Bool) (ha0 : 0 ≤ a) (ha1 : a ≤ 18446744073709551615) (hb0 : 0 ≤ b) (hb1 : b ≤ 18446744073709551615) (w : World) (hLaid : Laid w) :
    Calls Tryd.prog 10 #[.int .u64 a, .int .u64 b, .bool narrow] w fun e w' => e = .returned (.bool true) ∧ Below w.heap.size w w' := by
  cases narrow
  · exact numAdds_64 a b ⟨ha0, ha1⟩ ⟨hb0, hb1⟩ w hLaid
  · exact numAdds_32 a b ⟨ha0, ha1⟩ ⟨hb0, hb1⟩ w hLaid
end Go.Proofs.YtfbgejgapdpjcaaDoor
