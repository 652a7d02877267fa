/-
  The document's own answers to what is read, in all four ways: the same as ours. Contracts that the proofs call; no statement is proved here.
-/
import Derived.Test.YtoebkicmjglmcaaLebRefJoin
import Derived.Test.YtoebkicmjglmcaaLebRefTakeU
import Derived.Test.YtoebkicmjglmcaaLebRefTakeS
import Derived.Test.YtoebkicmjglmcaaLebAns
namespace Go.Proofs.Ytoebkicmjglmcaa
open Go.RowKit

theorem ans_in {K : IntKind} {p : Int → Int} {most : Nat} {l : List UInt8} {place : Int} (h0 : K.min ≤ 0) (h1 : 0 ≤ K.max) : K.min ≤ (ans K p most l place).1 ∧ (ans K p most l place).1 ≤ K.max := by
  unfold ans
  split
  · exact ⟨h0, h1⟩
  · cases hd : dec p (l.drop place.toNat) with
    | none => exact ⟨h0, h1⟩
    | some x =>
      obtain ⟨v, n⟩ := x
      simp only [fit]
      by_cases h : n ≤ most ∧ K.min ≤ v ∧ v ≤ K.max
      · rw [if_pos h]; exact h.2
      · rw [if_neg h]; exact ⟨h0, h1⟩

theorem ans_at {K : IntKind} {p : Int → Int} {most : Nat} {l : List UInt8} {a : Nat} (ha : a ≤ l.length) : ans K p most l a = match fit K most (dec p (l.drop a)) with
    | none => (0, 0, 2)
    | some (v, n) => (v, (a : Int) + n, 0) := by
  unfold ans
  rw [if_neg (by omega), Int.toNat_natCast]
  cases fit K most (dec p (l.drop a)) <;> rfl

theorem size_is {p : Int → Int} {most : Nat} {l : List UInt8} : szr most 0 l = match dec p l with
    | none => 0
    | some (_, n) => if n ≤ most then n else 0 := by
  rw [szr_dec p most l 0 (by omega)]
  cases dec p l with
  | none => rfl
  | some x => simp only [Nat.zero_add]

theorem take_u32 (s : ByteArray) (place : Int) (hs : s.size ≤ maxLen) (w : World) :
    Calls Try.prog 25 #[.string s, .int .i64 place, .int .i64 32, .bool false] w fun e w' => e = .returned (.tuple #[.int .u64 ((ans .u32 usg 5 s.data.toList place).1), .int .i64 (ans .u32 usg 5 s.data.toList place).2.1, .int .i64 (ans .u32 usg 5 s.data.toList place).2.2]) ∧ w = w' := by
  by_cases hp : place < 0 ∨ (s.size : Int) < place
  · rw [ans_none (by simpa using hp)]
    exact ref_take_place s place 32 false hp w
  · obtain ⟨a, rfl⟩ := Int.eq_ofNat_of_zero_le (show 0 ≤ place by omega)
    have ha : a ≤ s.size := by omega
    rw [ans_at (by simpa using ha)]
    have hz := size_is (p := usg) (most := 5) (l := s.data.toList.drop a)
    cases hd : dec usg (s.data.toList.drop a) with
    | none =>
      rw [hd] at hz
      exact ref_take_none s a 32 5 false ha hs (by omega) rfl hz w
    | some x =>
      obtain ⟨v, k⟩ := x
      rw [hd] at hz
      simp only at hz
      by_cases hk : k ≤ 5
      · rw [if_pos hk] at hz
        have hk1 := dec_pos hd
        have hlen := dec_len usg _ v k hd
        have hbit := bit_dec (p := usg) (fun b i hi => bit_last_u b i hi) _ v k hd
        have hbd := dec_u_bd _ v k hd
        have h := ref_take_u s a 32 5 k v hs (by omega) (by omega) rfl hz hk1 (by omega) (by simp at hlen; omega) hbit (fun i hi => bit_over_u hbd hi) w
        rw [chk_u32 hk hbd] at h
        simp only [fit]
        by_cases hv : v ≤ 4294967295
        · rw [if_pos ⟨hk, by simpa [IntKind.min, IntKind.signed] using hbd.1, by simpa [IntKind.max, IntKind.signed, IntKind.bits] using hv⟩]
          rw [decide_eq_true hv] at h
          simp only [takeOut, show v % 2 ^ 32 = v from Int.emod_eq_of_lt hbd.1 (by omega)] at h; exact h
        · rw [if_neg (fun hc => hv (by simpa [IntKind.max, IntKind.signed, IntKind.bits] using hc.2.2))]
          rw [decide_eq_false hv] at h
          simp only [takeOut] at h; exact h
      · rw [if_neg hk] at hz
        simp only [fit]
        rw [if_neg (fun hc => hk hc.1)]
        exact ref_take_none s a 32 5 false ha hs (by omega) rfl hz w

theorem take_u64 (s : ByteArray) (place : Int) (hs : s.size ≤ maxLen) (w : World) :
    Calls Try.prog 25 #[.string s, .int .i64 place, .int .i64 64, .bool false] w fun e w' => e = .returned (.tuple #[.int .u64 ((ans .u64 usg 10 s.data.toList place).1), .int .i64 (ans .u64 usg 10 s.data.toList place).2.1, .int .i64 (ans .u64 usg 10 s.data.toList place).2.2]) ∧ w = w' := by
  by_cases hp : place < 0 ∨ (s.size : Int) < place
  · rw [ans_none (by simpa using hp)]
    exact ref_take_place s place 64 false hp w
  · obtain ⟨a, rfl⟩ := Int.eq_ofNat_of_zero_le (show 0 ≤ place by omega)
    have ha : a ≤ s.size := by omega
    rw [ans_at (by simpa using ha)]
    have hz := size_is (p := usg) (most := 10) (l := s.data.toList.drop a)
    cases hd : dec usg (s.data.toList.drop a) with
    | none =>
      rw [hd] at hz
      exact ref_take_none s a 64 10 false ha hs (by omega) rfl hz w
    | some x =>
      obtain ⟨v, k⟩ := x
      rw [hd] at hz
      simp only at hz
      by_cases hk : k ≤ 10
      · rw [if_pos hk] at hz
        have hk1 := dec_pos hd
        have hlen := dec_len usg _ v k hd
        have hbit := bit_dec (p := usg) (fun b i hi => bit_last_u b i hi) _ v k hd
        have hbd := dec_u_bd _ v k hd
        have h := ref_take_u s a 64 10 k v hs (by omega) (by omega) rfl hz hk1 (by omega) (by simp at hlen; omega) hbit (fun i hi => bit_over_u hbd hi) w
        rw [chk_u64 hk hbd] at h
        simp only [fit]
        by_cases hv : v ≤ 18446744073709551615
        · rw [if_pos ⟨hk, by simpa [IntKind.min, IntKind.signed] using hbd.1, by simpa [IntKind.max, IntKind.signed, IntKind.bits] using hv⟩]
          rw [decide_eq_true hv] at h
          simp only [takeOut, show v % 2 ^ 64 = v from Int.emod_eq_of_lt hbd.1 (by omega)] at h; exact h
        · rw [if_neg (fun hc => hv (by simpa [IntKind.max, IntKind.signed, IntKind.bits] using hc.2.2))]
          rw [decide_eq_false hv] at h
          simp only [takeOut] at h; exact h
      · rw [if_neg hk] at hz
        simp only [fit]
        rw [if_neg (fun hc => hk hc.1)]
        exact ref_take_none s a 64 10 false ha hs (by omega) rfl hz w

theorem take_i32 (s : ByteArray) (place : Int) (hs : s.size ≤ maxLen) (w : World) :
    Calls Try.prog 25 #[.string s, .int .i64 place, .int .i64 32, .bool true] w fun e w' => e = .returned (.tuple #[.int .u64 ((ans .i32 sgn 5 s.data.toList place).1 % 2 ^ 32), .int .i64 (ans .i32 sgn 5 s.data.toList place).2.1, .int .i64 (ans .i32 sgn 5 s.data.toList place).2.2]) ∧ w = w' := by
  by_cases hp : place < 0 ∨ (s.size : Int) < place
  · rw [ans_none (by simpa using hp)]
    exact ref_take_place s place 32 true hp w
  · obtain ⟨a, rfl⟩ := Int.eq_ofNat_of_zero_le (show 0 ≤ place by omega)
    have ha : a ≤ s.size := by omega
    rw [ans_at (by simpa using ha)]
    have hz := size_is (p := sgn) (most := 5) (l := s.data.toList.drop a)
    cases hd : dec sgn (s.data.toList.drop a) with
    | none =>
      rw [hd] at hz
      exact ref_take_none s a 32 5 true ha hs (by omega) rfl hz w
    | some x =>
      obtain ⟨v, k⟩ := x
      rw [hd] at hz
      simp only at hz
      by_cases hk : k ≤ 5
      · rw [if_pos hk] at hz
        have hk1 := dec_pos hd
        have hlen := dec_len sgn _ v k hd
        have hbit := bit_dec (p := sgn) (fun b i hi => bit_last_s b i hi) _ v k hd
        have hbd := dec_s_bd _ v k hd
        have h := ref_take_s s a 32 5 k v hs (by omega) (by omega) rfl hz hk1 (by omega) (by simp at hlen; omega) hbit (if v < 0 then 1 else 0) (by split <;> simp)
          (by rw [hbit _ (by omega)]; exact bit_over_s hbd hk1 (by omega)) (fun i hi => bit_over_s hbd hk1 (by omega)) (v / 2 ^ 31 % 2) rfl w
        rw [chk_i32 hk hbd] at h
        simp only [fit]
        by_cases hv : -2147483648 ≤ v ∧ v ≤ 2147483647
        · rw [if_pos ⟨hk, by simpa [IntKind.min, IntKind.signed, IntKind.bits] using hv.1, by simpa [IntKind.max, IntKind.signed, IntKind.bits] using hv.2⟩]
          rw [decide_eq_true hv] at h
          simp only [takeOut] at h; exact h
        · rw [if_neg (fun hc => hv (by simpa [IntKind.min, IntKind.max, IntKind.signed, IntKind.bits] using hc.2))]
          rw [decide_eq_false hv] at h
          simp only [takeOut] at h; exact h
      · rw [if_neg hk] at hz
        simp only [fit]
        rw [if_neg (fun hc => hk hc.1)]
        exact ref_take_none s a 32 5 true ha hs (by omega) rfl hz w

theorem take_i64 (s : ByteArray) (place : Int) (hs : s.size ≤ maxLen) (w : World) :
    Calls Try.prog 25 #[.string s, .int .i64 place, .int .i64 64, .bool true] w fun e w' => e = .returned (.tuple #[.int .u64 ((ans .i64 sgn 10 s.data.toList place).1 % 2 ^ 64), .int .i64 (ans .i64 sgn 10 s.data.toList place).2.1, .int .i64 (ans .i64 sgn 10 s.data.toList place).2.2]) ∧ w = w' := by
  by_cases hp : place < 0 ∨ (s.size : Int) < place
  · rw [ans_none (by simpa using hp)]
    exact ref_take_place s place 64 true hp w
  · obtain ⟨a, rfl⟩ := Int.eq_ofNat_of_zero_le (show 0 ≤ place by omega)
    have ha : a ≤ s.size := by omega
    rw [ans_at (by simpa using ha)]
    have hz := size_is (p := sgn) (most := 10) (l := s.data.toList.drop a)
    cases hd : dec sgn (s.data.toList.drop a) with
    | none =>
      rw [hd] at hz
      exact ref_take_none s a 64 10 true ha hs (by omega) rfl hz w
    | some x =>
      obtain ⟨v, k⟩ := x
      rw [hd] at hz
      simp only at hz
      by_cases hk : k ≤ 10
      · rw [if_pos hk] at hz
        have hk1 := dec_pos hd
        have hlen := dec_len sgn _ v k hd
        have hbit := bit_dec (p := sgn) (fun b i hi => bit_last_s b i hi) _ v k hd
        have hbd := dec_s_bd _ v k hd
        have h := ref_take_s s a 64 10 k v hs (by omega) (by omega) rfl hz hk1 (by omega) (by simp at hlen; omega) hbit (if v < 0 then 1 else 0) (by split <;> simp)
          (by rw [hbit _ (by omega)]; exact bit_over_s hbd hk1 (by omega)) (fun i hi => bit_over_s hbd hk1 (by omega)) (v / 2 ^ 63 % 2) rfl w
        rw [chk_i64 hk hbd] at h
        simp only [fit]
        by_cases hv : -9223372036854775808 ≤ v ∧ v ≤ 9223372036854775807
        · rw [if_pos ⟨hk, by simpa [IntKind.min, IntKind.signed, IntKind.bits] using hv.1, by simpa [IntKind.max, IntKind.signed, IntKind.bits] using hv.2⟩]
          rw [decide_eq_true hv] at h
          simp only [takeOut] at h; exact h
        · rw [if_neg (fun hc => hv (by simpa [IntKind.min, IntKind.max, IntKind.signed, IntKind.bits] using hc.2))]
          rw [decide_eq_false hv] at h
          simp only [takeOut] at h; exact h
      · rw [if_neg hk] at hz
        simp only [fit]
        rw [if_neg (fun hc => hk hc.1)]
        exact ref_take_none s a 64 10 true ha hs (by omega) rfl hz w

set_option maxHeartbeats 400000 in
theorem ref_get_u32 (s : ByteArray) (place : Int) {x y z : Int} (h : ans .u32 usg 5 s.data.toList place = (x, y, z)) (hs : s.size ≤ maxLen) (w : World) :
    Calls Try.prog 17 #[.string s, .int .i64 place] w fun e w' => e = .returned (.tuple #[.int .u32 x, .int .i64 y, .int .i64 z]) ∧ w = w' := by
  have c := take_u32 s place hs
  have hb := ans_in (K := .u32) (p := usg) (most := 5) (l := s.data.toList) (place := place) (by decide) (by decide)
  simp only [h] at c hb
  simp [IntKind.min, IntKind.max, IntKind.signed, IntKind.bits] at hb
  clear h
  go_enter Try.func17, Try.ntmps17
  go_wp2_with (go_at_call 25; (with_reducible refine (c _).mono ?_); rintro e w' ⟨rfl, rfl⟩)
  go_ret3
  exact ⟨rfl, rfl⟩

set_option maxHeartbeats 400000 in
theorem ref_get_u64 (s : ByteArray) (place : Int) {x y z : Int} (h : ans .u64 usg 10 s.data.toList place = (x, y, z)) (hs : s.size ≤ maxLen) (w : World) :
    Calls Try.prog 21 #[.string s, .int .i64 place] w fun e w' => e = .returned (.tuple #[.int .u64 x, .int .i64 y, .int .i64 z]) ∧ w = w' := by
  have c := take_u64 s place hs
  have hb := ans_in (K := .u64) (p := usg) (most := 10) (l := s.data.toList) (place := place) (by decide) (by decide)
  simp only [h] at c hb
  simp [IntKind.min, IntKind.max, IntKind.signed, IntKind.bits] at hb
  clear h
  go_enter Try.func21, Try.ntmps21
  go_wp2_with (go_at_call 25; (with_reducible refine (c _).mono ?_); rintro e w' ⟨rfl, rfl⟩)
  go_ret3
  exact ⟨rfl, rfl⟩

set_option maxHeartbeats 400000 in
theorem ref_get_i32 (s : ByteArray) (place : Int) {x y z : Int} (h : ans .i32 sgn 5 s.data.toList place = (x, y, z)) (hs : s.size ≤ maxLen) (w : World) :
    Calls Try.prog 19 #[.string s, .int .i64 place] w fun e w' => e = .returned (.tuple #[.int .i32 x, .int .i64 y, .int .i64 z]) ∧ w = w' := by
  have c := take_i32 s place hs
  have hb := ans_in (K := .i32) (p := sgn) (most := 5) (l := s.data.toList) (place := place) (by decide) (by decide)
  simp only [h] at c hb
  simp [IntKind.min, IntKind.max, IntKind.signed, IntKind.bits] at hb
  obtain ⟨N, hN⟩ : ∃ N, x % 2 ^ 32 = N := ⟨_, rfl⟩
  simp only [hN] at c
  have hN2 : 0 ≤ N ∧ N < 4294967296 := by omega
  have hw : wrap32 N = x := by unfold wrap32; omega
  clear hN
  clear h
  go_enter Try.func19, Try.ntmps19
  go_wp2_with (go_at_call 25; (with_reducible refine (c _).mono ?_); rintro e w' ⟨rfl, rfl⟩)
  go_ret3
  exact ⟨by first | rfl | (rw [← hw]; rfl), rfl⟩

set_option maxHeartbeats 400000 in
theorem ref_get_i64 (s : ByteArray) (place : Int) {x y z : Int} (h : ans .i64 sgn 10 s.data.toList place = (x, y, z)) (hs : s.size ≤ maxLen) (w : World) :
    Calls Try.prog 23 #[.string s, .int .i64 place] w fun e w' => e = .returned (.tuple #[.int .i64 x, .int .i64 y, .int .i64 z]) ∧ w = w' := by
  have c := take_i64 s place hs
  have hb := ans_in (K := .i64) (p := sgn) (most := 10) (l := s.data.toList) (place := place) (by decide) (by decide)
  simp only [h] at c hb
  simp [IntKind.min, IntKind.max, IntKind.signed, IntKind.bits] at hb
  obtain ⟨N, hN⟩ : ∃ N, x % 2 ^ 64 = N := ⟨_, rfl⟩
  simp only [hN] at c
  have hN2 : 0 ≤ N ∧ N < 18446744073709551616 := by omega
  have hw : wrap64 N = x := by unfold wrap64; omega
  clear hN
  clear h
  go_enter Try.func23, Try.ntmps23
  go_wp2_with (go_at_call 25; (with_reducible refine (c _).mono ?_); rintro e w' ⟨rfl, rfl⟩)
  go_ret3
  exact ⟨by first | rfl | (rw [← hw]; rfl), rfl⟩
end Go.Proofs.Ytoebkicmjglmcaa
