/-
  LebRoom, walked: what has no room in 32 bits is refused there; what has is read.
-/
import Derived.Test.YtoebkicmjglmcaaLebAns
namespace Go.Proofs.Ytoebkicmjglmcaa.lebRoom
open Go.RowKit

theorem u_in {n : Int} (h0 : 0 ≤ n) (h1 : n < 4294967296) : ans .u32 usg 5 (putU n) 0 = (n, ((putU n).length : Int), 0) := by
  have h := ans_some (K := .u32) (p := usg) (most := 5) [] _ (dec_putU [] n h0) ((putU_len n h0 4).2 (by omega)) (by simpa [IntKind.min, IntKind.signed] using h0) (by simp [IntKind.max, IntKind.signed, IntKind.bits]; omega)
  simpa using h
theorem u_out {n : Int} (h0 : 0 ≤ n) (h1 : 4294967296 ≤ n) : ans .u32 usg 5 (putU n) 0 = (0, 0, 2) := by
  have h := ans_not (K := .u32) (p := usg) (most := 5) [] _ (dec_putU [] n h0) (by simp [IntKind.max, IntKind.signed, IntKind.bits]; omega)
  simpa using h
theorem s_in {n : Int} (h0 : -2147483648 ≤ n) (h1 : n < 2147483648) : ans .i32 sgn 5 (putS n) 0 = (n, ((putS n).length : Int), 0) := by
  have h := ans_some (K := .i32) (p := sgn) (most := 5) [] _ (dec_putS [] n) ((putS_len n 4).2 (by omega)) (by simp [IntKind.min, IntKind.signed, IntKind.bits]; omega) (by simp [IntKind.max, IntKind.signed, IntKind.bits]; omega)
  simpa using h
theorem s_out {n : Int} (h : n < -2147483648 ∨ 2147483648 ≤ n) : ans .i32 sgn 5 (putS n) 0 = (0, 0, 2) := by
  have h := ans_not (K := .i32) (p := sgn) (most := 5) [] _ (dec_putS [] n) (by simp [IntKind.max, IntKind.min, IntKind.signed, IntKind.bits]; omega)
  simpa using h
end Go.Proofs.Ytoebkicmjglmcaa.lebRoom
namespace Go.Proofs.Ytoebkicmjglmcaa
open Go.RowKit lebRoom

set_option maxRecDepth 100000 in
set_option maxHeartbeats 2000000 in
theorem lebRoom_walk (n m : Int) (hn0 : 0 ≤ n) (hn1 : n ≤ 18446744073709551615) (hm0 : -9223372036854775808 ≤ m) (hm1 : m ≤ 9223372036854775807) (w : World) :
    Calls Try.prog 6 #[.int .u64 n, .int .i64 m] w fun e w' => e = .returned (.bool true) ∧ Below w.heap.size w w' := by
  have l1 := putU_len10 hn0 hn1
  have l2 := putS_len10 hm0 hm1
  have p1 := put_u n hn0 hn1
  have p2 := put_s m hm0 hm1
  by_cases hn : n < 4294967296
  · have c1 := U32_of (putU n) 0 (u_in hn0 hn) (by omega)
    rcases (show (-2147483648 ≤ m ∧ m < 2147483648) ∨ (m < -2147483648) ∨ (2147483648 ≤ m) by omega) with hm | hm | hm
    · have c2 := S32_of (putS m) 0 (s_in hm.1 hm.2) (by omega)
      go_enter Try.func6, Try.ntmps6
      go_wp2_with (first
        | (go_at_call 11; (with_reducible refine (head_true _).mono ?_); rintro e w0 ⟨rfl, hb0⟩)
        | (go_at_call 12; (with_reducible refine (p1 _).mono ?_); rintro e w1 ⟨rfl, hb1⟩)
        | (go_at_call 14; (with_reducible refine (p2 _).mono ?_); rintro e w2 ⟨rfl, hb2⟩)
        | (go_at_call 16; (with_reducible refine (c1 _).mono ?_); rintro e w' ⟨rfl, rfl⟩)
        | (go_at_call 18; (with_reducible refine (c2 _).mono ?_); rintro e w' ⟨rfl, rfl⟩))
      go_ret
      exact ⟨by first | rfl | exact ret_true (by simp; omega), hb0.trans ((hb1.trans (hb2.mono hb1.size)).mono hb0.size)⟩
    · have c2 := S32_of (putS m) 0 (s_out (Or.inl hm)) (by omega)
      go_enter Try.func6, Try.ntmps6
      go_wp2_with (first
        | (go_at_call 11; (with_reducible refine (head_true _).mono ?_); rintro e w0 ⟨rfl, hb0⟩)
        | (go_at_call 12; (with_reducible refine (p1 _).mono ?_); rintro e w1 ⟨rfl, hb1⟩)
        | (go_at_call 14; (with_reducible refine (p2 _).mono ?_); rintro e w2 ⟨rfl, hb2⟩)
        | (go_at_call 16; (with_reducible refine (c1 _).mono ?_); rintro e w' ⟨rfl, rfl⟩)
        | (go_at_call 18; (with_reducible refine (c2 _).mono ?_); rintro e w' ⟨rfl, rfl⟩))
      go_ret
      exact ⟨by first | rfl | exact ret_true (by simp; omega), hb0.trans ((hb1.trans (hb2.mono hb1.size)).mono hb0.size)⟩
    · have c2 := S32_of (putS m) 0 (s_out (Or.inr hm)) (by omega)
      go_enter Try.func6, Try.ntmps6
      go_wp2_with (first
        | (go_at_call 11; (with_reducible refine (head_true _).mono ?_); rintro e w0 ⟨rfl, hb0⟩)
        | (go_at_call 12; (with_reducible refine (p1 _).mono ?_); rintro e w1 ⟨rfl, hb1⟩)
        | (go_at_call 14; (with_reducible refine (p2 _).mono ?_); rintro e w2 ⟨rfl, hb2⟩)
        | (go_at_call 16; (with_reducible refine (c1 _).mono ?_); rintro e w' ⟨rfl, rfl⟩)
        | (go_at_call 18; (with_reducible refine (c2 _).mono ?_); rintro e w' ⟨rfl, rfl⟩))
      go_ret
      exact ⟨by first | rfl | exact ret_true (by simp; omega), hb0.trans ((hb1.trans (hb2.mono hb1.size)).mono hb0.size)⟩
  · have c1 := U32_of (putU n) 0 (u_out hn0 (by omega)) (by omega)
    rcases (show (-2147483648 ≤ m ∧ m < 2147483648) ∨ (m < -2147483648) ∨ (2147483648 ≤ m) by omega) with hm | hm | hm
    · have c2 := S32_of (putS m) 0 (s_in hm.1 hm.2) (by omega)
      go_enter Try.func6, Try.ntmps6
      go_wp2_with (first
        | (go_at_call 11; (with_reducible refine (head_true _).mono ?_); rintro e w0 ⟨rfl, hb0⟩)
        | (go_at_call 12; (with_reducible refine (p1 _).mono ?_); rintro e w1 ⟨rfl, hb1⟩)
        | (go_at_call 14; (with_reducible refine (p2 _).mono ?_); rintro e w2 ⟨rfl, hb2⟩)
        | (go_at_call 16; (with_reducible refine (c1 _).mono ?_); rintro e w' ⟨rfl, rfl⟩)
        | (go_at_call 18; (with_reducible refine (c2 _).mono ?_); rintro e w' ⟨rfl, rfl⟩))
      go_ret
      exact ⟨by first | rfl | exact ret_true (by simp; omega), hb0.trans ((hb1.trans (hb2.mono hb1.size)).mono hb0.size)⟩
    · have c2 := S32_of (putS m) 0 (s_out (Or.inl hm)) (by omega)
      go_enter Try.func6, Try.ntmps6
      go_wp2_with (first
        | (go_at_call 11; (with_reducible refine (head_true _).mono ?_); rintro e w0 ⟨rfl, hb0⟩)
        | (go_at_call 12; (with_reducible refine (p1 _).mono ?_); rintro e w1 ⟨rfl, hb1⟩)
        | (go_at_call 14; (with_reducible refine (p2 _).mono ?_); rintro e w2 ⟨rfl, hb2⟩)
        | (go_at_call 16; (with_reducible refine (c1 _).mono ?_); rintro e w' ⟨rfl, rfl⟩)
        | (go_at_call 18; (with_reducible refine (c2 _).mono ?_); rintro e w' ⟨rfl, rfl⟩))
      go_ret
      exact ⟨by first | rfl | exact ret_true (by simp; omega), hb0.trans ((hb1.trans (hb2.mono hb1.size)).mono hb0.size)⟩
    · have c2 := S32_of (putS m) 0 (s_out (Or.inr hm)) (by omega)
      go_enter Try.func6, Try.ntmps6
      go_wp2_with (first
        | (go_at_call 11; (with_reducible refine (head_true _).mono ?_); rintro e w0 ⟨rfl, hb0⟩)
        | (go_at_call 12; (with_reducible refine (p1 _).mono ?_); rintro e w1 ⟨rfl, hb1⟩)
        | (go_at_call 14; (with_reducible refine (p2 _).mono ?_); rintro e w2 ⟨rfl, hb2⟩)
        | (go_at_call 16; (with_reducible refine (c1 _).mono ?_); rintro e w' ⟨rfl, rfl⟩)
        | (go_at_call 18; (with_reducible refine (c2 _).mono ?_); rintro e w' ⟨rfl, rfl⟩))
      go_ret
      exact ⟨by first | rfl | exact ret_true (by simp; omega), hb0.trans ((hb1.trans (hb2.mono hb1.size)).mono hb0.size)⟩
end Go.Proofs.Ytoebkicmjglmcaa
