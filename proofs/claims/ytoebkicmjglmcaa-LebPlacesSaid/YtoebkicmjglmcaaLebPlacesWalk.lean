/-
  LebPlaces, walked: a place that is none is refused for that, and one behind the last byte for want of bytes.
-/
import Derived.Test.YtoebkicmjglmcaaLebAns
namespace Go.Proofs.Ytoebkicmjglmcaa.lebPlaces
open Go.RowKit

theorem ans_err {K : IntKind} {p : Int → Int} {most : Nat} {l : List UInt8} {place : Int} (h : ¬ (place < 0 ∨ (l.length : Int) < place)) : (ans K p most l place).2.2 = 0 ∨ (ans K p most l place).2.2 = 2 := by
  unfold ans
  rw [if_neg h]
  cases fit K most (dec p (l.drop place.toNat)) with
  | none => exact Or.inr rfl
  | some x => exact Or.inl rfl

theorem ans_some_err {K : IntKind} {p : Int → Int} {most : Nat} {l : List UInt8} {place : Int} (h : ¬ (place < 0 ∨ (l.length : Int) < place)) : ∃ a b c, ans K p most l place = (a, b, c) ∧ (c = 0 ∨ c = 2) :=
  ⟨_, _, _, rfl, ans_err h⟩

theorem ans_end {K : IntKind} {p : Int → Int} {most : Nat} (l : List UInt8) : ans K p most l (l.length : Int) = (0, 0, 2) := by
  have := ans_open (K := K) (p := p) (most := most) l [] rfl
  simpa using this
end Go.Proofs.Ytoebkicmjglmcaa.lebPlaces
namespace Go.Proofs.Ytoebkicmjglmcaa
open Go.RowKit lebPlaces

set_option maxRecDepth 100000 in
set_option maxHeartbeats 2000000 in
theorem lebPlaces_walk (s : ByteArray) (a : Int) (hs : s.size ≤ maxLen) (h0 : -9223372036854775808 ≤ a) (h1 : a ≤ 9223372036854775807) (w : World) :
    Calls Try.prog 8 #[.string s, .int .i64 a] w fun e w' => e = .returned (.bool true) ∧ Below w.heap.size w w' := by
  have c3 := S32_is s s.size (a := 0) (b := 0) (c := 2) (by have h := ans_end (K := .i32) (p := sgn) (most := 5) s.data.toList; simpa using h) hs
  by_cases hn : a < 0
  · have e : a < 0 ∨ ((s.data.toList.length : Nat) : Int) < a := Or.inl hn
    have c1 := U32_is s a (ans_none e) hs
    have c2 := S64_is s a (ans_none e) hs
    clear e
    go_enter Try.func8, Try.ntmps8
    go_wp2_with (first
        | (go_at_call 11; (with_reducible refine (head_true _).mono ?_); rintro e w0 ⟨rfl, hb0⟩)
        | (go_at_call 16; (with_reducible refine (c1 _).mono ?_); rintro e w' ⟨rfl, rfl⟩)
        | (go_at_call 22; (with_reducible refine (c2 _).mono ?_); rintro e w' ⟨rfl, rfl⟩)
        | (go_at_call 18; (with_reducible refine (c3 _).mono ?_); rintro e w' ⟨rfl, rfl⟩))
    go_ret
    exact ⟨by first | rfl | exact ret_true (by simp; omega), hb0⟩
  · by_cases hm : (s.size : Int) < a
    · have e : a < 0 ∨ ((s.data.toList.length : Nat) : Int) < a := Or.inr (by simpa using hm)
      have c1 := U32_is s a (ans_none e) hs
      have c2 := S64_is s a (ans_none e) hs
      clear e
      go_enter Try.func8, Try.ntmps8
      go_wp2_with (first
        | (go_at_call 11; (with_reducible refine (head_true _).mono ?_); rintro e w0 ⟨rfl, hb0⟩)
        | (go_at_call 16; (with_reducible refine (c1 _).mono ?_); rintro e w' ⟨rfl, rfl⟩)
        | (go_at_call 22; (with_reducible refine (c2 _).mono ?_); rintro e w' ⟨rfl, rfl⟩)
        | (go_at_call 18; (with_reducible refine (c3 _).mono ?_); rintro e w' ⟨rfl, rfl⟩))
      go_ret
      exact ⟨by first | rfl | exact ret_true (by simp; omega), hb0⟩
    · have e : ¬ (a < 0 ∨ ((s.data.toList.length : Nat) : Int) < a) := by simp; omega
      obtain ⟨x1, x2, x3, g1, k1⟩ := ans_some_err (K := .u32) (p := usg) (most := 5) e
      obtain ⟨y1, y2, y3, g2, k2⟩ := ans_some_err (K := .i64) (p := sgn) (most := 10) e
      have c1 := U32_is s a g1 hs
      have c2 := S64_is s a g2 hs
      have q1 : (x3 == 1) = false := by rcases k1 with rfl | rfl <;> rfl
      have q2 : (y3 == 1) = false := by rcases k2 with rfl | rfl <;> rfl
      have q3 : decide (a < 0) = false := by simp; omega
      have q4 : decide ((s.size : Int) < a) = false := by simp; omega
      clear e g1 g2
      go_enter Try.func8, Try.ntmps8
      go_wp2_with (first
        | (go_at_call 11; (with_reducible refine (head_true _).mono ?_); rintro e w0 ⟨rfl, hb0⟩)
        | (go_at_call 16; (with_reducible refine (c1 _).mono ?_); rintro e w' ⟨rfl, rfl⟩)
        | (go_at_call 22; (with_reducible refine (c2 _).mono ?_); rintro e w' ⟨rfl, rfl⟩)
        | (go_at_call 18; (with_reducible refine (c3 _).mono ?_); rintro e w' ⟨rfl, rfl⟩))
      go_ret
      exact ⟨by first | rfl | exact ret_true (by simp; omega), hb0⟩
end Go.Proofs.Ytoebkicmjglmcaa
