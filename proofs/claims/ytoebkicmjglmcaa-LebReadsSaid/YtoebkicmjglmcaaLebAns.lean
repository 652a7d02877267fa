/-
  What is read where a number was written: facts that join what is written with what is read. No statement is proved here.
-/
import Derived.Test.YtoebkicmjglmcaaLebHead
namespace Go.Proofs.Ytoebkicmjglmcaa
open Go.RowKit

theorem ans_some {K : IntKind} {p : Int → Int} {most : Nat} (pre t : List UInt8) {v : Int} {k : Nat} (h : dec p t = some (v, k)) (h1 : k ≤ most) (h2 : K.min ≤ v) (h3 : v ≤ K.max) :
    ans K p most (pre ++ t) (pre.length : Int) = (v, (pre.length : Int) + k, 0) := by
  unfold ans
  rw [if_neg (by simp; omega), Int.toNat_natCast, List.drop_left, h]
  simp [fit, h1, h2, h3]

theorem ans_not {K : IntKind} {p : Int → Int} {most : Nat} (pre t : List UInt8) {v : Int} {k : Nat} (h : dec p t = some (v, k)) (h1 : ¬ (k ≤ most ∧ K.min ≤ v ∧ v ≤ K.max)) :
    ans K p most (pre ++ t) (pre.length : Int) = (0, 0, 2) := by
  unfold ans
  rw [if_neg (by simp; omega), Int.toNat_natCast, List.drop_left, h]
  simp only [fit]
  rw [if_neg h1]

theorem ans_open {K : IntKind} {p : Int → Int} {most : Nat} (pre t : List UInt8) (h : dec p t = none) : ans K p most (pre ++ t) (pre.length : Int) = (0, 0, 2) := by
  unfold ans
  rw [if_neg (by simp; omega), Int.toNat_natCast, List.drop_left, h]
  rfl

theorem ret_true {b : Bool} (h : b = true) : Ending.returned (.bool b) = .returned (.bool true) := by rw [h]

theorem put_size_u {n : Int} (h0 : 0 ≤ n) (h1 : n ≤ 18446744073709551615) : (ByteArray.mk (putU n).toArray).size ≤ maxLen := by
  have := putU_len10 h0 h1
  show (putU n).toArray.size ≤ maxLen
  unfold maxLen; simp; omega
theorem put_size_s {n : Int} (h0 : -9223372036854775808 ≤ n) (h1 : n ≤ 9223372036854775807) : (ByteArray.mk (putS n).toArray).size ≤ maxLen := by
  have := putS_len10 h0 h1
  show (putS n).toArray.size ≤ maxLen
  unfold maxLen; simp; omega

theorem U32_is (s : ByteArray) (place : Int) {a b c : Int} (h : ans .u32 usg 5 s.data.toList place = (a, b, c)) (hs : s.size ≤ maxLen) (w : World) :
    Calls Try.prog 16 #[.string s, .int .i64 place] w fun e w' => e = .returned (.tuple #[.int .u32 a, .int .i64 b, .int .i64 c]) ∧ w = w' := by
  have g := get_u32 s place hs w
  rw [h] at g
  exact g
theorem U32_of (l : List UInt8) (place : Int) {a b c : Int} (h : ans .u32 usg 5 l place = (a, b, c)) (hs : l.length ≤ 1000) (w : World) :
    Calls Try.prog 16 #[.string ⟨l.toArray⟩, .int .i64 place] w fun e w' => e = .returned (.tuple #[.int .u32 a, .int .i64 b, .int .i64 c]) ∧ w = w' :=
  U32_is ⟨l.toArray⟩ place (by simpa using h) (by show l.toArray.size ≤ maxLen; unfold maxLen; simp; omega) w

theorem S32_is (s : ByteArray) (place : Int) {a b c : Int} (h : ans .i32 sgn 5 s.data.toList place = (a, b, c)) (hs : s.size ≤ maxLen) (w : World) :
    Calls Try.prog 18 #[.string s, .int .i64 place] w fun e w' => e = .returned (.tuple #[.int .i32 a, .int .i64 b, .int .i64 c]) ∧ w = w' := by
  have g := get_i32 s place hs w
  rw [h] at g
  exact g
theorem S32_of (l : List UInt8) (place : Int) {a b c : Int} (h : ans .i32 sgn 5 l place = (a, b, c)) (hs : l.length ≤ 1000) (w : World) :
    Calls Try.prog 18 #[.string ⟨l.toArray⟩, .int .i64 place] w fun e w' => e = .returned (.tuple #[.int .i32 a, .int .i64 b, .int .i64 c]) ∧ w = w' :=
  S32_is ⟨l.toArray⟩ place (by simpa using h) (by show l.toArray.size ≤ maxLen; unfold maxLen; simp; omega) w

theorem U64_is (s : ByteArray) (place : Int) {a b c : Int} (h : ans .u64 usg 10 s.data.toList place = (a, b, c)) (hs : s.size ≤ maxLen) (w : World) :
    Calls Try.prog 20 #[.string s, .int .i64 place] w fun e w' => e = .returned (.tuple #[.int .u64 a, .int .i64 b, .int .i64 c]) ∧ w = w' := by
  have g := get_u64 s place hs w
  rw [h] at g
  exact g
theorem U64_of (l : List UInt8) (place : Int) {a b c : Int} (h : ans .u64 usg 10 l place = (a, b, c)) (hs : l.length ≤ 1000) (w : World) :
    Calls Try.prog 20 #[.string ⟨l.toArray⟩, .int .i64 place] w fun e w' => e = .returned (.tuple #[.int .u64 a, .int .i64 b, .int .i64 c]) ∧ w = w' :=
  U64_is ⟨l.toArray⟩ place (by simpa using h) (by show l.toArray.size ≤ maxLen; unfold maxLen; simp; omega) w

theorem S64_is (s : ByteArray) (place : Int) {a b c : Int} (h : ans .i64 sgn 10 s.data.toList place = (a, b, c)) (hs : s.size ≤ maxLen) (w : World) :
    Calls Try.prog 22 #[.string s, .int .i64 place] w fun e w' => e = .returned (.tuple #[.int .i64 a, .int .i64 b, .int .i64 c]) ∧ w = w' := by
  have g := get_i64 s place hs w
  rw [h] at g
  exact g
theorem S64_of (l : List UInt8) (place : Int) {a b c : Int} (h : ans .i64 sgn 10 l place = (a, b, c)) (hs : l.length ≤ 1000) (w : World) :
    Calls Try.prog 22 #[.string ⟨l.toArray⟩, .int .i64 place] w fun e w' => e = .returned (.tuple #[.int .i64 a, .int .i64 b, .int .i64 c]) ∧ w = w' :=
  S64_is ⟨l.toArray⟩ place (by simpa using h) (by show l.toArray.size ≤ maxLen; unfold maxLen; simp; omega) w
end Go.Proofs.Ytoebkicmjglmcaa
