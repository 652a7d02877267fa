/-
  What leb.U32, S32, U64, S64 answer: contracts that the proofs call. No statement is proved here.
-/
import Derived.Test.YtoebkicmjglmcaaLebReadU32
import Derived.Test.YtoebkicmjglmcaaLebReadI32
import Derived.Test.YtoebkicmjglmcaaLebReadU64
import Derived.Test.YtoebkicmjglmcaaLebReadI64
namespace Go.Proofs.Ytoebkicmjglmcaa
open Go.RowKit

theorem drop_extract (s : ByteArray) (a : Nat) : (s.extract a s.size).data.toList = s.data.toList.drop a := by
  simp [ByteArray.data_extract]
  exact List.take_of_length_le (by simp)

theorem ans_none {K : IntKind} {p : Int → Int} {most : Nat} {l : List UInt8} {place : Int} (h : place < 0 ∨ (l.length : Int) < place) : ans K p most l place = (0, 0, 1) := by
  unfold ans; rw [if_pos h]
theorem ans_out {K : IntKind} {p : Int → Int} {most : Nat} (st : Step K p most) (s : ByteArray) (a : Nat) (ha : a ≤ s.size) :
    ans K p most s.data.toList a = outOf a (rd K p most 0 0 (s.extract a s.size).data.toList) := by
  unfold ans
  rw [if_neg (by simp; omega), rd_dec st, drop_extract, Int.toNat_natCast]
  cases fit K most (dec p (s.data.toList.drop a)) with
  | none => rfl
  | some x => rfl

theorem read_u32_any (s : ByteArray) (place : Int) (hs : s.size ≤ maxLen) (w : World) :
    Calls Try.prog 24 #[.string s, .int .i64 place, .int .i64 5] w fun e w' => e = .returned (.tuple #[.int .u32 (ans .u32 usg 5 s.data.toList place).1, .int .i64 (ans .u32 usg 5 s.data.toList place).2.1, .int .i64 (ans .u32 usg 5 s.data.toList place).2.2]) ∧ w = w' := by
  by_cases h : place < 0 ∨ (s.size : Int) < place
  · rw [ans_none (by simpa using h)]
    exact read_u32_none s place 5 h w
  · obtain ⟨a, rfl⟩ := Int.eq_ofNat_of_zero_le (show 0 ≤ place by omega)
    rw [ans_out step_u32 s a (by omega)]
    exact read_u32_walk s a (by omega) hs w

set_option maxHeartbeats 400000 in
theorem get_u32 (s : ByteArray) (place : Int) (hs : s.size ≤ maxLen) (w : World) :
    Calls Try.prog 16 #[.string s, .int .i64 place] w fun e w' => e = .returned (.tuple #[.int .u32 (ans .u32 usg 5 s.data.toList place).1, .int .i64 (ans .u32 usg 5 s.data.toList place).2.1, .int .i64 (ans .u32 usg 5 s.data.toList place).2.2]) ∧ w = w' := by
  go_enter Try.func16, Try.ntmps16
  go_wp2_with (go_at_call 24; refine (read_u32_any _ _ hs _).mono ?_; rintro e w' ⟨rfl, rfl⟩)
  go_ret3
  exact ⟨rfl, rfl⟩

theorem read_i32_any (s : ByteArray) (place : Int) (hs : s.size ≤ maxLen) (w : World) :
    Calls Try.prog 26 #[.string s, .int .i64 place, .int .i64 5] w fun e w' => e = .returned (.tuple #[.int .i32 (ans .i32 sgn 5 s.data.toList place).1, .int .i64 (ans .i32 sgn 5 s.data.toList place).2.1, .int .i64 (ans .i32 sgn 5 s.data.toList place).2.2]) ∧ w = w' := by
  by_cases h : place < 0 ∨ (s.size : Int) < place
  · rw [ans_none (by simpa using h)]
    exact read_i32_none s place 5 h w
  · obtain ⟨a, rfl⟩ := Int.eq_ofNat_of_zero_le (show 0 ≤ place by omega)
    rw [ans_out step_i32 s a (by omega)]
    exact read_i32_walk s a (by omega) hs w

set_option maxHeartbeats 400000 in
theorem get_i32 (s : ByteArray) (place : Int) (hs : s.size ≤ maxLen) (w : World) :
    Calls Try.prog 18 #[.string s, .int .i64 place] w fun e w' => e = .returned (.tuple #[.int .i32 (ans .i32 sgn 5 s.data.toList place).1, .int .i64 (ans .i32 sgn 5 s.data.toList place).2.1, .int .i64 (ans .i32 sgn 5 s.data.toList place).2.2]) ∧ w = w' := by
  go_enter Try.func18, Try.ntmps18
  go_wp2_with (go_at_call 26; refine (read_i32_any _ _ hs _).mono ?_; rintro e w' ⟨rfl, rfl⟩)
  go_ret3
  exact ⟨rfl, rfl⟩

theorem read_u64_any (s : ByteArray) (place : Int) (hs : s.size ≤ maxLen) (w : World) :
    Calls Try.prog 27 #[.string s, .int .i64 place, .int .i64 10] w fun e w' => e = .returned (.tuple #[.int .u64 (ans .u64 usg 10 s.data.toList place).1, .int .i64 (ans .u64 usg 10 s.data.toList place).2.1, .int .i64 (ans .u64 usg 10 s.data.toList place).2.2]) ∧ w = w' := by
  by_cases h : place < 0 ∨ (s.size : Int) < place
  · rw [ans_none (by simpa using h)]
    exact read_u64_none s place 10 h w
  · obtain ⟨a, rfl⟩ := Int.eq_ofNat_of_zero_le (show 0 ≤ place by omega)
    rw [ans_out step_u64 s a (by omega)]
    exact read_u64_walk s a (by omega) hs w

set_option maxHeartbeats 400000 in
theorem get_u64 (s : ByteArray) (place : Int) (hs : s.size ≤ maxLen) (w : World) :
    Calls Try.prog 20 #[.string s, .int .i64 place] w fun e w' => e = .returned (.tuple #[.int .u64 (ans .u64 usg 10 s.data.toList place).1, .int .i64 (ans .u64 usg 10 s.data.toList place).2.1, .int .i64 (ans .u64 usg 10 s.data.toList place).2.2]) ∧ w = w' := by
  go_enter Try.func20, Try.ntmps20
  go_wp2_with (go_at_call 27; refine (read_u64_any _ _ hs _).mono ?_; rintro e w' ⟨rfl, rfl⟩)
  go_ret3
  exact ⟨rfl, rfl⟩

theorem read_i64_any (s : ByteArray) (place : Int) (hs : s.size ≤ maxLen) (w : World) :
    Calls Try.prog 28 #[.string s, .int .i64 place, .int .i64 10] w fun e w' => e = .returned (.tuple #[.int .i64 (ans .i64 sgn 10 s.data.toList place).1, .int .i64 (ans .i64 sgn 10 s.data.toList place).2.1, .int .i64 (ans .i64 sgn 10 s.data.toList place).2.2]) ∧ w = w' := by
  by_cases h : place < 0 ∨ (s.size : Int) < place
  · rw [ans_none (by simpa using h)]
    exact read_i64_none s place 10 h w
  · obtain ⟨a, rfl⟩ := Int.eq_ofNat_of_zero_le (show 0 ≤ place by omega)
    rw [ans_out step_i64 s a (by omega)]
    exact read_i64_walk s a (by omega) hs w

set_option maxHeartbeats 400000 in
theorem get_i64 (s : ByteArray) (place : Int) (hs : s.size ≤ maxLen) (w : World) :
    Calls Try.prog 22 #[.string s, .int .i64 place] w fun e w' => e = .returned (.tuple #[.int .i64 (ans .i64 sgn 10 s.data.toList place).1, .int .i64 (ans .i64 sgn 10 s.data.toList place).2.1, .int .i64 (ans .i64 sgn 10 s.data.toList place).2.2]) ∧ w = w' := by
  go_enter Try.func22, Try.ntmps22
  go_wp2_with (go_at_call 28; refine (read_i64_any _ _ hs _).mono ?_; rintro e w' ⟨rfl, rfl⟩)
  go_ret3
  exact ⟨rfl, rfl⟩
end Go.Proofs.Ytoebkicmjglmcaa
