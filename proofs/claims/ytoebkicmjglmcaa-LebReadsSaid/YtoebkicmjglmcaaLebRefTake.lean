/-
  The document's own answer to what is read: a number bit by bit; walked. These are contracts that the proofs call; no statement is proved here.
-/
import Derived.Test.YtoebkicmjglmcaaLebRefBit
namespace Go.Proofs.Ytoebkicmjglmcaa
open Go.RowKit

/-- Are so many bits from the i-th on as is wanted? -/
def chk (v want : Int) : Nat → Nat → Bool
  | 0, _ => true
  | n + 1, i => if v / 2 ^ i % 2 = want then chk v want n (i + 1) else false
def takeOut (n place : Int) : Bool → Int × Int × Int
  | true => (n, place, 0)
  | false => (0, 0, 2)
theorem chk_yes {v want : Int} {n i : Nat} (hn : 0 < n) (h : v / 2 ^ i % 2 = want) : chk v want n i = chk v want (n - 1) (i + 1) := by
  obtain ⟨m, rfl⟩ : ∃ m, n = m + 1 := ⟨n - 1, by omega⟩
  simp [chk, h]
theorem chk_no {v want : Int} {n i : Nat} (hn : 0 < n) (h : ¬ v / 2 ^ i % 2 = want) : chk v want n i = false := by
  obtain ⟨m, rfl⟩ : ∃ m, n = m + 1 := ⟨n - 1, by omega⟩
  simp [chk, h]

theorem dec_len (p : Int → Int) : ∀ (l : List UInt8) (v : Int) (k : Nat), dec p l = some (v, k) → k ≤ l.length
  | [], _, _, h => by simp [dec] at h
  | b :: l, v, k, h => by
    simp only [dec] at h
    by_cases h8 : b.toNat < 128
    · rw [if_pos h8] at h
      simp only [Option.some.injEq, Prod.mk.injEq] at h
      simp; omega
    · rw [if_neg h8] at h
      cases hd : dec p l with
      | none => simp [hd] at h
      | some x =>
        obtain ⟨v', n⟩ := x
        rw [hd] at h
        simp only [Option.map_some, Option.some.injEq, Prod.mk.injEq] at h
        have := dec_len p l v' n hd
        simp; omega

theorem or_pow {v X : Int} {i : Nat} (hi : i < 64) (hX : X = v % 2 ^ i) (h1 : v / 2 ^ i % 2 = 1) : bits .or .u64 X (2 ^ i % 18446744073709551616) = v % 2 ^ (i + 1) := by
  have hp := pow2_pos i
  have hle : (2 : Int) ^ i ≤ 2 ^ 63 := by exact_mod_cast Nat.pow_le_pow_right (by decide) (by omega)
  have e : (2 : Int) ^ i % 18446744073709551616 = 2 ^ i := Int.emod_eq_of_lt (by omega) (by omega)
  have h0 : 0 ≤ X := by rw [hX]; exact Int.emod_nonneg v (Int.ne_of_gt hp)
  have hl : X < 2 ^ i := by rw [hX]; exact Int.emod_lt_of_pos v hp
  rw [e, or_add .u64 wr_u64 i (by simp [IntKind.bits]; omega) X (2 ^ i) h0 hl (by simp), low_succ v i, h1, ← hX, IntKind.wrap_u64]
  omega
theorem skip_pow {v X : Int} {i : Nat} (hX : X = v % 2 ^ i) (h1 : v / 2 ^ i % 2 = 0) : X = v % 2 ^ (i + 1) := by
  rw [low_succ v i, h1, hX]; omega

theorem and_one_u (x : Int) (h0 : 0 ≤ x) (h1 : x < 2) : bits .and .u64 x 1 = x := by
  rcases (show x = 0 ∨ x = 1 by omega) with rfl | rfl <;> decide
theorem top_bit {v X : Int} {n : Nat} (hX : X = v % 2 ^ (n + 1)) : X / 2 ^ n = v / 2 ^ n % 2 := by
  have hp := pow2_pos n
  rw [hX, low_succ v n, Int.add_mul_ediv_right _ _ (Int.ne_of_gt hp), Int.ediv_eq_zero_of_lt (Int.emod_nonneg v (Int.ne_of_gt hp)) (Int.emod_lt_of_pos v hp)]
  omega

set_option maxHeartbeats 400000 in
theorem ref_take_place (s : ByteArray) (place bs : Int) (sg : Bool) (h : place < 0 ∨ (s.size : Int) < place) (w : World) :
    Calls Try.prog 25 #[.string s, .int .i64 place, .int .i64 bs, .bool sg] w fun e w' => e = .returned (.tuple #[.int .u64 0, .int .i64 0, .int .i64 1]) ∧ w = w' := by
  by_cases h0 : place < 0
  · go_enter Try.func25, Try.ntmps25
    go_wp2
    go_ret3
    exact ⟨rfl, rfl⟩
  · have h1 : (s.size : Int) < place := by omega
    go_enter Try.func25, Try.ntmps25
    go_wp2
    go_ret3
    exact ⟨rfl, rfl⟩

set_option maxHeartbeats 400000 in
theorem ref_take_none (s : ByteArray) (a bs most : Nat) (sg : Bool) (ha : a ≤ s.size) (hs : s.size ≤ maxLen) (hbs : bs ≤ 64) (hm : most = (bs + 6) / 7) (h : szr most 0 (s.data.toList.drop a) = 0) (w : World) :
    Calls Try.prog 25 #[.string s, .int .i64 a, .int .i64 bs, .bool sg] w fun e w' => e = .returned (.tuple #[.int .u64 0, .int .i64 0, .int .i64 2]) ∧ w = w' := by
  have c1 := ref_size s a most ha hs (by omega)
  rw [h] at c1
  have em : ((bs : Int) + 6) / 7 = (most : Int) := by omega
  have hd1 : decide (s.size < a) = false := by simp; omega
  clear h hm
  unfold maxLen at hs
  go_enter Try.func25, Try.ntmps25
  go_wp2_with (first
    | (go_at_call 30; (with_reducible refine (c1 _).mono ?_); rintro e w' ⟨rfl, rfl⟩))
  go_ret3
  exact ⟨rfl, rfl⟩
end Go.Proofs.Ytoebkicmjglmcaa
