/-
  What one byte gives to a number (leb.bits at its four kinds), and leb.read's loops walked. No statement is proved here; these are the contracts that the proofs call.
-/
import Derived.Test.YtoebkicmjglmcaaRows
import Derived.Test.YtoebkicmjglmcaaLebMath
import Derived.WalkKit
import Derived.WalkSpells
import Derived.WalkLawsBesides
import Derived.Lib.Hide
namespace Go.Proofs.Ytoebkicmjglmcaa
open Go.RowKit

theorem mask127 {c : Int} (h₀ : 0 ≤ c) (h₁ : c ≤ 255) : bits .and .u8 c 127 = c % 128 := bits_mask .u8 8 (by decide) wraps_u8 7 (by decide) c h₀ (by omega)

theorem mask64 {c : Int} (h₀ : 0 ≤ c) (h₁ : c ≤ 255) : bits .and .u8 c 64 = if 64 ≤ c % 128 then 64 else 0 := by
  have h : ∀ x : Fin 256, bits .and .u8 (x.val : Int) 64 = if 64 ≤ (x.val : Int) % 128 then 64 else 0 := by decide +kernel
  have := h ⟨c.toNat, by omega⟩
  simpa [Int.toNat_of_nonneg h₀] using this

set_option maxHeartbeats 400000 in
theorem bits_u32 (b : Int) (h0 : 0 ≤ b) (h1 : b ≤ 255) (w : World) :
    Calls Try.prog 29 #[.int .u8 b] w fun e w' => e = .returned (.int .u32 (usg b)) ∧ w = w' := by
  have hm : bits .and .u8 b 127 = usg b := mask127 h0 h1
  have hu := usg_bd (b := b)
  go_enter Try.func29, Try.ntmps29
  go_wp2
  go_ret
  exact ⟨rfl, rfl⟩

set_option maxHeartbeats 400000 in
theorem bits_u64 (b : Int) (h0 : 0 ≤ b) (h1 : b ≤ 255) (w : World) :
    Calls Try.prog 33 #[.int .u8 b] w fun e w' => e = .returned (.int .u64 (usg b)) ∧ w = w' := by
  have hm : bits .and .u8 b 127 = usg b := mask127 h0 h1
  have hu := usg_bd (b := b)
  go_enter Try.func33, Try.ntmps33
  go_wp2
  go_ret
  exact ⟨rfl, rfl⟩

set_option maxHeartbeats 400000 in
theorem bits_i32 (b : Int) (h0 : 0 ≤ b) (h1 : b ≤ 255) (w : World) :
    Calls Try.prog 32 #[.int .u8 b] w fun e w' => e = .returned (.int .i32 (sgn b)) ∧ w = w' := by
  have hm := mask127 h0 h1
  have hn : IntKind.i32.signed = true := rfl
  have hx : bits BinOp.xor IntKind.i32 (-1) 0 = -1 := by decide
  by_cases h2 : b < 128
  · by_cases h3 : 64 ≤ b
    · have hs := sgn_yes h2 h3
      have h6 : bits .and .u8 b 64 = 64 := by rw [mask64 h0 h1, if_pos (by omega)]
      go_enter Try.func32, Try.ntmps32
      go_wp2
      go_ret
      exact ⟨rfl, rfl⟩
    · have hs := sgn_no (b := b) (Or.inl (by omega))
      have h6 : bits .and .u8 b 64 = 0 := by rw [mask64 h0 h1, if_neg (by omega)]
      go_enter Try.func32, Try.ntmps32
      go_wp2
      go_ret
      exact ⟨rfl, rfl⟩
  · have hs := sgn_no (b := b) (Or.inr (by omega))
    go_enter Try.func32, Try.ntmps32
    go_wp2
    go_ret
    exact ⟨rfl, rfl⟩

set_option maxHeartbeats 400000 in
theorem bits_i64 (b : Int) (h0 : 0 ≤ b) (h1 : b ≤ 255) (w : World) :
    Calls Try.prog 34 #[.int .u8 b] w fun e w' => e = .returned (.int .i64 (sgn b)) ∧ w = w' := by
  have hm := mask127 h0 h1
  have hn : IntKind.i64.signed = true := rfl
  have hx : bits BinOp.xor IntKind.i64 (-1) 0 = -1 := by decide
  by_cases h2 : b < 128
  · by_cases h3 : 64 ≤ b
    · have hs := sgn_yes h2 h3
      have h6 : bits .and .u8 b 64 = 64 := by rw [mask64 h0 h1, if_pos (by omega)]
      go_enter Try.func34, Try.ntmps34
      go_wp2
      go_ret
      exact ⟨rfl, rfl⟩
    · have hs := sgn_no (b := b) (Or.inl (by omega))
      have h6 : bits .and .u8 b 64 = 0 := by rw [mask64 h0 h1, if_neg (by omega)]
      go_enter Try.func34, Try.ntmps34
      go_wp2
      go_ret
      exact ⟨rfl, rfl⟩
  · have hs := sgn_no (b := b) (Or.inr (by omega))
    go_enter Try.func34, Try.ntmps34
    go_wp2
    go_ret
    exact ⟨rfl, rfl⟩
theorem size_from (s : ByteArray) (a : Nat) : (s.extract a s.size).size = s.size - a := by simp [ByteArray.size_extract]
theorem bytes_step (s : ByteArray) (a k : Nat) (h : k < (s.extract a s.size).size) : (s.extract a s.size).data.toList.drop k = (s.extract a s.size)[k] :: (s.extract a s.size).data.toList.drop (k + 1) := by
  rw [List.drop_eq_getElem_cons (by simpa using h)]
  rfl
theorem rd_over (K : IntKind) (p : Int → Int) (most k : Nat) (X : Int) (l : List UInt8) (h : ¬ k < most) : rd K p most k X l = none := by
  cases l <;> simp [rd, h]
/-- The three answers, out of what the loop found. -/
def outOf (place : Int) : Option (Int × Nat) → Int × Int × Int
  | none => (0, 0, 2)
  | some (v, n) => (v, place + n, 0)


end Go.Proofs.Ytoebkicmjglmcaa
