/-
  What one byte gives to a number (leb.bits at its four kinds), and leb.read's loops walked. No statement is proved here; these are the contracts that the proofs call.
-/
import Derived.Test.YtpamchagidnijaaGreatDoorRows
import Derived.Test.YtpamchagidnijaaGreatDoorLebMath
import Derived.WalkKit
import Derived.WalkSpells
import Derived.WalkLawsBesides
import Derived.Lib.Hide
namespace Go.Proofs.YtpamchagidnijaaGreatDoor
open Go.RowKit

theorem mask127 {c : Int} (h₀ : 0 ≤ c) (h₁ : c ≤ 255) : bits .and .u8 c 127 = c % 128 := bits_mask .u8 8 (by decide) wraps_u8 7 (by decide) c h₀ (by omega)

theorem mask64 {c : Int} (h₀ : 0 ≤ c) (h₁ : c ≤ 255) : bits .and .u8 c 64 = if 64 ≤ c % 128 then 64 else 0 := by
  have h : ∀ x : Fin 256, bits .and .u8 (x.val : Int) 64 = if 64 ≤ (x.val : Int) % 128 then 64 else 0 := by decide +kernel
  have := h ⟨c.toNat, by omega⟩
  simpa [Int.toNat_of_nonneg h₀] using this
theorem size_from (s : ByteArray) (a : Nat) : (s.extract a s.size).size = s.size - a := by simp [ByteArray.size_extract]
theorem bytes_step (s : ByteArray) (a k : Nat) (h : k < (s.extract a s.size).size) : (s.extract a s.size).data.toList.drop k = (s.extract a s.size)[k] :: (s.extract a s.size).data.toList.drop (k + 1) := by
  rw [List.drop_eq_getElem_cons (by simpa using h)]
  rfl
theorem rd_over (K : IntKind) (p : Int → Int) (most k : Nat) (X : Int) (l : List UInt8) (h : ¬ k < most) : rd K p most k X l = none := by
  cases l <;> simp [rd, h]
/-- The three answers, out of what the loop found. -/
def outOf (place : Int) : Option (Int × Nat) → Int × Int × Int
  | none => (0, 0, 2)
  | some (v, n) => (v, place + n, 0)


end Go.Proofs.YtpamchagidnijaaGreatDoor
