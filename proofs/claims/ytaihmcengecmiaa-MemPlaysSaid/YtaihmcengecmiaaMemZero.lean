/-
  The zero value of a page: as many cells as a page has bytes, each of them 0. Facts that the proofs call; no statement is proved here.
-/
import Derived.Test.YtaihmcengecmiaaProg
import Derived.RowKit3
namespace Go.Proofs.Ytaihmcengecmiaa
open Go.RowKit

/-- The cells of a page that is new. -/
noncomputable def pageZ : Array Value := (Try.t74.zero.map (·.cells)).getD #[]
def isZ8 : Value → Bool
  | .int .u8 0 => true
  | _ => false
theorem isZ8_eq {v : Value} (h : isZ8 v = true) : v = .int .u8 0 := by
  unfold isZ8 at h
  split at h
  · rfl
  · cases h
theorem pageZ_size : pageZ.size = 65536 := by decide +kernel
theorem pageZ_all : pageZ.toList.all isZ8 = true := by decide +kernel
theorem pageZ_agg : Try.t74.zero.map (fun z => match z with | .agg _ => true | _ => false) = some true := by decide +kernel
theorem zero_page : Try.t74.zero = some (.agg pageZ) := by
  have h := pageZ_agg
  unfold pageZ
  cases hz : Try.t74.zero with
  | none => rw [hz] at h; cases h
  | some z =>
    rw [hz] at h
    cases z with
    | agg a => rfl
    | _ => simp at h
theorem pageZ_at {i : Nat} (h : i < 65536) : pageZ[i]? = some (.int .u8 0) := by
  have hi : i < pageZ.size := by rw [pageZ_size]; exact h
  have hm : pageZ[i] ∈ pageZ.toList := by simp
  rw [Array.getElem?_eq_getElem hi, isZ8_eq (List.all_eq_true.1 pageZ_all _ hm)]
theorem zeroValue_page (w : World) : (zeroValue 74).run Try.prog w = .ok (.agg pageZ) w := by
  simp only [zeroValue, Sem.run_bind, Try.typeInfo74, Result.andThen_ok, zero_page, Sem.run_pure]
end Go.Proofs.Ytaihmcengecmiaa
