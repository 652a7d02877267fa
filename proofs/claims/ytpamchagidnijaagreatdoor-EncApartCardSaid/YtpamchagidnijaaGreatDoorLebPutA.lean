/-
  What the walks of written numbers take. Plain; no statement is proved here.
-/
import Derived.Test.YtpamchagidnijaaGreatDoorRows
import Derived.Test.YtpamchagidnijaaGreatDoorLebEnc
import Derived.Test.YtpamchagidnijaaGreatDoorLebRow
import Derived.Laws.Bits128
import Derived.WalkKit
import Derived.WalkSpells
import Derived.WalkLawsBesides
import Derived.Lib.Hide
namespace Go.Proofs.YtpamchagidnijaaGreatDoor
open Go.RowKit

theorem Tryz.info5 : (Tryz.prog.info? 5).map (fun i => (i.zero, i.size, i.bytes)) = some (some (.int .u8 0), 1, 1) := by kernel_rfl

theorem or128 (n : Int) : bits .or .u8 (n % 256) 128 = n % 128 + 128 := by
  have h : ∀ x : Fin 256, bits .or .u8 (x.val : Int) 128 = (x.val : Int) % 128 + 128 := by decide +kernel
  have h2 := h ⟨(n % 256).toNat, by omega⟩
  simp only [Int.toNat_of_nonneg (show 0 ≤ n % 256 by omega)] at h2
  omega

theorem cell_new (w : World) (v : Value) (t : TypeId) : (w.alloc (.cells #[v] t)).cell? ⟨w.heap.size, 0, none⟩ = some v := by
  rw [World.cell?_alloc_at _ _ _ _ rfl]; rfl

theorem row_start (w : World) (vs : Array Value) (eb : Nat) : Row (w.alloc (.cells vs eb)) w.heap.size eb vs.size [] :=
  ⟨vs, heap_alloc_new w _, rfl, by simp, by simp⟩

theorem last_s {x : Int} (h0 : -64 ≤ x) (h1 : x < 64) : (x / 128 = 0 ∧ x % 128 < 64) ∨ (x / 128 = -1 ∧ 64 ≤ x % 128) := by omega
theorem more_s {x : Int} (h : x < -64 ∨ 64 ≤ x) : ¬ ((x / 128 = 0 ∧ x % 128 < 64) ∨ (x / 128 = -1 ∧ 64 ≤ x % 128)) := by omega
theorem put_s_room {n x : Int} {d : List UInt8} (hlen : (putS n).length ≤ 10) (hd : putS n = d ++ putS x) : d.length + 1 ≤ 10 := by
  have h := congrArg List.length hd
  have : 1 ≤ (putS x).length := by have := putS_ne x; cases hp : putS x <;> simp_all
  rw [List.length_append] at h
  omega
end Go.Proofs.YtpamchagidnijaaGreatDoor
