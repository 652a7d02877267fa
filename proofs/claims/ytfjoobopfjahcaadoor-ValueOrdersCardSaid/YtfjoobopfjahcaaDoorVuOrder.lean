/-
  How two values stand in a sort: package value's own, walked. Contracts that the proofs call; no statement is proved here.
-/
import Derived.Test.YtfjoobopfjahcaaDoorVuCmp
namespace Go.Proofs.YtfjoobopfjahcaaDoor
open Go.RowKit

set_option maxRecDepth 100000 in
set_option maxHeartbeats 4000000 in
theorem val_order (ua : Bool) (na : Int) (za : ByteArray) (ub : Bool) (nb : Int) (zb : ByteArray) (k s : Int) (hna : -9223372036854775808 ≤ na ∧ na ≤ 9223372036854775807) (hnb : -9223372036854775808 ≤ nb ∧ nb ≤ 9223372036854775807) (hza : za.size ≤ maxLen) (hzb : zb.size ≤ maxLen) (w : World) (hT : Tru w) :
    Calls Tryd.prog 26 #[.agg #[.bool ua, .int .i64 na, .string za], .agg #[.bool ub, .int .i64 nb, .string zb], .agg #[.int .i64 k, .int .i64 s]] w fun e w' => e = .returned (.int .i64 (ordV ua na za ub nb zb k s)) ∧ Below w.heap.size w w' := by
  have cc := fun w hT => val_compare ua na za ub nb zb k s k s hna hnb hza hzb w hT
  have hT3 : ∀ A B C, Tru (((w.alloc A).alloc B).alloc C) := fun A B C => ((hT.alloc A).alloc B).alloc C
  cases ua <;> cases ub
  all_goals
    go_enter Tryd.func26, Tryd.ntmps26
    go_wp2_with (go_at_call 21; (with_reducible refine (cc _ (hT3 _ _ _)).mono ?_); rintro e w1 ⟨rfl, hb1⟩; have hB1 := bt b3 hb1)
    go_ret
    exact ⟨rfl, by first | exact hB1 | exact b3⟩

end Go.Proofs.YtfjoobopfjahcaaDoor
