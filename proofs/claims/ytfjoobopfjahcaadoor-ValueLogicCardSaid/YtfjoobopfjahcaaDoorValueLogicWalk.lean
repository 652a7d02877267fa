/-
  ValueLogic, walked: not turned twice is as it was; And and Or are one another's turn.
-/
import Derived.Test.YtfjoobopfjahcaaDoorVuLogicF
import Derived.Test.YtfjoobopfjahcaaDoorVuLogicN
import Derived.Test.YtfjoobopfjahcaaDoorVuLogicT
namespace Go.Proofs.YtfjoobopfjahcaaDoor
open Go.RowKit
theorem valueLogic_walk (a b : Int) (ha : 0 ≤ a ∧ a ≤ 255) (hb : 0 ≤ b ∧ b ≤ 255) (w : World) (hL : Laid w) :
    Calls Tryd.prog 6 #[.int .u8 a, .int .u8 b] w fun e w' => e = .returned (.bool true) ∧ Below w.heap.size w w' := by
  have ka : a % 3 = 0 ∨ a % 3 = 1 ∨ a % 3 = 2 := by omega
  have kb : b % 3 = 0 ∨ b % 3 = 1 ∨ b % 3 = 2 := by omega
  rcases ka with ka | ka | ka <;> rcases kb with kb | kb | kb
  · exact logic_FF a b ha.1 ha.2 hb.1 hb.2 ka kb w hL
  · exact logic_FN a b ha.1 ha.2 hb.1 hb.2 ka kb w hL
  · exact logic_FT a b ha.1 ha.2 hb.1 hb.2 ka kb w hL
  · exact logic_NF a b ha.1 ha.2 hb.1 hb.2 ka kb w hL
  · exact logic_NN a b ha.1 ha.2 hb.1 hb.2 ka kb w hL
  · exact logic_NT a b ha.1 ha.2 hb.1 hb.2 ka kb w hL
  · exact logic_TF a b ha.1 ha.2 hb.1 hb.2 ka kb w hL
  · exact logic_TN a b ha.1 ha.2 hb.1 hb.2 ka kb w hL
  · exact logic_TT a b ha.1 ha.2 hb.1 hb.2 ka kb w hL
end Go.Proofs.YtfjoobopfjahcaaDoor
