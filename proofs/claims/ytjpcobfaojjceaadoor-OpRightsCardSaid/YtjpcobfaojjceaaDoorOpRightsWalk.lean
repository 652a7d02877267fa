/-
  OpRights, walked: any instruction is right, or not, as the document's own answer says.
-/
import Derived.Test.YtjpcobfaojjceaaDoorOpHead
import Derived.Deep.RegionWith
namespace Go.Proofs.YtjpcobfaojjceaaDoor
open Go.RowKit

/-- What a call's world keeps of the instruction: its cells, and its labels. -/
def Keeps (w0 : World) (x y z u : Value) (p : Option Addr) (ls : List Int) (w : World) : Prop := At4 w w0.heap.size x y z u ∧ IntsAt w p ls ∧ Below w0.heap.size w0 w
theorem Keeps.below {w0 w w' : World} {x y z u : Value} {p : Option Addr} {ls : List Int} (h : Keeps w0 x y z u p ls w) (hb : Below w.heap.size w w') : Keeps w0 x y z u p ls w' :=
  ⟨h.1.below hb, h.2.1.below hb (Nat.le_refl _), bt h.2.2 hb⟩
theorem Keeps.drew {w0 w : World} {x y z u : Value} {p : Option Addr} {ls : List Int} (h : Keeps w0 x y z u p ls w) : Keeps w0 x y z u p ls w.drew := ⟨h.1, h.2.1, h.2.2.drew⟩

set_option maxRecDepth 100000 in
set_option maxHeartbeats 4000000 in
theorem opRights_walk (op a b : Int) (p : Option Addr) (n cap : Nat) (ls : List Int) (h0 : -9223372036854775808 ≤ op) (h1 : op ≤ 9223372036854775807) (hn : n = ls.length) (hmx : n ≤ 17592186044416) (w : World) (hLaid : Laid w) (hls : IntsAt w p ls) :
    Calls Tryd.prog 4 #[.agg #[.int .i64 op, .int .i64 a, .int .i64 b, .slice p n cap]] w fun e w' => e = .returned (.bool true) ∧ Below w.heap.size w w' := by
  have c1 := fun w hL h => op_right op a b p n cap ls h0 h1 hn hmx w hL h
  have c2 := fun w h => ref_right op a b p n cap ls hn hmx w h
  generalize rightOf (byCode op) op a b ls = x at c1 c2
  have hK : Keeps w (.int .i64 op) (.int .i64 a) (.int .i64 b) (.slice p n cap) p ls (w.alloc (.cells #[.int .i64 op, .int .i64 a, .int .i64 b, .slice p n cap] 36)) :=
    ⟨At4.new _ _ _ _ _ _, hls.below ((Below.refl w.heap.size w).alloc (Nat.le_refl _) _) (Nat.le_refl _), (Below.refl w.heap.size w).alloc (Nat.le_refl _) _⟩
  clear hn hmx
  go_enter Tryd.func4, Tryd.ntmps4
  go_wp2_with (first
    | (go_at_call 8; refine (head_op _ (hLaid.alloc _)).mono ?_; rintro e w1 ⟨rfl, hb⟩; replace hK := hK.below hb; clear hb))
  have ⟨⟨_, r0, r1, r2, r3⟩, _, _⟩ := hK
  go_wp2_with fail
  go_region_with (first
    | (go_at_call 15; refine (c1 _ ?_ ?_).mono ?_; (first | exact hLaid.below hK2.2.2 | exact hLaid.below hK.2.2 | exact hLaid.below hK.drew.2.2); (first | exact hK2.2.1 | exact hK.2.1); rintro e w2 ⟨rfl, hb⟩; have hK2 := hK.drew.below hb; have ⟨⟨_, s0, s1, s2, s3⟩, _, _⟩ := hK2; clear hb)
    | (go_at_call 16; refine (c2 _ ?_).mono ?_; (first | exact hK2.2.1 | exact hK.2.1); rintro e w3 ⟨rfl, hb⟩; have hK3 := hK2.below hb; clear hb))
  all_goals go_wp2
  all_goals go_ret
  all_goals exact ⟨by first | rfl | exact ret_true (by simp), hK3.2.2⟩
end Go.Proofs.YtjpcobfaojjceaaDoor
