/-
  NumOnes, NumTwos, walked: any operation does what the document's own answer says.
-/
import Derived.Test.YtfbgejgapdpjcaaDoorNumHead
namespace Go.Proofs.YtfbgejgapdpjcaaDoor
open Go.RowKit

set_option maxRecDepth 100000 in
set_option maxHeartbeats 1000000 in
theorem numOnes_walk (op which a : Int) (h0 : -9223372036854775808 ≤ op) (h1 : op ≤ 9223372036854775807) (h2 : 0 ≤ which) (h3 : which ≤ 255) (ha0 : 0 ≤ a) (ha1 : a ≤ 18446744073709551615) (w : World) (hLaid : Laid w) :
    Calls Tryd.prog 3 #[.int .i64 op, .int .u8 which, .int .u64 a] w fun e w' => e = .returned (.bool true) ∧ Below w.heap.size w w' := by
  have hB := Below.refl w.heap.size w
  have cp := pick_any op which h0 h1 h2 h3
  have c1 := fun n hn0 hn1 => num_one n a hn0 hn1 ha0 ha1
  have c2 := fun n => ref_one n a ha0
  go_enter Tryd.func3, Tryd.ntmps3
  go_wp2_with (first
    | (go_at_call 12; (with_reducible refine (head_num _ hLaid).mono ?_); rintro e w1 ⟨rfl, hb⟩; replace hB := bt hB hb; clear hb)
    | (go_at_call 13; (with_reducible refine (cp _).mono ?_); rintro e w1 ⟨n, hn0, hn1, rfl, rfl⟩)
    | (go_at_call 14; (with_reducible refine (c1 _ hn0 hn1 _ (hLaid.below hB)).mono ?_); rintro e w1 ⟨rfl, hb⟩; replace hB := bt hB hb; clear hb)
    | (go_at_call 15; (with_reducible refine (c2 _ _).mono ?_); rintro e w1 ⟨rfl, rfl⟩))
  go_ret
  exact ⟨by first | rfl | exact ret_true (by simp), hB⟩

set_option maxRecDepth 100000 in
set_option maxHeartbeats 1000000 in
theorem numTwos_walk (op which a b : Int) (h0 : -9223372036854775808 ≤ op) (h1 : op ≤ 9223372036854775807) (h2 : 0 ≤ which) (h3 : which ≤ 255) (ha0 : 0 ≤ a) (ha1 : a ≤ 18446744073709551615) (hb0 : 0 ≤ b) (hb1 : b ≤ 18446744073709551615) (w : World) (hLaid : Laid w) :
    Calls Tryd.prog 4 #[.int .i64 op, .int .u8 which, .int .u64 a, .int .u64 b] w fun e w' => e = .returned (.bool true) ∧ Below w.heap.size w w' := by
  have hB := Below.refl w.heap.size w
  have cp := pick_any op which h0 h1 h2 h3
  have c1 := fun n => num_two n a b ha0 ha1 hb0 hb1
  have c2 := fun n => ref_two n a b ha0 ha1 hb0 hb1
  go_enter Tryd.func4, Tryd.ntmps4
  go_wp2_with (first
    | (go_at_call 12; (with_reducible refine (head_num _ hLaid).mono ?_); rintro e w1 ⟨rfl, hb⟩; replace hB := bt hB hb; clear hb)
    | (go_at_call 13; (with_reducible refine (cp _).mono ?_); rintro e w1 ⟨n, hn0, hn1, rfl, rfl⟩)
    | (go_at_call 16; (with_reducible refine (c1 _ _).mono ?_); rintro e w1 ⟨rfl, hb⟩; replace hB := bt hB hb; clear hb)
    | (go_at_call 17; (with_reducible refine (c2 _ _).mono ?_); rintro e w1 ⟨rfl, rfl⟩))
  go_ret
  exact ⟨by first | rfl | exact ret_true (by simp), hB⟩
end Go.Proofs.YtfbgejgapdpjcaaDoor
