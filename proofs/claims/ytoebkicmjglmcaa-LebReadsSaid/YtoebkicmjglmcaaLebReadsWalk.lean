/-
  LebReads, walked: any bytes, from any place on, are read as the document's own answer says, in all four ways.
-/
import Derived.Test.YtoebkicmjglmcaaLebRefGet
namespace Go.Proofs.Ytoebkicmjglmcaa
open Go.RowKit

set_option maxRecDepth 100000 in
set_option maxHeartbeats 4000000 in
theorem lebReads_walk (s : ByteArray) (a : Int) (hs : s.size ≤ maxLen) (_ : -9223372036854775808 ≤ a) (_ : a ≤ 9223372036854775807) (w : World) :
    Calls Try.prog 4 #[.string s, .int .i64 a] w fun e w' => e = .returned (.bool true) ∧ Below w.heap.size w w' := by
  obtain ⟨x1, y1, z1, h1⟩ : ∃ x y z, ans .u32 usg 5 s.data.toList a = (x, y, z) := ⟨_, _, _, rfl⟩
  obtain ⟨x2, y2, z2, h2⟩ : ∃ x y z, ans .i32 sgn 5 s.data.toList a = (x, y, z) := ⟨_, _, _, rfl⟩
  obtain ⟨x3, y3, z3, h3⟩ : ∃ x y z, ans .u64 usg 10 s.data.toList a = (x, y, z) := ⟨_, _, _, rfl⟩
  obtain ⟨x4, y4, z4, h4⟩ : ∃ x y z, ans .i64 sgn 10 s.data.toList a = (x, y, z) := ⟨_, _, _, rfl⟩
  have c1 := U32_is s a h1 hs
  have c2 := S32_is s a h2 hs
  have c3 := U64_is s a h3 hs
  have c4 := S64_is s a h4 hs
  have d1 := ref_get_u32 s a h1 hs
  have d2 := ref_get_i32 s a h2 hs
  have d3 := ref_get_u64 s a h3 hs
  have d4 := ref_get_i64 s a h4 hs
  clear h1 h2 h3 h4
  go_enter Try.func4, Try.ntmps4
  go_wp2_with (first
    | (go_at_call 11; (with_reducible refine (head_true _).mono ?_); rintro e w0 ⟨rfl, hb0⟩)
    | (go_at_call 16; (with_reducible refine (c1 _).mono ?_); rintro e w' ⟨rfl, rfl⟩)
    | (go_at_call 18; (with_reducible refine (c2 _).mono ?_); rintro e w' ⟨rfl, rfl⟩)
    | (go_at_call 20; (with_reducible refine (c3 _).mono ?_); rintro e w' ⟨rfl, rfl⟩)
    | (go_at_call 22; (with_reducible refine (c4 _).mono ?_); rintro e w' ⟨rfl, rfl⟩)
    | (go_at_call 17; (with_reducible refine (d1 _).mono ?_); rintro e w' ⟨rfl, rfl⟩)
    | (go_at_call 19; (with_reducible refine (d2 _).mono ?_); rintro e w' ⟨rfl, rfl⟩)
    | (go_at_call 21; (with_reducible refine (d3 _).mono ?_); rintro e w' ⟨rfl, rfl⟩)
    | (go_at_call 23; (with_reducible refine (d4 _).mono ?_); rintro e w' ⟨rfl, rfl⟩))
  go_ret
  exact ⟨by first | rfl | exact ret_true (by simp), hb0⟩
end Go.Proofs.Ytoebkicmjglmcaa
