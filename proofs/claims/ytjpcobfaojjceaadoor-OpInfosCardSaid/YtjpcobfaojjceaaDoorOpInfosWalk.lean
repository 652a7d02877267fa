/-
  OpInfos, walked: any code is that of the instruction that the document's own answer says, any text its name.
-/
import Derived.Test.YtjpcobfaojjceaaDoorOpHead
namespace Go.Proofs.YtjpcobfaojjceaaDoor
open Go.RowKit

theorem infoVal_parts (R : Option Rw) : ∃ n s p r, infoVal R = .agg #[.string n, .int .i64 s, .string p, .string r] := by
  cases R
  · exact ⟨_, _, _, _, rfl⟩
  · exact ⟨_, _, _, _, rfl⟩

set_option maxRecDepth 100000 in
set_option maxHeartbeats 4000000 in
theorem opInfos_walk (code : Int) (name : ByteArray) (h0 : -9223372036854775808 ≤ code) (h1 : code ≤ 9223372036854775807) (hn : name.size ≤ maxLen) (w : World) (hLaid : Laid w) :
    Calls Tryd.prog 3 #[.int .i64 code, .string name] w fun e w' => e = .returned (.bool true) ∧ Below w.heap.size w w' := by
  have c1 := op_of code h0 h1
  have c2 := ref_of code
  have c3 := op_code name hn
  have c4 := ref_code name
  have c5 := fun w (_ : Laid w) => op_float code h0 h1 w
  have c6 := ref_float code
  obtain ⟨n, s, p, r, hI⟩ := infoVal_parts (byCode code)
  rw [hI] at c1 c2
  clear hI
  generalize (byCode code).isSome = ok at c1 c2
  generalize codeOf (byName name) = cd at c3 c4
  generalize (byName name).isSome = is at c3 c4
  generalize isFloat code = fl at c5 c6
  have hB := Below.refl w.heap.size w
  go_enter Tryd.func3, Tryd.ntmps3
  go_wp2_with (first
    | (go_at_call 8; (with_reducible refine (head_op _ hLaid).mono ?_); rintro e w0 ⟨rfl, hb⟩; replace hB := bt hB hb; clear hb)
    | (go_at_call 9; (with_reducible refine (c1 _ ?_).mono ?_); (first | (with_reducible exact hLaid.below hB) | (with_reducible exact (hLaid.below hB).alloc _) | (with_reducible exact ((hLaid.below hB).alloc _).alloc _)); rintro e w1 ⟨rfl, hb⟩; replace hB := bt hB hb; clear hb)
    | (go_at_call 10; (with_reducible refine (c2 _).mono ?_); rintro e w2 ⟨rfl, hb⟩; have hI := (At4.new _ _ _ _ _ _).below hb; replace hB := bta hB hb; clear hb)
    | (go_at_call 11; (with_reducible refine (c3 _ ?_).mono ?_); (first | (with_reducible exact hLaid.below hB) | (with_reducible exact (hLaid.below hB).alloc _) | (with_reducible exact ((hLaid.below hB).alloc _).alloc _)); rintro e w3 ⟨rfl, hb⟩; have hJ := (At4.new _ _ _ _ _ _).below hb; replace hI := (hI.alloc _).below hb; replace hB := bta hB hb; clear hb)
    | (go_at_call 12; (with_reducible refine (c4 _).mono ?_); rintro e w4 ⟨rfl, hb⟩; have ⟨_, r0, r1, r2, r3⟩ := hI.below hb; have ⟨_, q0, q1, q2, q3⟩ := hJ.below hb; replace hB := bt hB hb; clear hb hI hJ)
    | (go_at_call 13; (with_reducible refine (c5 _ ?_).mono ?_); (first | (with_reducible exact hLaid.below hB) | (with_reducible exact (hLaid.below hB).alloc _) | (with_reducible exact ((hLaid.below hB).alloc _).alloc _)); rintro e w5 ⟨rfl, hb⟩; replace hB := bt hB hb; clear hb)
    | (go_at_call 14; (with_reducible refine (c6 _).mono ?_); rintro e w6 ⟨rfl, rfl⟩))
  go_ret
  exact ⟨by first | rfl | exact ret_true (by simp), hB⟩
end Go.Proofs.YtjpcobfaojjceaaDoor
