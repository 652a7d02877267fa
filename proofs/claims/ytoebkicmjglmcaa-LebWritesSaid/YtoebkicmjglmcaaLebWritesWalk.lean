/-
  LebWrites, walked: numbers are written as the document's own answer says.
-/
import Derived.Test.YtoebkicmjglmcaaLebHead
import Derived.Test.YtoebkicmjglmcaaLebAns
import Derived.Test.YtoebkicmjglmcaaLebRefPut
namespace Go.Proofs.Ytoebkicmjglmcaa
open Go.RowKit

set_option maxRecDepth 100000 in
set_option maxHeartbeats 2000000 in
theorem lebWrites_walk (n m : Int) (hn0 : 0 ≤ n) (hn1 : n ≤ 18446744073709551615) (hm0 : -9223372036854775808 ≤ m) (hm1 : m ≤ 9223372036854775807) (w : World) :
    Calls Try.prog 3 #[.int .u64 n, .int .i64 m] w fun e w' => e = .returned (.bool true) ∧ Below w.heap.size w w' := by
  have p1 := put_u n hn0 hn1
  have p2 := put_s m hm0 hm1
  have q1 := ref_put_u n hn0 hn1
  have q2 := ref_put_s m hm0 hm1
  obtain ⟨S, hS⟩ : ∃ S, S = ByteArray.mk (putU n).toArray := ⟨_, rfl⟩
  obtain ⟨T, hT⟩ : ∃ T, T = ByteArray.mk (putS m).toArray := ⟨_, rfl⟩
  rw [← hS] at p1 q1
  rw [← hT] at p2 q2
  clear hS hT
  go_enter Try.func3, Try.ntmps3
  go_wp2_with (first
        | (go_at_call 11; (with_reducible refine (head_true _).mono ?_); rintro e w0 ⟨rfl, hb0⟩)
        | (go_at_call 12; (with_reducible refine (p1 _).mono ?_); rintro e w1 ⟨rfl, hb1⟩)
        | (go_at_call 13; (with_reducible refine (q1 _).mono ?_); rintro e w2 ⟨rfl, hb2⟩)
        | (go_at_call 14; (with_reducible refine (p2 _).mono ?_); rintro e w3 ⟨rfl, hb3⟩)
        | (go_at_call 15; (with_reducible refine (q2 _).mono ?_); rintro e w4 ⟨rfl, hb4⟩))
  go_ret
  exact ⟨by first | rfl | exact ret_true (by simp), hb0.trans ((hb1.trans ((hb2.trans ((hb3.trans (hb4.mono hb3.size)).mono hb2.size)).mono hb1.size)).mono hb0.size)⟩
end Go.Proofs.Ytoebkicmjglmcaa
