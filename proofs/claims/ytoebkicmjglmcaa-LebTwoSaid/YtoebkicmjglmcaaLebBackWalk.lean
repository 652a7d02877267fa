/-
  LebBack, walked: what was written is read as it was, with anything behind it, and anything ahead; cut it is refused.
-/
import Derived.Test.YtoebkicmjglmcaaLebAns
namespace Go.Proofs.Ytoebkicmjglmcaa.lebBack
open Go.RowKit

theorem list_mid (x y z : ByteArray) : (x ++ y ++ z).data.toList = x.data.toList ++ (y.data.toList ++ z.data.toList) := by
  simp [ByteArray.data_append]

theorem at_u {n : Int} (h0 : 0 ≤ n) (h1 : n ≤ 18446744073709551615) (x y z : ByteArray) (hy : y.data.toList = putU n) : ans .u64 usg 10 (x ++ y ++ z).data.toList x.size = (n, (x.size : Int) + y.size, 0) := by
  have hl : (putU n).length = y.size := by rw [← hy]; simp
  have h := ans_some (K := .u64) (p := usg) (most := 10) x.data.toList _ (dec_putU z.data.toList n h0) (putU_len10 h0 h1) (by simpa [IntKind.min, IntKind.signed] using h0) (by simpa [IntKind.max, IntKind.signed, IntKind.bits] using h1)
  rw [list_mid, hy]
  rw [hl] at h
  simpa using h
theorem at_s {n : Int} (h0 : -9223372036854775808 ≤ n) (h1 : n ≤ 9223372036854775807) (x y z : ByteArray) (hy : y.data.toList = putS n) : ans .i64 sgn 10 (x ++ y ++ z).data.toList x.size = (n, (x.size : Int) + y.size, 0) := by
  have hl : (putS n).length = y.size := by rw [← hy]; simp
  have h := ans_some (K := .i64) (p := sgn) (most := 10) x.data.toList _ (dec_putS z.data.toList n) (putS_len10 h0 h1) (by simpa [IntKind.min, IntKind.signed, IntKind.bits] using h0) (by simpa [IntKind.max, IntKind.signed, IntKind.bits] using h1)
  rw [list_mid, hy]
  rw [hl] at h
  simpa using h

theorem list_cut (y : ByteArray) : (y.extract 0 (y.size - 1)).data.toList = y.data.toList.dropLast := by
  simp [ByteArray.data_extract, List.dropLast_eq_take]
theorem cut_u {n : Int} (h0 : 0 ≤ n) (y : ByteArray) (hy : y.data.toList = putU n) : ans .u64 usg 10 (y.extract 0 (y.size - 1)).data.toList 0 = (0, 0, 2) := by
  have h := ans_open (K := .u64) (p := usg) (most := 10) [] _ (dec_open usg _ (putU_cut n h0))
  rw [list_cut, hy]
  simpa using h
theorem cut_s {n : Int} (y : ByteArray) (hy : y.data.toList = putS n) : ans .i64 sgn 10 (y.extract 0 (y.size - 1)).data.toList 0 = (0, 0, 2) := by
  have h := ans_open (K := .i64) (p := sgn) (most := 10) [] _ (dec_open sgn _ (putS_cut n))
  rw [list_cut, hy]
  simpa using h
theorem size_u {n : Int} (h0 : 0 ≤ n) (h1 : n ≤ 18446744073709551615) (y : ByteArray) (hy : y.data.toList = putU n) : 1 ≤ y.size ∧ y.size ≤ 10 := by
  have hl : (putU n).length = y.size := by rw [← hy]; simp
  have := putU_len10 h0 h1
  have : 0 < (putU n).length := List.length_pos_iff.2 (putU_ne n)
  omega
theorem size_s {n : Int} (h0 : -9223372036854775808 ≤ n) (h1 : n ≤ 9223372036854775807) (y : ByteArray) (hy : y.data.toList = putS n) : 1 ≤ y.size ∧ y.size ≤ 10 := by
  have hl : (putS n).length = y.size := by rw [← hy]; simp
  have := putS_len10 h0 h1
  have : 0 < (putS n).length := List.length_pos_iff.2 (putS_ne n)
  omega
end Go.Proofs.Ytoebkicmjglmcaa.lebBack
namespace Go.Proofs.Ytoebkicmjglmcaa
open Go.RowKit lebBack

set_option maxRecDepth 100000 in
set_option maxHeartbeats 2000000 in
theorem lebBack_walk (n m : Int) (x z : ByteArray) (hn0 : 0 ≤ n) (hn1 : n ≤ 18446744073709551615) (hm0 : -9223372036854775808 ≤ m) (hm1 : m ≤ 9223372036854775807) (hx : x.size ≤ 140737488351232) (hz : z.size ≤ 140737488351232) (w : World) :
    Calls Try.prog 5 #[.int .u64 n, .int .i64 m, .string x, .string z] w fun e w' => e = .returned (.bool true) ∧ Below w.heap.size w w' := by
  have p1 := put_u n hn0 hn1
  have p2 := put_s m hm0 hm1
  obtain ⟨S, hS⟩ : ∃ S, S = ByteArray.mk (putU n).toArray := ⟨_, rfl⟩
  obtain ⟨T, hT⟩ : ∃ T, T = ByteArray.mk (putS m).toArray := ⟨_, rfl⟩
  rw [← hS] at p1
  rw [← hT] at p2
  have eS : S.data.toList = putU n := by rw [hS]
  have eT : T.data.toList = putS m := by rw [hT]
  have lS := size_u hn0 hn1 S eS
  have lT := size_s hm0 hm1 T eT
  have c1 := U64_is (x ++ S ++ z) x.size (at_u hn0 hn1 x S z eS) (by unfold maxLen; simp [ByteArray.size_append]; omega)
  have c2 := S64_is (x ++ T ++ z) x.size (at_s hm0 hm1 x T z eT) (by unfold maxLen; simp [ByteArray.size_append]; omega)
  have c3 := U64_is (S.extract 0 (S.size - 1)) 0 (cut_u hn0 S eS) (by unfold maxLen; simp [ByteArray.size_extract]; omega)
  have c4 := S64_is (T.extract 0 (T.size - 1)) 0 (cut_s T eT) (by unfold maxLen; simp [ByteArray.size_extract]; omega)
  have q1 : ((S.size : Int) == 0) = false := beq_eq_false_iff_ne.2 (by omega)
  have q2 : ((T.size : Int) == 0) = false := beq_eq_false_iff_ne.2 (by omega)
  clear hS hT eS eT
  go_enter Try.func5, Try.ntmps5
  go_wp2_with (first
        | (go_at_call 11; (with_reducible refine (head_true _).mono ?_); rintro e w0 ⟨rfl, hb0⟩)
        | (go_at_call 12; (with_reducible refine (p1 _).mono ?_); rintro e w1 ⟨rfl, hb1⟩)
        | (go_at_call 14; (with_reducible refine (p2 _).mono ?_); rintro e w2 ⟨rfl, hb2⟩)
        | (go_at_call 20; (with_reducible refine (c1 _).mono ?_); rintro e w' ⟨rfl, rfl⟩)
        | (go_at_call 22; (with_reducible refine (c2 _).mono ?_); rintro e w' ⟨rfl, rfl⟩)
        | (go_at_call 20; (with_reducible refine (c3 _).mono ?_); rintro e w' ⟨rfl, rfl⟩)
        | (go_at_call 22; (with_reducible refine (c4 _).mono ?_); rintro e w' ⟨rfl, rfl⟩))
  go_ret
  exact ⟨by first | rfl | exact ret_true (by simp; omega), hb0.trans ((hb1.trans (hb2.mono hb1.size)).mono hb0.size)⟩
end Go.Proofs.Ytoebkicmjglmcaa
