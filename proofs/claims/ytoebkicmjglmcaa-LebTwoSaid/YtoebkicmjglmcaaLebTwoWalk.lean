/-
  LebTwo, walked: four numbers that were written one behind the other are read one behind the other.
-/
import Derived.Test.YtoebkicmjglmcaaLebBackWalk
namespace Go.Proofs.Ytoebkicmjglmcaa.lebTwo
open Go.RowKit lebBack

theorem list_four (x y z t : ByteArray) : (x ++ y ++ z ++ t).data.toList = x.data.toList ++ (y.data.toList ++ (z.data.toList ++ t.data.toList)) := by
  simp [ByteArray.data_append]
theorem first {a : Int} (h0 : 0 ≤ a) (h1 : a ≤ 4294967295) (x y z t : ByteArray) (hx : x.data.toList = putU a) : ans .u32 usg 5 (x ++ y ++ z ++ t).data.toList 0 = (a, (x.size : Int), 0) := by
  have hl : (putU a).length = x.size := by rw [← hx]; simp
  have h := ans_some (K := .u32) (p := usg) (most := 5) [] _ (dec_putU (y.data.toList ++ (z.data.toList ++ t.data.toList)) a h0) ((putU_len a h0 4).2 (by omega)) (by simpa [IntKind.min, IntKind.signed] using h0) (by simpa [IntKind.max, IntKind.signed, IntKind.bits] using h1)
  rw [list_four, hx]
  rw [hl] at h
  simpa using h
theorem second {b : Int} (h0 : -2147483648 ≤ b) (h1 : b ≤ 2147483647) (x y z t : ByteArray) (hy : y.data.toList = putS b) : ans .i32 sgn 5 (x ++ y ++ z ++ t).data.toList x.size = (b, (x.size : Int) + y.size, 0) := by
  have hl : (putS b).length = y.size := by rw [← hy]; simp
  have h := ans_some (K := .i32) (p := sgn) (most := 5) x.data.toList _ (dec_putS (z.data.toList ++ t.data.toList) b) ((putS_len b 4).2 (by omega)) (by simpa [IntKind.min, IntKind.signed, IntKind.bits] using h0) (by simpa [IntKind.max, IntKind.signed, IntKind.bits] using h1)
  rw [list_four, hy]
  rw [hl] at h
  simpa using h
theorem third {c : Int} (h0 : 0 ≤ c) (h1 : c ≤ 18446744073709551615) (x y z t : ByteArray) (hz : z.data.toList = putU c) : ans .u64 usg 10 (x ++ y ++ z ++ t).data.toList ((x.size : Int) + y.size) = (c, (x.size : Int) + y.size + z.size, 0) := by
  have hl : (putU c).length = z.size := by rw [← hz]; simp
  have h := ans_some (K := .u64) (p := usg) (most := 10) (x.data.toList ++ y.data.toList) _ (dec_putU t.data.toList c h0) (putU_len10 h0 h1) (by simpa [IntKind.min, IntKind.signed] using h0) (by simpa [IntKind.max, IntKind.signed, IntKind.bits] using h1)
  rw [list_four, hz]
  rw [hl] at h
  simpa using h
theorem fourth {d : Int} (h0 : -9223372036854775808 ≤ d) (h1 : d ≤ 9223372036854775807) (x y z t : ByteArray) (ht : t.data.toList = putS d) : ans .i64 sgn 10 (x ++ y ++ z ++ t).data.toList ((x.size : Int) + y.size + z.size) = (d, (x.size : Int) + y.size + z.size + t.size, 0) := by
  have hl : (putS d).length = t.size := by rw [← ht]; simp
  have h := ans_some (K := .i64) (p := sgn) (most := 10) (x.data.toList ++ y.data.toList ++ z.data.toList) _ (dec_putS [] d) (putS_len10 h0 h1) (by simpa [IntKind.min, IntKind.signed, IntKind.bits] using h0) (by simpa [IntKind.max, IntKind.signed, IntKind.bits] using h1)
  rw [list_four, ht]
  rw [hl] at h
  simpa [Int.add_assoc] using h
end Go.Proofs.Ytoebkicmjglmcaa.lebTwo
namespace Go.Proofs.Ytoebkicmjglmcaa
open Go.RowKit lebBack lebTwo

set_option maxRecDepth 100000 in
set_option maxHeartbeats 2000000 in
theorem lebTwo_walk (a b c d : Int) (ha0 : 0 ≤ a) (ha1 : a ≤ 4294967295) (hb0 : -2147483648 ≤ b) (hb1 : b ≤ 2147483647) (hc0 : 0 ≤ c) (hc1 : c ≤ 18446744073709551615) (hd0 : -9223372036854775808 ≤ d) (hd1 : d ≤ 9223372036854775807) (w : World) :
    Calls Try.prog 10 #[.int .u32 a, .int .i32 b, .int .u64 c, .int .i64 d] w fun e w' => e = .returned (.bool true) ∧ Below w.heap.size w w' := by
  have p1 := put_u a ha0 (by omega)
  have p2 := put_s b (by omega) (by omega)
  have p3 := put_u c hc0 hc1
  have p4 := put_s d hd0 hd1
  obtain ⟨A, hA⟩ : ∃ S, S = ByteArray.mk (putU a).toArray := ⟨_, rfl⟩
  obtain ⟨B, hB⟩ : ∃ S, S = ByteArray.mk (putS b).toArray := ⟨_, rfl⟩
  obtain ⟨C, hC⟩ : ∃ S, S = ByteArray.mk (putU c).toArray := ⟨_, rfl⟩
  obtain ⟨D, hD⟩ : ∃ S, S = ByteArray.mk (putS d).toArray := ⟨_, rfl⟩
  rw [← hA] at p1
  rw [← hB] at p2
  rw [← hC] at p3
  rw [← hD] at p4
  have eA : A.data.toList = putU a := by rw [hA]
  have eB : B.data.toList = putS b := by rw [hB]
  have eC : C.data.toList = putU c := by rw [hC]
  have eD : D.data.toList = putS d := by rw [hD]
  have lA := size_u ha0 (by omega) A eA
  have lB := size_s (by omega) (by omega) B eB
  have lC := size_u hc0 hc1 C eC
  have lD := size_s hd0 hd1 D eD
  have hsz : (A ++ B ++ C ++ D).size ≤ maxLen := by unfold maxLen; simp [ByteArray.size_append]; omega
  have c1 := U32_is (A ++ B ++ C ++ D) 0 (first ha0 ha1 A B C D eA) hsz
  have c2 := S32_is (A ++ B ++ C ++ D) A.size (second hb0 hb1 A B C D eB) hsz
  have c3 := U64_is (A ++ B ++ C ++ D) ((A.size : Int) + B.size) (third hc0 hc1 A B C D eC) hsz
  have c4 := S64_is (A ++ B ++ C ++ D) ((A.size : Int) + B.size + C.size) (fourth hd0 hd1 A B C D eD) hsz
  clear hA hB hC hD eA eB eC eD hsz
  go_enter Try.func10, Try.ntmps10
  go_wp2_with (first
        | (go_at_call 11; (with_reducible refine (head_true _).mono ?_); rintro e w0 ⟨rfl, hb0⟩)
        | (go_at_call 12; (with_reducible refine (p1 _).mono ?_); rintro e w1 ⟨rfl, hb1⟩)
        | (go_at_call 14; (with_reducible refine (p2 _).mono ?_); rintro e w2 ⟨rfl, hb2⟩)
        | (go_at_call 12; (with_reducible refine (p3 _).mono ?_); rintro e w3 ⟨rfl, hb3⟩)
        | (go_at_call 14; (with_reducible refine (p4 _).mono ?_); rintro e w4 ⟨rfl, hb4⟩)
        | (go_at_call 16; (with_reducible refine (c1 _).mono ?_); rintro e w' ⟨rfl, rfl⟩)
        | (go_at_call 18; (with_reducible refine (c2 _).mono ?_); rintro e w' ⟨rfl, rfl⟩)
        | (go_at_call 20; (with_reducible refine (c3 _).mono ?_); rintro e w' ⟨rfl, rfl⟩)
        | (go_at_call 22; (with_reducible refine (c4 _).mono ?_); rintro e w' ⟨rfl, rfl⟩))
  go_ret
  exact ⟨by first | rfl | exact ret_true (by simp; omega), hb0.trans ((hb1.trans ((hb2.trans ((hb3.trans (hb4.mono hb3.size)).mono hb2.size)).mono hb1.size)).mono hb0.size)⟩
end Go.Proofs.Ytoebkicmjglmcaa
