/-
  NumBits, walked: how many bits are 0 in front, and behind, and how many are 1, go together.
-/
import Derived.Test.YtfbgejgapdpjcaaDoorNumHead
import Derived.Test.YtfbgejgapdpjcaaDoorNumPlain
namespace Go.Proofs.YtfbgejgapdpjcaaDoor
open Go.RowKit

theorem u64_not (a : Int) (h0 : 0 ≤ a) (h1 : a ≤ 18446744073709551615) : bits BinOp.xor IntKind.u64 IntKind.u64.max a = 18446744073709551615 - a := by
  obtain ⟨n, rfl⟩ := Int.eq_ofNat_of_zero_le h0
  have en : n % 2 ^ 64 = n := Nat.mod_eq_of_lt (by omega)
  have ho : BitVec.ofInt 64 IntKind.u64.max = BitVec.allOnes 64 := by decide
  show IntKind.u64.wrap ((BitVec.ofInt 64 IntKind.u64.max ^^^ BitVec.ofInt 64 (n : Int)).toNat : Nat) = _
  rw [ho, BitVec.ofInt_natCast, BitVec.allOnes_xor, BitVec.toNat_not, BitVec.toNat_ofNat, en, IntKind.wrap_u64]
  omega

set_option maxRecDepth 100000 in
set_option maxHeartbeats 4000000 in
theorem numBits_walk (a : Int) (ha0 : 0 ≤ a) (ha1 : a ≤ 18446744073709551615) (w : World) (hLaid : Laid w) :
    Calls Tryd.prog 8 #[.int .u64 a] w fun e w' => e = .returned (.bool true) ∧ Below w.heap.size w w' := by
  have hB := Below.refl w.heap.size w
  have hc := counts ha0 ha1
  have hf := pc_flip (a := a) 64 (by omega)
  have hl := lzr_le 64 a
  have ht := tzr_le 64 0 a
  have hp := pcr_le 64 a
  have hq := pcr_le 64 (18446744073709551615 - a)
  have c1 := fun w hL => one_is 121 a (x := (lzr 64 a : Nat)) (y := 0) rfl ⟨ha0, ha1⟩ w hL
  have c2 := fun w hL => one_is 122 a (x := (tzr 64 0 a : Nat)) (y := 0) rfl ⟨ha0, ha1⟩ w hL
  have c3 := fun w hL => one_is 123 a (x := (pcr 64 a : Nat)) (y := 0) rfl ⟨ha0, ha1⟩ w hL
  have c4 := fun w hL => one_is 123 (18446744073709551615 - a) (x := (pcr 64 (18446744073709551615 - a) : Nat)) (y := 0) rfl (by omega) w hL
  have c5 := fun w hL => one_is 167 a (x := a % 4294967296) (y := 0) rfl ⟨ha0, ha1⟩ w hL
  have c6 := fun w hL => one_is 172 a (x := sgnv 32 (a % 4294967296) % 18446744073709551616) (y := 0) rfl ⟨ha0, ha1⟩ w hL
  have c7 := fun w hL => one_is 173 a (x := a % 4294967296) (y := 0) rfl ⟨ha0, ha1⟩ w hL
  have c8 := fun w hL => one_is 80 a (x := truth (decide (a = 0))) (y := 0) rfl ⟨ha0, ha1⟩ w hL
  have hs : wrap64 (sgnv 32 (a % 4294967296) % 18446744073709551616) = wrap32 (a % 4294967296) := by unfold wrap64 wrap32 sgnv; split <;> omega
  generalize lzr 64 a = l at c1 hc hl
  generalize tzr 64 0 a = t at c2 hc ht
  generalize pcr 64 a = p at c3 hc hf hp
  generalize pcr 64 (18446744073709551615 - a) = q at c4 hf hq
  generalize sgnv 32 (a % 4294967296) % 18446744073709551616 = sg at c6 hs
  have hnot := u64_not a ha0 ha1
  generalize 18446744073709551615 - a = N at c4 hnot
  have hf1 : p + q ≤ 64 := by omega
  have hf2 : 64 ≤ p + q := by omega
  clear hf
  by_cases hz : a = 0
  · subst hz
    obtain ⟨rfl, rfl, rfl⟩ := hc.1 rfl
    clear hc
    rw [show truth (decide ((0 : Int) = 0)) = 1 from rfl] at c8
    have h00 : wrap32 0 = 0 := by unfold wrap32; decide
    go_enter Tryd.func8, Tryd.ntmps8
    go_wp2_with (first
      | (go_at_call 12; (with_reducible refine (head_num _ hLaid).mono ?_); rintro e w1 ⟨rfl, hb⟩; replace hB := bt hB hb; clear hb)
      | (go_at_call 14; (with_reducible refine (c1 _ (hLaid.below hB)).mono ?_); rintro e w1 ⟨rfl, hb⟩; replace hB := bt hB hb; clear hb)
      | (go_at_call 14; (with_reducible refine (c2 _ (hLaid.below hB)).mono ?_); rintro e w1 ⟨rfl, hb⟩; replace hB := bt hB hb; clear hb)
      | (go_at_call 14; (with_reducible refine (c3 _ (hLaid.below hB)).mono ?_); rintro e w1 ⟨rfl, hb⟩; replace hB := bt hB hb; clear hb)
      | (go_at_call 14; (with_reducible refine (c4 _ (hLaid.below hB)).mono ?_); rintro e w1 ⟨rfl, hb⟩; replace hB := bt hB hb; clear hb)
      | (go_at_call 14; (with_reducible refine (c5 _ (hLaid.below hB)).mono ?_); rintro e w1 ⟨rfl, hb⟩; replace hB := bt hB hb; clear hb)
      | (go_at_call 14; (with_reducible refine (c6 _ (hLaid.below hB)).mono ?_); rintro e w1 ⟨rfl, hb⟩; replace hB := bt hB hb; clear hb)
      | (go_at_call 14; (with_reducible refine (c7 _ (hLaid.below hB)).mono ?_); rintro e w1 ⟨rfl, hb⟩; replace hB := bt hB hb; clear hb)
      | (go_at_call 14; (with_reducible refine (c8 _ (hLaid.below hB)).mono ?_); rintro e w1 ⟨rfl, hb⟩; replace hB := bt hB hb; clear hb))
    go_ret
    exact ⟨by first | rfl | exact ret_true (by simp; omega), hB⟩
  · obtain ⟨h3, h4, h5⟩ := hc.2 hz
    obtain ⟨L, hL⟩ : ∃ L : Int, (l : Int) = L := ⟨_, rfl⟩
    obtain ⟨T, hT⟩ : ∃ T : Int, (t : Int) = T := ⟨_, rfl⟩
    obtain ⟨P, hP⟩ : ∃ P : Int, (p : Int) = P := ⟨_, rfl⟩
    obtain ⟨Q, hQ⟩ : ∃ Q : Int, (q : Int) = Q := ⟨_, rfl⟩
    have k1 : 0 ≤ L ∧ 0 ≤ T ∧ L + T < 64 := by omega
    have k2 : 1 ≤ P ∧ P ≤ 64 - L - T := by omega
    have k3 : 0 ≤ Q ∧ P + Q ≤ 64 ∧ 64 ≤ P + Q := by omega
    simp only [hL] at c1
    simp only [hT] at c2
    simp only [hP] at c3
    simp only [hQ] at c4
    clear hc h3 h4 h5 hL hT hP hQ hf1 hf2 hl ht hp hq
    rw [show truth (decide (a = 0)) = 0 by simp [truth, hz]] at c8
    have hzb : (a == 0) = false := by simp [hz]
    have hzn : (a != 0) = true := by simp [hz]
    have hpos : 0 < a := by omega
    obtain ⟨v, hv⟩ : ∃ v, wrap32 (a % 4294967296) = v := ⟨_, rfl⟩
    have hvb : -2147483648 ≤ v ∧ v ≤ 2147483647 := by rw [← hv]; unfold wrap32; omega
    rw [hv] at hs
    go_enter Tryd.func8, Tryd.ntmps8
    go_wp2_with (first
      | (go_at_call 12; (with_reducible refine (head_num _ hLaid).mono ?_); rintro e w1 ⟨rfl, hb⟩; replace hB := bt hB hb; clear hb)
      | (go_at_call 14; (with_reducible refine (c1 _ (hLaid.below hB)).mono ?_); rintro e w1 ⟨rfl, hb⟩; replace hB := bt hB hb; clear hb)
      | (go_at_call 14; (with_reducible refine (c2 _ (hLaid.below hB)).mono ?_); rintro e w1 ⟨rfl, hb⟩; replace hB := bt hB hb; clear hb)
      | (go_at_call 14; (with_reducible refine (c3 _ (hLaid.below hB)).mono ?_); rintro e w1 ⟨rfl, hb⟩; replace hB := bt hB hb; clear hb)
      | (go_at_call 14; (with_reducible refine (c4 _ (hLaid.below hB)).mono ?_); rintro e w1 ⟨rfl, hb⟩; replace hB := bt hB hb; clear hb)
      | (go_at_call 14; (with_reducible refine (c5 _ (hLaid.below hB)).mono ?_); rintro e w1 ⟨rfl, hb⟩; replace hB := bt hB hb; clear hb)
      | (go_at_call 14; (with_reducible refine (c6 _ (hLaid.below hB)).mono ?_); rintro e w1 ⟨rfl, hb⟩; replace hB := bt hB hb; clear hb)
      | (go_at_call 14; (with_reducible refine (c7 _ (hLaid.below hB)).mono ?_); rintro e w1 ⟨rfl, hb⟩; replace hB := bt hB hb; clear hb)
      | (go_at_call 14; (with_reducible refine (c8 _ (hLaid.below hB)).mono ?_); rintro e w1 ⟨rfl, hb⟩; replace hB := bt hB hb; clear hb))
    go_ret
    exact ⟨by first | rfl | exact ret_true (by simp; omega), hB⟩
end Go.Proofs.YtfbgejgapdpjcaaDoor
