/-
  A number's decimal digits, by the document's own answer (chapter 4): walked. A contract that the proofs call; no statement is proved here.
-/
import Derived.Test.YtnonedmkdcbmfaaGreatDoorRows
import Derived.WalkKit
import Derived.WalkSpells
import Derived.Lib.Hide
import Derived.Below
import Derived.Laws.IdiomStrings
import Derived.Lib.ItoaNum
namespace Go.Proofs.YtnonedmkdcbmfaaGreatDoor
open Go.RowKit

def dig (n : Nat) : UInt8 := UInt8.ofNat (48 + n % 10)
/-- The digits ahead of the last one. -/
def up (n : Nat) : List UInt8 := if n < 10 then [] else Lib.decDigits (n / 10)
theorem dig_nat (n : Nat) : ((dig n).toNat : Int) = 48 + (n : Int) % 10 := by
  unfold dig
  rw [UInt8.toNat_ofNat']
  omega
theorem dec_up (n : Nat) : Lib.decDigits n = up n ++ [dig n] := by
  rw [Lib.decDigits]
  unfold up dig
  split
  · rename_i h; rw [Nat.mod_eq_of_lt h]; rfl
  · rfl
theorem dec_len : ∀ (f n : Nat), n < 10 ^ (f + 1) → (Lib.decDigits n).length ≤ f + 1
  | f, n, h => by
    rw [dec_up]
    unfold up
    split
    · simp
    · cases f with
      | zero => omega
      | succ f =>
        have := dec_len f (n / 10) (by rw [Nat.pow_succ] at h; omega)
        simp; omega

theorem one_byte (w : World) (d : UInt8) (x : Int) (hx : x = (d.toNat : Int)) : (convert 54 9 (.slice (some ⟨w.heap.size, 0, none⟩) 1 1)).run Tryz.prog (w.alloc (.cells #[.int .u8 x] 5)) = .ok (.string ⟨#[d]⟩) (w.alloc (.cells #[.int .u8 x] 5)) := by
  refine run_convert_bytes_back _ 54 9 5 ⟨w.heap.size, 0, none⟩ 1 [d] Tryz.underlying54 Tryz.underlying5 Tryz.underlying9 fun j hj => ?_
  have : j = 0 := by simp at hj; omega
  subst this
  rw [show (⟨w.heap.size, 0, none⟩ : Addr).add 0 = ⟨w.heap.size, 0, none⟩ from rfl, World.cell?_alloc_new, hx]
  rfl

set_option maxRecDepth 100000 in
set_option maxHeartbeats 2000000 in
theorem ref_digits (n : Nat) (hn : n ≤ 18446744073709551615) (w : World) :
    Calls Tryz.prog 107 #[.int .u64 n] w fun e w' => e = .returned (.string ⟨(Lib.decDigits n).toArray⟩) ∧ Below w.heap.size w w' := by
  obtain ⟨R, hR⟩ : ∃ R, R = Lib.decDigits n := ⟨_, rfl⟩
  rw [← hR]
  have HR : Hid (R = up n ++ [dig n]) := Lib.hid (hR.trans (dec_up n))
  have hl : R.length ≤ 20 := by rw [hR]; exact dec_len 19 n (by omega)
  clear hR
  have h0 : (48 + (n : Int) % 10) = ((dig n).toNat : Int) := (dig_nat n).symm
  have hv := one_byte w (dig n) _ rfl
  have hB := (Below.refl w.heap.size w).alloc (Nat.le_refl _) (.cells #[.int .u8 ((dig n).toNat : Int)] 5)
  have b1 : 0 ≤ (n : Int) % 10 := by omega
  have b2 : (n : Int) % 10 < 10 := by omega
  have b3 : ((dig n).toNat : Int) < 256 := by have := UInt8.toNat_lt (dig n); omega
  go_enter Tryz.func107, Tryz.ntmps107
  go_wp2
  clear hv h0 b1 b2 b3
  go_loopw [0, 3] (fun i s wr => ∃ (m : Nat) (t : List UInt8), m ≤ 18446744073709551615 ∧ i = .int .u64 m ∧ s = .string ⟨t.toArray⟩ ∧ t.length ≤ 20 ∧ Hid (R = up m ++ t) ∧ Below w.heap.size w wr) (fun i _ _ => (intOf i).toNat)
  case atStart => exact ⟨n, [dig n], by omega, rfl, rfl, by simp, HR, hB⟩
  case round =>
    clear HR hB
    obtain ⟨m, t, hm, rfl, rfl, ht, HM, hB⟩ := hrel
    by_cases hlt : 9 < m
    · have hlt' : (9 : Int) < m := by omega
      have hu : up m = up (m / 10) ++ [dig (m / 10)] := by unfold up; rw [if_neg (by omega)]; exact dec_up (m / 10)
      have hd := HM.out
      rw [hu, List.append_assoc, List.singleton_append] at hd
      have hl2 : (dig (m / 10) :: t).length ≤ 20 := by have := congrArg List.length hd; simp at this; simp; omega
      have HD := Lib.hid hd
      clear hd hu
      have h0 : (48 + ((m : Int) / 10) % 10) = ((dig (m / 10)).toNat : Int) := by rw [dig_nat]; omega
      have hv := one_byte wr (dig (m / 10)) _ rfl
      have hB1 := hB.alloc hB.size (.cells #[.int .u8 ((dig (m / 10)).toNat : Int)] 5)
      have b1 : 0 ≤ ((m : Int) / 10) % 10 := by omega
      have b2 : ((m : Int) / 10) % 10 < 10 := by omega
      have b3 : ((dig (m / 10)).toNat : Int) < 256 := by have := UInt8.toNat_lt (dig (m / 10)); omega
      have hsz : (⟨t.toArray⟩ : ByteArray).size ≤ 20 := by simpa [ByteArray.size] using ht
      go_wp2
      go_roundw
      case rel => exact ⟨m / 10, dig (m / 10) :: t, by omega, by congr 1, by congr 1, hl2, HD, hB1⟩
      case measure => simp [intOf]; omega
    · have hn9 : ¬ (9 : Int) < m := by omega
      have hu : up m = [] := by unfold up; rw [if_pos (by omega)]
      have HD := Lib.hid (show R = t by rw [HM.out, hu]; rfl)
      clear hu
      go_wp2
      go_ret
      exact ⟨by rw [HD.out]; rfl, hB⟩

theorem str_eq {l : List UInt8} {s : ByteArray} (h : s.data.toList = l) : s = ⟨l.toArray⟩ := by
  obtain ⟨⟨x⟩⟩ := s
  simp only at h
  rw [h]
theorem itoa_len (n : Int) (h0 : -9223372036854775808 ≤ n) (h1 : n ≤ 9223372036854775807) : (Lib.itoa n).length ≤ 21 := by
  unfold Lib.itoa
  split
  · have := dec_len 19 n.natAbs (by omega); simp; omega
  · have := dec_len 19 n.toNat (by omega); omega

set_option maxRecDepth 100000 in
set_option maxHeartbeats 2000000 in
/-- A number's text, with a sign, as the library's own writes it. -/
theorem ref_Digits (n : Int) (h0 : -9223372036854775808 ≤ n) (h1 : n ≤ 9223372036854775807) (w : World) :
    Calls Tryz.prog 52 #[.int .i64 n] w fun e w' => e = .returned (.string ⟨(Lib.itoa n).toArray⟩) ∧ Below w.heap.size w w' := by
  by_cases hn : n < 0
  · have e : Lib.itoa n = 45 :: Lib.decDigits n.natAbs := by unfold Lib.itoa; rw [if_pos hn]
    have hl := dec_len 19 n.natAbs (by omega)
    have c := ref_digits n.natAbs (by omega) w
    rw [e]
    have hk : ((n.natAbs : Nat) : Int) = -(n + 1) + 1 := by omega
    rw [hk] at c
    generalize Lib.decDigits n.natAbs = d at c hl ⊢
    have hsz : (⟨d.toArray⟩ : ByteArray).size ≤ 20 := by simpa [ByteArray.size] using hl
    go_enter Tryz.func52, Tryz.ntmps52
    go_wp2_with (go_at_call 107; (with_reducible refine c.mono ?_); rintro e w1 ⟨rfl, hb⟩)
    go_ret
    exact ⟨rfl, hb⟩
  · have e : Lib.itoa n = Lib.decDigits n.toNat := by unfold Lib.itoa; rw [if_neg hn]
    have c := ref_digits n.toNat (by omega) w
    rw [e]
    have hk : ((n.toNat : Nat) : Int) = n := by omega
    rw [hk] at c
    generalize Lib.decDigits n.toNat = d at c ⊢
    go_enter Tryz.func52, Tryz.ntmps52
    go_wp2_with (go_at_call 107; (with_reducible refine c.mono ?_); rintro e w1 ⟨rfl, hb⟩)
    go_ret
    exact ⟨rfl, hb⟩
end Go.Proofs.YtnonedmkdcbmfaaGreatDoor
