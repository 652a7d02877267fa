/-
  NumHalves, walked: operations of 32 bits take the lower halves alone, and answer a number of 32 bits.
-/
import Derived.Test.YtfbgejgapdpjcaaDoorNumHead
import Derived.Test.YtfbgejgapdpjcaaDoorNumPlain
namespace Go.Proofs.YtfbgejgapdpjcaaDoor
open Go.RowKit

set_option maxRecDepth 100000 in
set_option maxHeartbeats 4000000 in
theorem numHalves_walk (op a b : Int) (h0 : -9223372036854775808 ≤ op) (h1 : op ≤ 9223372036854775807) (ha0 : 0 ≤ a) (ha1 : a ≤ 18446744073709551615) (hb0 : 0 ≤ b) (hb1 : b ≤ 18446744073709551615) (w : World) (hLaid : Laid w) :
    Calls Tryd.prog 9 #[.int .i64 op, .int .u64 a, .int .u64 b] w fun e w' => e = .returned (.bool true) ∧ Below w.heap.size w w' := by
  have hB := Below.refl w.heap.size w
  have c1 := fun n => num_two n a b ha0 ha1 hb0 hb1
  have c2 : ∀ n : Int, (70 ≤ n ∧ n ≤ 79) ∨ (106 ≤ n ∧ n ≤ 120) → ∀ w, Calls Tryd.prog 16 #[.int .i64 n, .int .u64 (a % 4294967296), .int .u64 (b % 4294967296)] w fun e w' => e = .returned (.tuple #[.int .u64 (two n a b).1, .int .i64 (two n a b).2]) ∧ Below w.heap.size w w' := fun n hn w => by
    have c := num_two n (a % 4294967296) (b % 4294967296) (by omega) (by omega) (by omega) (by omega) w
    rwa [show two n (a % 4294967296) (b % 4294967296) = two n a b from two_halves hn] at c
  have HL : ∀ n : Int, (70 ≤ n ∧ n ≤ 79) ∨ (106 ≤ n ∧ n ≤ 120) → Hid ((two n a b).1 < 4294967296) := fun n hn => Lib.hid (two_32_bd hn).2
  by_cases hn : op < 0
  · obtain ⟨m, hm⟩ : ∃ m : Nat, op = -(m : Int) - 1 := ⟨(-op - 1).toNat, by omega⟩
    subst hm
    have e1 : -(-(m : Int) - 1 + 1) = m := by omega
    have e2 : -(m : Int) - 1 + 1 = -m := by omega
    rcases (show (m : Int) % 2 = 0 ∨ (m : Int) % 2 = 1 by omega) with h2 | h2
    · go_enter Tryd.func9, Tryd.ntmps9
      go_wp2_with (first
        | (go_at_call 12; (with_reducible refine (head_num _ hLaid).mono ?_); rintro e w1 ⟨rfl, hb⟩; replace hB := bt hB hb; clear hb)
        | (go_at_call 16; (with_reducible refine (c1 _ _).mono ?_); rintro e w1 ⟨rfl, hb⟩; replace hB := bt (hB.alloc hB.size _) hb; clear hb)
        | (go_at_call 16; (with_reducible refine (c2 _ (by omega) _).mono ?_); rintro e w1 ⟨rfl, hb⟩; replace hB := bt hB hb; clear hb))
      go_ret
      exact ⟨by first | rfl | exact ret_true (by simp; exact (HL _ (by omega)).out), hB⟩
    · go_enter Tryd.func9, Tryd.ntmps9
      go_wp2_with (first
        | (go_at_call 12; (with_reducible refine (head_num _ hLaid).mono ?_); rintro e w1 ⟨rfl, hb⟩; replace hB := bt hB hb; clear hb)
        | (go_at_call 16; (with_reducible refine (c1 _ _).mono ?_); rintro e w1 ⟨rfl, hb⟩; replace hB := bt (hB.alloc hB.size _) hb; clear hb)
        | (go_at_call 16; (with_reducible refine (c2 _ (by omega) _).mono ?_); rintro e w1 ⟨rfl, hb⟩; replace hB := bt hB hb; clear hb))
      go_ret
      exact ⟨by first | rfl | exact ret_true (by simp; exact (HL _ (by omega)).out), hB⟩
  · rcases (show op % 2 = 0 ∨ op % 2 = 1 by omega) with h2 | h2
    · go_enter Tryd.func9, Tryd.ntmps9
      go_wp2_with (first
        | (go_at_call 12; (with_reducible refine (head_num _ hLaid).mono ?_); rintro e w1 ⟨rfl, hb⟩; replace hB := bt hB hb; clear hb)
        | (go_at_call 16; (with_reducible refine (c1 _ _).mono ?_); rintro e w1 ⟨rfl, hb⟩; replace hB := bt (hB.alloc hB.size _) hb; clear hb)
        | (go_at_call 16; (with_reducible refine (c2 _ (by omega) _).mono ?_); rintro e w1 ⟨rfl, hb⟩; replace hB := bt hB hb; clear hb))
      go_ret
      exact ⟨by first | rfl | exact ret_true (by simp; exact (HL _ (by omega)).out), hB⟩
    · go_enter Tryd.func9, Tryd.ntmps9
      go_wp2_with (first
        | (go_at_call 12; (with_reducible refine (head_num _ hLaid).mono ?_); rintro e w1 ⟨rfl, hb⟩; replace hB := bt hB hb; clear hb)
        | (go_at_call 16; (with_reducible refine (c1 _ _).mono ?_); rintro e w1 ⟨rfl, hb⟩; replace hB := bt (hB.alloc hB.size _) hb; clear hb)
        | (go_at_call 16; (with_reducible refine (c2 _ (by omega) _).mono ?_); rintro e w1 ⟨rfl, hb⟩; replace hB := bt hB hb; clear hb))
      go_ret
      exact ⟨by first | rfl | exact ret_true (by simp; exact (HL _ (by omega)).out), hB⟩
end Go.Proofs.YtfbgejgapdpjcaaDoor
