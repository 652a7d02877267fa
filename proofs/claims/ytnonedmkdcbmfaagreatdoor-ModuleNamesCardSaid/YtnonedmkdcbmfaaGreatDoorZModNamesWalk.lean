/-
  The statement on two names, walked. Only its frame proves it.
-/
import Derived.Test.YtnonedmkdcbmfaaGreatDoorZOpSpec
import Derived.Test.YtnonedmkdcbmfaaGreatDoorZModHead
namespace Go.Proofs.YtnonedmkdcbmfaaGreatDoor
open Go.RowKit
theorem name_says (s : ByteArray) (v : Bool) (hs : s.size ≤ maxLen) (e : isName s.data.toList = v) (W : World) (hW : Laid W) : Calls Tryz.prog 15 #[.string s] W fun e w' => e = .returned (.bool v) ∧ Below W.heap.size W w' := by
  have := mod_name s hs W hW
  rwa [e] at this
set_option maxRecDepth 100000 in
set_option maxHeartbeats 8000000 in
theorem moduleNames_walk (a b : ByteArray) (ha : a.size ≤ 140737488351232) (hb : b.size ≤ 140737488351232) (w : World) (hLaid : Laid w) :
    Calls Tryz.prog 8 #[.string a, .string b] w fun e w' => e = .returned (.bool true) ∧ Below w.heap.size w w' := by
  have cH := head_mod w hLaid
  have s1 : ¬ 9223372036854775807 < a.size + b.size := by omega
  have s2 : ¬ 9223372036854775807 < a.size + (⟨#[195]⟩ : ByteArray).size := by show ¬ 9223372036854775807 < a.size + 1; omega
  have s3 : ¬ 9223372036854775807 < (⟨#[128]⟩ : ByteArray).size + b.size := by show ¬ 9223372036854775807 < 1 + b.size; omega
  have s4 : ¬ 9223372036854775807 < a.size + (⟨#[237, 160, 128]⟩ : ByteArray).size := by show ¬ 9223372036854775807 < a.size + 3; omega
  have c1 := fun v => name_says a v (by unfold maxLen; omega)
  have c2 := fun v => name_says b v (by unfold maxLen; omega)
  have c3 := fun v => name_says (a ++ b) v (by rw [ByteArray.size_append]; unfold maxLen; omega)
  have c4 := name_says (a ++ ⟨#[195]⟩) false (by rw [ByteArray.size_append]; show a.size + 1 ≤ maxLen; unfold maxLen; omega) (by rw [ByteArray.data_append, Array.toList_append]; exact name_cut _)
  have c5 := name_says (⟨#[128]⟩ ++ b) false (by rw [ByteArray.size_append]; show 1 + b.size ≤ maxLen; unfold maxLen; omega) (by rw [ByteArray.data_append, Array.toList_append]; exact name_mid _)
  have c6 := name_says ⟨#[240, 159, 152, 128]⟩ true (by show 4 ≤ maxLen; unfold maxLen; omega) (by decide)
  have c7 := name_says (a ++ ⟨#[237, 160, 128]⟩) false (by rw [ByteArray.size_append]; show a.size + 3 ≤ maxLen; unfold maxLen; omega) (by rw [ByteArray.data_append, Array.toList_append]; exact name_half _)
  have hab := @names_both a.data.toList b.data.toList
  rw [← Array.toList_append, ← ByteArray.data_append] at hab
  generalize isName a.data.toList = A at *
  generalize isName b.data.toList = B at *
  generalize isName (a ++ b).data.toList = C at *
  have c1 := c1 A rfl
  have c2 := c2 B rfl
  have c3 := c3 C rfl
  clear ha hb
  cases A with
  | false =>
    go_enter Tryz.func8, Tryz.ntmps8
    go_wp2_with (first
      | (go_at_call 10; refine cH.mono ?_; rintro e w1 ⟨rfl, hB1⟩)
      | (go_at_call 15; (with_reducible refine (c1 _ ?_).mono ?_); (exact hLaid.below hB1); rintro e n0 ⟨rfl, hb0⟩; have hc0 := belt hB1 (Nat.le_refl _) hb0)
      | (go_at_call 15; (with_reducible refine (c4 _ ?_).mono ?_); (exact hLaid.below hc0); rintro e n1 ⟨rfl, hb1⟩; have hc1 := belt hc0 (Nat.le_refl _) hb1)
      | (go_at_call 15; (with_reducible refine (c5 _ ?_).mono ?_); (exact hLaid.below hc1); rintro e n2 ⟨rfl, hb2⟩; have hc2 := belt hc1 (Nat.le_refl _) hb2)
      | (go_at_call 15; (with_reducible refine (c6 _ ?_).mono ?_); (exact hLaid.below hc2); rintro e n3 ⟨rfl, hb3⟩; have hc3 := belt hc2 (Nat.le_refl _) hb3)
      | (go_at_call 15; (with_reducible refine (c7 _ ?_).mono ?_); (exact hLaid.below hc3); rintro e n4 ⟨rfl, hb4⟩; have hc4 := belt hc3 (Nat.le_refl _) hb4))
    go_ret
    exact ⟨rfl, hc4⟩
  | true =>
    cases B with
    | false =>
      go_enter Tryz.func8, Tryz.ntmps8
      go_wp2_with (first
        | (go_at_call 10; refine cH.mono ?_; rintro e w1 ⟨rfl, hB1⟩)
        | (go_at_call 15; (with_reducible refine (c1 _ ?_).mono ?_); (exact hLaid.below hB1); rintro e n0 ⟨rfl, hb0⟩; have hc0 := belt hB1 (Nat.le_refl _) hb0)
        | (go_at_call 15; (with_reducible refine (c2 _ ?_).mono ?_); (exact hLaid.below hc0); rintro e n1 ⟨rfl, hb1⟩; have hc1 := belt hc0 (Nat.le_refl _) hb1)
        | (go_at_call 15; (with_reducible refine (c4 _ ?_).mono ?_); (exact hLaid.below hc1); rintro e n2 ⟨rfl, hb2⟩; have hc2 := belt hc1 (Nat.le_refl _) hb2)
        | (go_at_call 15; (with_reducible refine (c5 _ ?_).mono ?_); (exact hLaid.below hc2); rintro e n3 ⟨rfl, hb3⟩; have hc3 := belt hc2 (Nat.le_refl _) hb3)
        | (go_at_call 15; (with_reducible refine (c6 _ ?_).mono ?_); (exact hLaid.below hc3); rintro e n4 ⟨rfl, hb4⟩; have hc4 := belt hc3 (Nat.le_refl _) hb4)
        | (go_at_call 15; (with_reducible refine (c7 _ ?_).mono ?_); (exact hLaid.below hc4); rintro e n5 ⟨rfl, hb5⟩; have hc5 := belt hc4 (Nat.le_refl _) hb5))
      go_ret
      exact ⟨rfl, hc5⟩
    | true =>
      obtain rfl := hab rfl rfl
      go_enter Tryz.func8, Tryz.ntmps8
      go_wp2_with (first
        | (go_at_call 10; refine cH.mono ?_; rintro e w1 ⟨rfl, hB1⟩)
        | (go_at_call 15; (with_reducible refine (c1 _ ?_).mono ?_); (exact hLaid.below hB1); rintro e n0 ⟨rfl, hb0⟩; have hc0 := belt hB1 (Nat.le_refl _) hb0)
        | (go_at_call 15; (with_reducible refine (c2 _ ?_).mono ?_); (exact hLaid.below hc0); rintro e n1 ⟨rfl, hb1⟩; have hc1 := belt hc0 (Nat.le_refl _) hb1)
        | (go_at_call 15; (with_reducible refine (c3 _ ?_).mono ?_); (exact hLaid.below hc1); rintro e n2 ⟨rfl, hb2⟩; have hc2 := belt hc1 (Nat.le_refl _) hb2)
        | (go_at_call 15; (with_reducible refine (c4 _ ?_).mono ?_); (exact hLaid.below hc2); rintro e n3 ⟨rfl, hb3⟩; have hc3 := belt hc2 (Nat.le_refl _) hb3)
        | (go_at_call 15; (with_reducible refine (c5 _ ?_).mono ?_); (exact hLaid.below hc3); rintro e n4 ⟨rfl, hb4⟩; have hc4 := belt hc3 (Nat.le_refl _) hb4)
        | (go_at_call 15; (with_reducible refine (c6 _ ?_).mono ?_); (exact hLaid.below hc4); rintro e n5 ⟨rfl, hb5⟩; have hc5 := belt hc4 (Nat.le_refl _) hb5)
        | (go_at_call 15; (with_reducible refine (c7 _ ?_).mono ?_); (exact hLaid.below hc5); rintro e n6 ⟨rfl, hb6⟩; have hc6 := belt hc5 (Nat.le_refl _) hb6))
      go_ret
      exact ⟨rfl, hc6⟩
end Go.Proofs.YtnonedmkdcbmfaaGreatDoor
