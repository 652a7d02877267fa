/-
  NumTests, walked: of two numbers just one of below, same, above holds; each test is the other one's turn.
-/
import Derived.Test.YtfbgejgapdpjcaaDoorNumHead
import Derived.Test.YtfbgejgapdpjcaaDoorNumPlain
namespace Go.Proofs.YtfbgejgapdpjcaaDoor
open Go.RowKit

theorem t_val32 (kind x y : Int) (hk : 0 ≤ kind ∧ kind ≤ 9) (hx : 0 ≤ x ∧ x < 4294967296) (hy : 0 ≤ y ∧ y < 4294967296) : (two (70 + kind) x y).1 = truth (tst kind 32 x y) := by
  rw [two_32_t (by omega) (by omega), show 70 + kind - 70 = kind by omega, Int.emod_eq_of_lt hx.1 (show x < 2 ^ 32 from hx.2), Int.emod_eq_of_lt hy.1 (show y < 2 ^ 32 from hy.2)]
  unfold twoK; rw [if_pos (by omega)]
theorem t_val64 (kind x y : Int) (hk : 0 ≤ kind ∧ kind ≤ 9) : (two (81 + kind) x y).1 = truth (tst kind 64 x y) := by
  rw [two_64_t (by omega) (by omega), show 81 + kind - 81 = kind by omega]
  unfold twoK; rw [if_pos (by omega)]
theorem sgnv_inj {bs : Nat} (hbs : bs = 32 ∨ bs = 64) {x y : Int} (hx : 0 ≤ x ∧ x < 2 ^ bs) (hy : 0 ≤ y ∧ y < 2 ^ bs) (h : sgnv bs x = sgnv bs y) : x = y := by
  rcases hbs with rfl | rfl <;> (unfold sgnv at h; simp at *; split at h <;> split at h <;> omega)

/-- What the tests tell, by the order of the two. -/
theorem tst_eq (kind : Int) (bs : Nat) (x : Int) : tst kind bs x x = if kind / 2 = 0 then kind == 0 else if kind / 2 = 1 then false else if kind / 2 = 2 then false else true := by
  have hl : less kind bs x x = false := by unfold less; split <;> simp
  unfold tst; rw [hl]
  simp
theorem tst_ne (kind : Int) (bs : Nat) (x y : Int) (hne : x ≠ y) (l : Bool) (hl : less kind bs x y = l) : tst kind bs x y = if kind / 2 = 0 then !(kind == 0) else if kind / 2 = 1 then l else if kind / 2 = 2 then !l else if kind / 2 = 3 then l else !l := by
  unfold tst; rw [hl]
  have h1 : (x == y) = false := by simpa using hne
  have h2 : (x != y) = true := by simpa using hne
  rw [h1, h2]
  simp
theorem less_u {kind : Int} (bs : Nat) (x y : Int) (h : kind % 2 = 1) : less kind bs x y = decide (x < y) := by unfold less; rw [if_pos h]
theorem less_s {kind : Int} (bs : Nat) (x y : Int) (h : kind % 2 = 0) : less kind bs x y = decide (sgnv bs x < sgnv bs y) := by unfold less; rw [if_neg (by omega)]

set_option maxRecDepth 100000 in
set_option maxHeartbeats 4000000 in
theorem numTests_32s (a b : Int) (ha : 0 ≤ a ∧ a ≤ 18446744073709551615) (hb : 0 ≤ b ∧ b ≤ 18446744073709551615) (w : World) (hLaid : Laid w) :
    Calls Tryd.prog 7 #[.int .u64 a, .int .u64 b, .bool true, .bool true] w fun e w' => e = .returned (.bool true) ∧ Below w.heap.size w w' := by
  have hB := Below.refl w.heap.size w
  obtain ⟨x, hx⟩ : ∃ x, a % 4294967296 = x := ⟨_, rfl⟩
  obtain ⟨y, hy⟩ : ∃ y, b % 4294967296 = y := ⟨_, rfl⟩
  have hx2 : 0 ≤ x ∧ x < 4294967296 := by omega
  have hy2 : 0 ≤ y ∧ y < 4294967296 := by omega
  rcases (show x = y ∨ (x ≠ y ∧ sgnv 32 x < sgnv 32 y) ∨ (x ≠ y ∧ sgnv 32 y < sgnv 32 x) by
    by_cases he : x = y
    · exact Or.inl he
    · have hi := fun h => he (sgnv_inj (bs := 32) (by decide) (x := x) (y := y) (by simp; omega) (by simp; omega) h)
      rcases Int.lt_trichotomy (sgnv 32 x) (sgnv 32 y) with h | h | h
      · exact Or.inr (Or.inl ⟨he, h⟩)
      · exact absurd h hi
      · exact Or.inr (Or.inr ⟨he, h⟩)) with he | ⟨hne, hl⟩ | ⟨hne, hl⟩
  · subst he
    have c1 := ltwo_is 70 x x (x := 1) (by rw [show (70 : Int) = 70 + 0 from rfl, t_val32 0 x x (by decide) hx2 hx2, tst_eq]; rfl) (by omega) (by omega)
    have c2 := ltwo_is 72 x x (x := 0) (by rw [show (72 : Int) = 70 + 2 from rfl, t_val32 2 x x (by decide) hx2 hx2, tst_eq]; rfl) (by omega) (by omega)
    have c3 := ltwo_is 74 x x (x := 0) (by rw [show (74 : Int) = 70 + 4 from rfl, t_val32 4 x x (by decide) hx2 hx2, tst_eq]; rfl) (by omega) (by omega)
    have c4 := ltwo_is 71 x x (x := 0) (by rw [show (71 : Int) = 70 + 1 from rfl, t_val32 1 x x (by decide) hx2 hx2, tst_eq]; rfl) (by omega) (by omega)
    have c5 := ltwo_is 76 x x (x := 1) (by rw [show (76 : Int) = 70 + 6 from rfl, t_val32 6 x x (by decide) hx2 hx2, tst_eq]; rfl) (by omega) (by omega)
    have c6 := ltwo_is 78 x x (x := 1) (by rw [show (78 : Int) = 70 + 8 from rfl, t_val32 8 x x (by decide) hx2 hx2, tst_eq]; rfl) (by omega) (by omega)
    have c7 := ltwo_is 72 x x (x := 0) (by rw [show (72 : Int) = 70 + 2 from rfl, t_val32 2 x x (by decide) hx2 hx2, tst_eq]; rfl) (by omega) (by omega)
    have heb : (x == x) = true := by simp
    go_enter Tryd.func7, Tryd.ntmps7
    go_wp2_with (first
      | (go_at_call 12; (with_reducible refine (head_num _ hLaid).mono ?_); rintro e w1 ⟨rfl, hb⟩; replace hB := bt hB hb; clear hb)
      | (go_at_call 18; (with_reducible refine (c1 _).mono ?_); rintro e w1 ⟨rfl, hb⟩; replace hB := bt hB hb; clear hb)
      | (go_at_call 18; (with_reducible refine (c2 _).mono ?_); rintro e w1 ⟨rfl, hb⟩; replace hB := bt hB hb; clear hb)
      | (go_at_call 18; (with_reducible refine (c3 _).mono ?_); rintro e w1 ⟨rfl, hb⟩; replace hB := bt hB hb; clear hb)
      | (go_at_call 18; (with_reducible refine (c4 _).mono ?_); rintro e w1 ⟨rfl, hb⟩; replace hB := bt hB hb; clear hb)
      | (go_at_call 18; (with_reducible refine (c5 _).mono ?_); rintro e w1 ⟨rfl, hb⟩; replace hB := bt hB hb; clear hb)
      | (go_at_call 18; (with_reducible refine (c6 _).mono ?_); rintro e w1 ⟨rfl, hb⟩; replace hB := bt hB hb; clear hb)
      | (go_at_call 18; (with_reducible refine (c7 _).mono ?_); rintro e w1 ⟨rfl, hb⟩; replace hB := bt hB hb; clear hb))
    go_ret
    exact ⟨by first | rfl | exact ret_true (by simp), hB⟩
  · have c1 := ltwo_is 70 x y (x := 0) (by rw [show (70 : Int) = 70 + 0 from rfl, t_val32 0 x y (by decide) hx2 hy2, tst_ne 0 32 x y hne _ rfl]; rfl) (by omega) (by omega)
    have c2 := ltwo_is 72 x y (x := 1) (by rw [show (72 : Int) = 70 + 2 from rfl, t_val32 2 x y (by decide) hx2 hy2, tst_ne 2 32 x y hne true ((less_s 32 x y rfl).trans (decide_eq_true hl))]; rfl) (by omega) (by omega)
    have c3 := ltwo_is 74 x y (x := 0) (by rw [show (74 : Int) = 70 + 4 from rfl, t_val32 4 x y (by decide) hx2 hy2, tst_ne 4 32 x y hne true ((less_s 32 x y rfl).trans (decide_eq_true hl))]; rfl) (by omega) (by omega)
    have c4 := ltwo_is 71 x y (x := 1) (by rw [show (71 : Int) = 70 + 1 from rfl, t_val32 1 x y (by decide) hx2 hy2, tst_ne 1 32 x y hne _ rfl]; rfl) (by omega) (by omega)
    have c5 := ltwo_is 76 x y (x := 1) (by rw [show (76 : Int) = 70 + 6 from rfl, t_val32 6 x y (by decide) hx2 hy2, tst_ne 6 32 x y hne true ((less_s 32 x y rfl).trans (decide_eq_true hl))]; rfl) (by omega) (by omega)
    have c6 := ltwo_is 78 x y (x := 0) (by rw [show (78 : Int) = 70 + 8 from rfl, t_val32 8 x y (by decide) hx2 hy2, tst_ne 8 32 x y hne true ((less_s 32 x y rfl).trans (decide_eq_true hl))]; rfl) (by omega) (by omega)
    have c7 := ltwo_is 72 y x (x := 0) (by rw [show (72 : Int) = 70 + 2 from rfl, t_val32 2 y x (by decide) hy2 hx2, tst_ne 2 32 y x (Ne.symm hne) false ((less_s 32 y x rfl).trans (decide_eq_false (by omega)))]; rfl) (by omega) (by omega)
    have heb : (x == y) = false := by simpa using hne
    go_enter Tryd.func7, Tryd.ntmps7
    go_wp2_with (first
      | (go_at_call 12; (with_reducible refine (head_num _ hLaid).mono ?_); rintro e w1 ⟨rfl, hb⟩; replace hB := bt hB hb; clear hb)
      | (go_at_call 18; (with_reducible refine (c1 _).mono ?_); rintro e w1 ⟨rfl, hb⟩; replace hB := bt hB hb; clear hb)
      | (go_at_call 18; (with_reducible refine (c2 _).mono ?_); rintro e w1 ⟨rfl, hb⟩; replace hB := bt hB hb; clear hb)
      | (go_at_call 18; (with_reducible refine (c3 _).mono ?_); rintro e w1 ⟨rfl, hb⟩; replace hB := bt hB hb; clear hb)
      | (go_at_call 18; (with_reducible refine (c4 _).mono ?_); rintro e w1 ⟨rfl, hb⟩; replace hB := bt hB hb; clear hb)
      | (go_at_call 18; (with_reducible refine (c5 _).mono ?_); rintro e w1 ⟨rfl, hb⟩; replace hB := bt hB hb; clear hb)
      | (go_at_call 18; (with_reducible refine (c6 _).mono ?_); rintro e w1 ⟨rfl, hb⟩; replace hB := bt hB hb; clear hb)
      | (go_at_call 18; (with_reducible refine (c7 _).mono ?_); rintro e w1 ⟨rfl, hb⟩; replace hB := bt hB hb; clear hb))
    go_ret
    exact ⟨by first | rfl | exact ret_true (by simp), hB⟩
  · have c1 := ltwo_is 70 x y (x := 0) (by rw [show (70 : Int) = 70 + 0 from rfl, t_val32 0 x y (by decide) hx2 hy2, tst_ne 0 32 x y hne _ rfl]; rfl) (by omega) (by omega)
    have c2 := ltwo_is 72 x y (x := 0) (by rw [show (72 : Int) = 70 + 2 from rfl, t_val32 2 x y (by decide) hx2 hy2, tst_ne 2 32 x y hne false ((less_s 32 x y rfl).trans (decide_eq_false (by omega)))]; rfl) (by omega) (by omega)
    have c3 := ltwo_is 74 x y (x := 1) (by rw [show (74 : Int) = 70 + 4 from rfl, t_val32 4 x y (by decide) hx2 hy2, tst_ne 4 32 x y hne false ((less_s 32 x y rfl).trans (decide_eq_false (by omega)))]; rfl) (by omega) (by omega)
    have c4 := ltwo_is 71 x y (x := 1) (by rw [show (71 : Int) = 70 + 1 from rfl, t_val32 1 x y (by decide) hx2 hy2, tst_ne 1 32 x y hne _ rfl]; rfl) (by omega) (by omega)
    have c5 := ltwo_is 76 x y (x := 0) (by rw [show (76 : Int) = 70 + 6 from rfl, t_val32 6 x y (by decide) hx2 hy2, tst_ne 6 32 x y hne false ((less_s 32 x y rfl).trans (decide_eq_false (by omega)))]; rfl) (by omega) (by omega)
    have c6 := ltwo_is 78 x y (x := 1) (by rw [show (78 : Int) = 70 + 8 from rfl, t_val32 8 x y (by decide) hx2 hy2, tst_ne 8 32 x y hne false ((less_s 32 x y rfl).trans (decide_eq_false (by omega)))]; rfl) (by omega) (by omega)
    have c7 := ltwo_is 72 y x (x := 1) (by rw [show (72 : Int) = 70 + 2 from rfl, t_val32 2 y x (by decide) hy2 hx2, tst_ne 2 32 y x (Ne.symm hne) true ((less_s 32 y x rfl).trans (decide_eq_true hl))]; rfl) (by omega) (by omega)
    have heb : (x == y) = false := by simpa using hne
    go_enter Tryd.func7, Tryd.ntmps7
    go_wp2_with (first
      | (go_at_call 12; (with_reducible refine (head_num _ hLaid).mono ?_); rintro e w1 ⟨rfl, hb⟩; replace hB := bt hB hb; clear hb)
      | (go_at_call 18; (with_reducible refine (c1 _).mono ?_); rintro e w1 ⟨rfl, hb⟩; replace hB := bt hB hb; clear hb)
      | (go_at_call 18; (with_reducible refine (c2 _).mono ?_); rintro e w1 ⟨rfl, hb⟩; replace hB := bt hB hb; clear hb)
      | (go_at_call 18; (with_reducible refine (c3 _).mono ?_); rintro e w1 ⟨rfl, hb⟩; replace hB := bt hB hb; clear hb)
      | (go_at_call 18; (with_reducible refine (c4 _).mono ?_); rintro e w1 ⟨rfl, hb⟩; replace hB := bt hB hb; clear hb)
      | (go_at_call 18; (with_reducible refine (c5 _).mono ?_); rintro e w1 ⟨rfl, hb⟩; replace hB := bt hB hb; clear hb)
      | (go_at_call 18; (with_reducible refine (c6 _).mono ?_); rintro e w1 ⟨rfl, hb⟩; replace hB := bt hB hb; clear hb)
      | (go_at_call 18; (with_reducible refine (c7 _).mono ?_); rintro e w1 ⟨rfl, hb⟩; replace hB := bt hB hb; clear hb))
    go_ret
    exact ⟨by first | rfl | exact ret_true (by simp), hB⟩

set_option maxRecDepth 100000 in
set_option maxHeartbeats 4000000 in
theorem numTests_32u (a b : Int) (ha : 0 ≤ a ∧ a ≤ 18446744073709551615) (hb : 0 ≤ b ∧ b ≤ 18446744073709551615) (w : World) (hLaid : Laid w) :
    Calls Tryd.prog 7 #[.int .u64 a, .int .u64 b, .bool true, .bool false] w fun e w' => e = .returned (.bool true) ∧ Below w.heap.size w w' := by
  have hB := Below.refl w.heap.size w
  obtain ⟨x, hx⟩ : ∃ x, a % 4294967296 = x := ⟨_, rfl⟩
  obtain ⟨y, hy⟩ : ∃ y, b % 4294967296 = y := ⟨_, rfl⟩
  have hx2 : 0 ≤ x ∧ x < 4294967296 := by omega
  have hy2 : 0 ≤ y ∧ y < 4294967296 := by omega
  rcases (show x = y ∨ (x ≠ y ∧ x < y) ∨ (x ≠ y ∧ y < x) by
    by_cases he : x = y
    · exact Or.inl he
    · exact Or.inr (by omega)) with he | ⟨hne, hl⟩ | ⟨hne, hl⟩
  · subst he
    have c1 := ltwo_is 70 x x (x := 1) (by rw [show (70 : Int) = 70 + 0 from rfl, t_val32 0 x x (by decide) hx2 hx2, tst_eq]; rfl) (by omega) (by omega)
    have c2 := ltwo_is 73 x x (x := 0) (by rw [show (73 : Int) = 70 + 3 from rfl, t_val32 3 x x (by decide) hx2 hx2, tst_eq]; rfl) (by omega) (by omega)
    have c3 := ltwo_is 75 x x (x := 0) (by rw [show (75 : Int) = 70 + 5 from rfl, t_val32 5 x x (by decide) hx2 hx2, tst_eq]; rfl) (by omega) (by omega)
    have c4 := ltwo_is 71 x x (x := 0) (by rw [show (71 : Int) = 70 + 1 from rfl, t_val32 1 x x (by decide) hx2 hx2, tst_eq]; rfl) (by omega) (by omega)
    have c5 := ltwo_is 77 x x (x := 1) (by rw [show (77 : Int) = 70 + 7 from rfl, t_val32 7 x x (by decide) hx2 hx2, tst_eq]; rfl) (by omega) (by omega)
    have c6 := ltwo_is 79 x x (x := 1) (by rw [show (79 : Int) = 70 + 9 from rfl, t_val32 9 x x (by decide) hx2 hx2, tst_eq]; rfl) (by omega) (by omega)
    have c7 := ltwo_is 73 x x (x := 0) (by rw [show (73 : Int) = 70 + 3 from rfl, t_val32 3 x x (by decide) hx2 hx2, tst_eq]; rfl) (by omega) (by omega)
    have heb : (x == x) = true := by simp
    go_enter Tryd.func7, Tryd.ntmps7
    go_wp2_with (first
      | (go_at_call 12; (with_reducible refine (head_num _ hLaid).mono ?_); rintro e w1 ⟨rfl, hb⟩; replace hB := bt hB hb; clear hb)
      | (go_at_call 18; (with_reducible refine (c1 _).mono ?_); rintro e w1 ⟨rfl, hb⟩; replace hB := bt hB hb; clear hb)
      | (go_at_call 18; (with_reducible refine (c2 _).mono ?_); rintro e w1 ⟨rfl, hb⟩; replace hB := bt hB hb; clear hb)
      | (go_at_call 18; (with_reducible refine (c3 _).mono ?_); rintro e w1 ⟨rfl, hb⟩; replace hB := bt hB hb; clear hb)
      | (go_at_call 18; (with_reducible refine (c4 _).mono ?_); rintro e w1 ⟨rfl, hb⟩; replace hB := bt hB hb; clear hb)
      | (go_at_call 18; (with_reducible refine (c5 _).mono ?_); rintro e w1 ⟨rfl, hb⟩; replace hB := bt hB hb; clear hb)
      | (go_at_call 18; (with_reducible refine (c6 _).mono ?_); rintro e w1 ⟨rfl, hb⟩; replace hB := bt hB hb; clear hb)
      | (go_at_call 18; (with_reducible refine (c7 _).mono ?_); rintro e w1 ⟨rfl, hb⟩; replace hB := bt hB hb; clear hb))
    go_ret
    exact ⟨by first | rfl | exact ret_true (by simp), hB⟩
  · have c1 := ltwo_is 70 x y (x := 0) (by rw [show (70 : Int) = 70 + 0 from rfl, t_val32 0 x y (by decide) hx2 hy2, tst_ne 0 32 x y hne _ rfl]; rfl) (by omega) (by omega)
    have c2 := ltwo_is 73 x y (x := 1) (by rw [show (73 : Int) = 70 + 3 from rfl, t_val32 3 x y (by decide) hx2 hy2, tst_ne 3 32 x y hne true ((less_u 32 x y rfl).trans (decide_eq_true hl))]; rfl) (by omega) (by omega)
    have c3 := ltwo_is 75 x y (x := 0) (by rw [show (75 : Int) = 70 + 5 from rfl, t_val32 5 x y (by decide) hx2 hy2, tst_ne 5 32 x y hne true ((less_u 32 x y rfl).trans (decide_eq_true hl))]; rfl) (by omega) (by omega)
    have c4 := ltwo_is 71 x y (x := 1) (by rw [show (71 : Int) = 70 + 1 from rfl, t_val32 1 x y (by decide) hx2 hy2, tst_ne 1 32 x y hne _ rfl]; rfl) (by omega) (by omega)
    have c5 := ltwo_is 77 x y (x := 1) (by rw [show (77 : Int) = 70 + 7 from rfl, t_val32 7 x y (by decide) hx2 hy2, tst_ne 7 32 x y hne true ((less_u 32 x y rfl).trans (decide_eq_true hl))]; rfl) (by omega) (by omega)
    have c6 := ltwo_is 79 x y (x := 0) (by rw [show (79 : Int) = 70 + 9 from rfl, t_val32 9 x y (by decide) hx2 hy2, tst_ne 9 32 x y hne true ((less_u 32 x y rfl).trans (decide_eq_true hl))]; rfl) (by omega) (by omega)
    have c7 := ltwo_is 73 y x (x := 0) (by rw [show (73 : Int) = 70 + 3 from rfl, t_val32 3 y x (by decide) hy2 hx2, tst_ne 3 32 y x (Ne.symm hne) false ((less_u 32 y x rfl).trans (decide_eq_false (by omega)))]; rfl) (by omega) (by omega)
    have heb : (x == y) = false := by simpa using hne
    go_enter Tryd.func7, Tryd.ntmps7
    go_wp2_with (first
      | (go_at_call 12; (with_reducible refine (head_num _ hLaid).mono ?_); rintro e w1 ⟨rfl, hb⟩; replace hB := bt hB hb; clear hb)
      | (go_at_call 18; (with_reducible refine (c1 _).mono ?_); rintro e w1 ⟨rfl, hb⟩; replace hB := bt hB hb; clear hb)
      | (go_at_call 18; (with_reducible refine (c2 _).mono ?_); rintro e w1 ⟨rfl, hb⟩; replace hB := bt hB hb; clear hb)
      | (go_at_call 18; (with_reducible refine (c3 _).mono ?_); rintro e w1 ⟨rfl, hb⟩; replace hB := bt hB hb; clear hb)
      | (go_at_call 18; (with_reducible refine (c4 _).mono ?_); rintro e w1 ⟨rfl, hb⟩; replace hB := bt hB hb; clear hb)
      | (go_at_call 18; (with_reducible refine (c5 _).mono ?_); rintro e w1 ⟨rfl, hb⟩; replace hB := bt hB hb; clear hb)
      | (go_at_call 18; (with_reducible refine (c6 _).mono ?_); rintro e w1 ⟨rfl, hb⟩; replace hB := bt hB hb; clear hb)
      | (go_at_call 18; (with_reducible refine (c7 _).mono ?_); rintro e w1 ⟨rfl, hb⟩; replace hB := bt hB hb; clear hb))
    go_ret
    exact ⟨by first | rfl | exact ret_true (by simp), hB⟩
  · have c1 := ltwo_is 70 x y (x := 0) (by rw [show (70 : Int) = 70 + 0 from rfl, t_val32 0 x y (by decide) hx2 hy2, tst_ne 0 32 x y hne _ rfl]; rfl) (by omega) (by omega)
    have c2 := ltwo_is 73 x y (x := 0) (by rw [show (73 : Int) = 70 + 3 from rfl, t_val32 3 x y (by decide) hx2 hy2, tst_ne 3 32 x y hne false ((less_u 32 x y rfl).trans (decide_eq_false (by omega)))]; rfl) (by omega) (by omega)
    have c3 := ltwo_is 75 x y (x := 1) (by rw [show (75 : Int) = 70 + 5 from rfl, t_val32 5 x y (by decide) hx2 hy2, tst_ne 5 32 x y hne false ((less_u 32 x y rfl).trans (decide_eq_false (by omega)))]; rfl) (by omega) (by omega)
    have c4 := ltwo_is 71 x y (x := 1) (by rw [show (71 : Int) = 70 + 1 from rfl, t_val32 1 x y (by decide) hx2 hy2, tst_ne 1 32 x y hne _ rfl]; rfl) (by omega) (by omega)
    have c5 := ltwo_is 77 x y (x := 0) (by rw [show (77 : Int) = 70 + 7 from rfl, t_val32 7 x y (by decide) hx2 hy2, tst_ne 7 32 x y hne false ((less_u 32 x y rfl).trans (decide_eq_false (by omega)))]; rfl) (by omega) (by omega)
    have c6 := ltwo_is 79 x y (x := 1) (by rw [show (79 : Int) = 70 + 9 from rfl, t_val32 9 x y (by decide) hx2 hy2, tst_ne 9 32 x y hne false ((less_u 32 x y rfl).trans (decide_eq_false (by omega)))]; rfl) (by omega) (by omega)
    have c7 := ltwo_is 73 y x (x := 1) (by rw [show (73 : Int) = 70 + 3 from rfl, t_val32 3 y x (by decide) hy2 hx2, tst_ne 3 32 y x (Ne.symm hne) true ((less_u 32 y x rfl).trans (decide_eq_true hl))]; rfl) (by omega) (by omega)
    have heb : (x == y) = false := by simpa using hne
    go_enter Tryd.func7, Tryd.ntmps7
    go_wp2_with (first
      | (go_at_call 12; (with_reducible refine (head_num _ hLaid).mono ?_); rintro e w1 ⟨rfl, hb⟩; replace hB := bt hB hb; clear hb)
      | (go_at_call 18; (with_reducible refine (c1 _).mono ?_); rintro e w1 ⟨rfl, hb⟩; replace hB := bt hB hb; clear hb)
      | (go_at_call 18; (with_reducible refine (c2 _).mono ?_); rintro e w1 ⟨rfl, hb⟩; replace hB := bt hB hb; clear hb)
      | (go_at_call 18; (with_reducible refine (c3 _).mono ?_); rintro e w1 ⟨rfl, hb⟩; replace hB := bt hB hb; clear hb)
      | (go_at_call 18; (with_reducible refine (c4 _).mono ?_); rintro e w1 ⟨rfl, hb⟩; replace hB := bt hB hb; clear hb)
      | (go_at_call 18; (with_reducible refine (c5 _).mono ?_); rintro e w1 ⟨rfl, hb⟩; replace hB := bt hB hb; clear hb)
      | (go_at_call 18; (with_reducible refine (c6 _).mono ?_); rintro e w1 ⟨rfl, hb⟩; replace hB := bt hB hb; clear hb)
      | (go_at_call 18; (with_reducible refine (c7 _).mono ?_); rintro e w1 ⟨rfl, hb⟩; replace hB := bt hB hb; clear hb))
    go_ret
    exact ⟨by first | rfl | exact ret_true (by simp), hB⟩

set_option maxRecDepth 100000 in
set_option maxHeartbeats 4000000 in
theorem numTests_64s (a b : Int) (ha : 0 ≤ a ∧ a ≤ 18446744073709551615) (hb : 0 ≤ b ∧ b ≤ 18446744073709551615) (w : World) (hLaid : Laid w) :
    Calls Tryd.prog 7 #[.int .u64 a, .int .u64 b, .bool false, .bool true] w fun e w' => e = .returned (.bool true) ∧ Below w.heap.size w w' := by
  have hB := Below.refl w.heap.size w
  rcases (show a = b ∨ (a ≠ b ∧ sgnv 64 a < sgnv 64 b) ∨ (a ≠ b ∧ sgnv 64 b < sgnv 64 a) by
    by_cases he : a = b
    · exact Or.inl he
    · have hi := fun h => he (sgnv_inj (bs := 64) (by decide) (x := a) (y := b) (by simp; omega) (by simp; omega) h)
      rcases Int.lt_trichotomy (sgnv 64 a) (sgnv 64 b) with h | h | h
      · exact Or.inr (Or.inl ⟨he, h⟩)
      · exact absurd h hi
      · exact Or.inr (Or.inr ⟨he, h⟩)) with he | ⟨hne, hl⟩ | ⟨hne, hl⟩
  · subst he
    have c1 := ltwo_is 81 a a (x := 1) (by rw [show (81 : Int) = 81 + 0 from rfl, t_val64 0 a a (by decide), tst_eq]; rfl) ha ha
    have c2 := ltwo_is 83 a a (x := 0) (by rw [show (83 : Int) = 81 + 2 from rfl, t_val64 2 a a (by decide), tst_eq]; rfl) ha ha
    have c3 := ltwo_is 85 a a (x := 0) (by rw [show (85 : Int) = 81 + 4 from rfl, t_val64 4 a a (by decide), tst_eq]; rfl) ha ha
    have c4 := ltwo_is 82 a a (x := 0) (by rw [show (82 : Int) = 81 + 1 from rfl, t_val64 1 a a (by decide), tst_eq]; rfl) ha ha
    have c5 := ltwo_is 87 a a (x := 1) (by rw [show (87 : Int) = 81 + 6 from rfl, t_val64 6 a a (by decide), tst_eq]; rfl) ha ha
    have c6 := ltwo_is 89 a a (x := 1) (by rw [show (89 : Int) = 81 + 8 from rfl, t_val64 8 a a (by decide), tst_eq]; rfl) ha ha
    have c7 := ltwo_is 83 a a (x := 0) (by rw [show (83 : Int) = 81 + 2 from rfl, t_val64 2 a a (by decide), tst_eq]; rfl) ha ha
    have heb : (a == a) = true := by simp
    go_enter Tryd.func7, Tryd.ntmps7
    go_wp2_with (first
      | (go_at_call 12; (with_reducible refine (head_num _ hLaid).mono ?_); rintro e w1 ⟨rfl, hb⟩; replace hB := bt hB hb; clear hb)
      | (go_at_call 18; (with_reducible refine (c1 _).mono ?_); rintro e w1 ⟨rfl, hb⟩; replace hB := bt hB hb; clear hb)
      | (go_at_call 18; (with_reducible refine (c2 _).mono ?_); rintro e w1 ⟨rfl, hb⟩; replace hB := bt hB hb; clear hb)
      | (go_at_call 18; (with_reducible refine (c3 _).mono ?_); rintro e w1 ⟨rfl, hb⟩; replace hB := bt hB hb; clear hb)
      | (go_at_call 18; (with_reducible refine (c4 _).mono ?_); rintro e w1 ⟨rfl, hb⟩; replace hB := bt hB hb; clear hb)
      | (go_at_call 18; (with_reducible refine (c5 _).mono ?_); rintro e w1 ⟨rfl, hb⟩; replace hB := bt hB hb; clear hb)
      | (go_at_call 18; (with_reducible refine (c6 _).mono ?_); rintro e w1 ⟨rfl, hb⟩; replace hB := bt hB hb; clear hb)
      | (go_at_call 18; (with_reducible refine (c7 _).mono ?_); rintro e w1 ⟨rfl, hb⟩; replace hB := bt hB hb; clear hb))
    go_ret
    exact ⟨by first | rfl | exact ret_true (by simp), hB⟩
  · have c1 := ltwo_is 81 a b (x := 0) (by rw [show (81 : Int) = 81 + 0 from rfl, t_val64 0 a b (by decide), tst_ne 0 64 a b hne _ rfl]; rfl) ha hb
    have c2 := ltwo_is 83 a b (x := 1) (by rw [show (83 : Int) = 81 + 2 from rfl, t_val64 2 a b (by decide), tst_ne 2 64 a b hne true ((less_s 64 a b rfl).trans (decide_eq_true hl))]; rfl) ha hb
    have c3 := ltwo_is 85 a b (x := 0) (by rw [show (85 : Int) = 81 + 4 from rfl, t_val64 4 a b (by decide), tst_ne 4 64 a b hne true ((less_s 64 a b rfl).trans (decide_eq_true hl))]; rfl) ha hb
    have c4 := ltwo_is 82 a b (x := 1) (by rw [show (82 : Int) = 81 + 1 from rfl, t_val64 1 a b (by decide), tst_ne 1 64 a b hne _ rfl]; rfl) ha hb
    have c5 := ltwo_is 87 a b (x := 1) (by rw [show (87 : Int) = 81 + 6 from rfl, t_val64 6 a b (by decide), tst_ne 6 64 a b hne true ((less_s 64 a b rfl).trans (decide_eq_true hl))]; rfl) ha hb
    have c6 := ltwo_is 89 a b (x := 0) (by rw [show (89 : Int) = 81 + 8 from rfl, t_val64 8 a b (by decide), tst_ne 8 64 a b hne true ((less_s 64 a b rfl).trans (decide_eq_true hl))]; rfl) ha hb
    have c7 := ltwo_is 83 b a (x := 0) (by rw [show (83 : Int) = 81 + 2 from rfl, t_val64 2 b a (by decide), tst_ne 2 64 b a (Ne.symm hne) false ((less_s 64 b a rfl).trans (decide_eq_false (by omega)))]; rfl) hb ha
    have heb : (a == b) = false := by simpa using hne
    go_enter Tryd.func7, Tryd.ntmps7
    go_wp2_with (first
      | (go_at_call 12; (with_reducible refine (head_num _ hLaid).mono ?_); rintro e w1 ⟨rfl, hb⟩; replace hB := bt hB hb; clear hb)
      | (go_at_call 18; (with_reducible refine (c1 _).mono ?_); rintro e w1 ⟨rfl, hb⟩; replace hB := bt hB hb; clear hb)
      | (go_at_call 18; (with_reducible refine (c2 _).mono ?_); rintro e w1 ⟨rfl, hb⟩; replace hB := bt hB hb; clear hb)
      | (go_at_call 18; (with_reducible refine (c3 _).mono ?_); rintro e w1 ⟨rfl, hb⟩; replace hB := bt hB hb; clear hb)
      | (go_at_call 18; (with_reducible refine (c4 _).mono ?_); rintro e w1 ⟨rfl, hb⟩; replace hB := bt hB hb; clear hb)
      | (go_at_call 18; (with_reducible refine (c5 _).mono ?_); rintro e w1 ⟨rfl, hb⟩; replace hB := bt hB hb; clear hb)
      | (go_at_call 18; (with_reducible refine (c6 _).mono ?_); rintro e w1 ⟨rfl, hb⟩; replace hB := bt hB hb; clear hb)
      | (go_at_call 18; (with_reducible refine (c7 _).mono ?_); rintro e w1 ⟨rfl, hb⟩; replace hB := bt hB hb; clear hb))
    go_ret
    exact ⟨by first | rfl | exact ret_true (by simp), hB⟩
  · have c1 := ltwo_is 81 a b (x := 0) (by rw [show (81 : Int) = 81 + 0 from rfl, t_val64 0 a b (by decide), tst_ne 0 64 a b hne _ rfl]; rfl) ha hb
    have c2 := ltwo_is 83 a b (x := 0) (by rw [show (83 : Int) = 81 + 2 from rfl, t_val64 2 a b (by decide), tst_ne 2 64 a b hne false ((less_s 64 a b rfl).trans (decide_eq_false (by omega)))]; rfl) ha hb
    have c3 := ltwo_is 85 a b (x := 1) (by rw [show (85 : Int) = 81 + 4 from rfl, t_val64 4 a b (by decide), tst_ne 4 64 a b hne false ((less_s 64 a b rfl).trans (decide_eq_false (by omega)))]; rfl) ha hb
    have c4 := ltwo_is 82 a b (x := 1) (by rw [show (82 : Int) = 81 + 1 from rfl, t_val64 1 a b (by decide), tst_ne 1 64 a b hne _ rfl]; rfl) ha hb
    have c5 := ltwo_is 87 a b (x := 0) (by rw [show (87 : Int) = 81 + 6 from rfl, t_val64 6 a b (by decide), tst_ne 6 64 a b hne false ((less_s 64 a b rfl).trans (decide_eq_false (by omega)))]; rfl) ha hb
    have c6 := ltwo_is 89 a b (x := 1) (by rw [show (89 : Int) = 81 + 8 from rfl, t_val64 8 a b (by decide), tst_ne 8 64 a b hne false ((less_s 64 a b rfl).trans (decide_eq_false (by omega)))]; rfl) ha hb
    have c7 := ltwo_is 83 b a (x := 1) (by rw [show (83 : Int) = 81 + 2 from rfl, t_val64 2 b a (by decide), tst_ne 2 64 b a (Ne.symm hne) true ((less_s 64 b a rfl).trans (decide_eq_true hl))]; rfl) hb ha
    have heb : (a == b) = false := by simpa using hne
    go_enter Tryd.func7, Tryd.ntmps7
    go_wp2_with (first
      | (go_at_call 12; (with_reducible refine (head_num _ hLaid).mono ?_); rintro e w1 ⟨rfl, hb⟩; replace hB := bt hB hb; clear hb)
      | (go_at_call 18; (with_reducible refine (c1 _).mono ?_); rintro e w1 ⟨rfl, hb⟩; replace hB := bt hB hb; clear hb)
      | (go_at_call 18; (with_reducible refine (c2 _).mono ?_); rintro e w1 ⟨rfl, hb⟩; replace hB := bt hB hb; clear hb)
      | (go_at_call 18; (with_reducible refine (c3 _).mono ?_); rintro e w1 ⟨rfl, hb⟩; replace hB := bt hB hb; clear hb)
      | (go_at_call 18; (with_reducible refine (c4 _).mono ?_); rintro e w1 ⟨rfl, hb⟩; replace hB := bt hB hb; clear hb)
      | (go_at_call 18; (with_reducible refine (c5 _).mono ?_); rintro e w1 ⟨rfl, hb⟩; replace hB := bt hB hb; clear hb)
      | (go_at_call 18; (with_reducible refine (c6 _).mono ?_); rintro e w1 ⟨rfl, hb⟩; replace hB := bt hB hb; clear hb)
      | (go_at_call 18; (with_reducible refine (c7 _).mono ?_); rintro e w1 ⟨rfl, hb⟩; replace hB := bt hB hb; clear hb))
    go_ret
    exact ⟨by first | rfl | exact ret_true (by simp), hB⟩

set_option maxRecDepth 100000 in
set_option maxHeartbeats 4000000 in
theorem numTests_64u (a b : Int) (ha : 0 ≤ a ∧ a ≤ 18446744073709551615) (hb : 0 ≤ b ∧ b ≤ 18446744073709551615) (w : World) (hLaid : Laid w) :
    Calls Tryd.prog 7 #[.int .u64 a, .int .u64 b, .bool false, .bool false] w fun e w' => e = .returned (.bool true) ∧ Below w.heap.size w w' := by
  have hB := Below.refl w.heap.size w
  rcases (show a = b ∨ (a ≠ b ∧ a < b) ∨ (a ≠ b ∧ b < a) by
    by_cases he : a = b
    · exact Or.inl he
    · exact Or.inr (by omega)) with he | ⟨hne, hl⟩ | ⟨hne, hl⟩
  · subst he
    have c1 := ltwo_is 81 a a (x := 1) (by rw [show (81 : Int) = 81 + 0 from rfl, t_val64 0 a a (by decide), tst_eq]; rfl) ha ha
    have c2 := ltwo_is 84 a a (x := 0) (by rw [show (84 : Int) = 81 + 3 from rfl, t_val64 3 a a (by decide), tst_eq]; rfl) ha ha
    have c3 := ltwo_is 86 a a (x := 0) (by rw [show (86 : Int) = 81 + 5 from rfl, t_val64 5 a a (by decide), tst_eq]; rfl) ha ha
    have c4 := ltwo_is 82 a a (x := 0) (by rw [show (82 : Int) = 81 + 1 from rfl, t_val64 1 a a (by decide), tst_eq]; rfl) ha ha
    have c5 := ltwo_is 88 a a (x := 1) (by rw [show (88 : Int) = 81 + 7 from rfl, t_val64 7 a a (by decide), tst_eq]; rfl) ha ha
    have c6 := ltwo_is 90 a a (x := 1) (by rw [show (90 : Int) = 81 + 9 from rfl, t_val64 9 a a (by decide), tst_eq]; rfl) ha ha
    have c7 := ltwo_is 84 a a (x := 0) (by rw [show (84 : Int) = 81 + 3 from rfl, t_val64 3 a a (by decide), tst_eq]; rfl) ha ha
    have heb : (a == a) = true := by simp
    go_enter Tryd.func7, Tryd.ntmps7
    go_wp2_with (first
      | (go_at_call 12; (with_reducible refine (head_num _ hLaid).mono ?_); rintro e w1 ⟨rfl, hb⟩; replace hB := bt hB hb; clear hb)
      | (go_at_call 18; (with_reducible refine (c1 _).mono ?_); rintro e w1 ⟨rfl, hb⟩; replace hB := bt hB hb; clear hb)
      | (go_at_call 18; (with_reducible refine (c2 _).mono ?_); rintro e w1 ⟨rfl, hb⟩; replace hB := bt hB hb; clear hb)
      | (go_at_call 18; (with_reducible refine (c3 _).mono ?_); rintro e w1 ⟨rfl, hb⟩; replace hB := bt hB hb; clear hb)
      | (go_at_call 18; (with_reducible refine (c4 _).mono ?_); rintro e w1 ⟨rfl, hb⟩; replace hB := bt hB hb; clear hb)
      | (go_at_call 18; (with_reducible refine (c5 _).mono ?_); rintro e w1 ⟨rfl, hb⟩; replace hB := bt hB hb; clear hb)
      | (go_at_call 18; (with_reducible refine (c6 _).mono ?_); rintro e w1 ⟨rfl, hb⟩; replace hB := bt hB hb; clear hb)
      | (go_at_call 18; (with_reducible refine (c7 _).mono ?_); rintro e w1 ⟨rfl, hb⟩; replace hB := bt hB hb; clear hb))
    go_ret
    exact ⟨by first | rfl | exact ret_true (by simp), hB⟩
  · have c1 := ltwo_is 81 a b (x := 0) (by rw [show (81 : Int) = 81 + 0 from rfl, t_val64 0 a b (by decide), tst_ne 0 64 a b hne _ rfl]; rfl) ha hb
    have c2 := ltwo_is 84 a b (x := 1) (by rw [show (84 : Int) = 81 + 3 from rfl, t_val64 3 a b (by decide), tst_ne 3 64 a b hne true ((less_u 64 a b rfl).trans (decide_eq_true hl))]; rfl) ha hb
    have c3 := ltwo_is 86 a b (x := 0) (by rw [show (86 : Int) = 81 + 5 from rfl, t_val64 5 a b (by decide), tst_ne 5 64 a b hne true ((less_u 64 a b rfl).trans (decide_eq_true hl))]; rfl) ha hb
    have c4 := ltwo_is 82 a b (x := 1) (by rw [show (82 : Int) = 81 + 1 from rfl, t_val64 1 a b (by decide), tst_ne 1 64 a b hne _ rfl]; rfl) ha hb
    have c5 := ltwo_is 88 a b (x := 1) (by rw [show (88 : Int) = 81 + 7 from rfl, t_val64 7 a b (by decide), tst_ne 7 64 a b hne true ((less_u 64 a b rfl).trans (decide_eq_true hl))]; rfl) ha hb
    have c6 := ltwo_is 90 a b (x := 0) (by rw [show (90 : Int) = 81 + 9 from rfl, t_val64 9 a b (by decide), tst_ne 9 64 a b hne true ((less_u 64 a b rfl).trans (decide_eq_true hl))]; rfl) ha hb
    have c7 := ltwo_is 84 b a (x := 0) (by rw [show (84 : Int) = 81 + 3 from rfl, t_val64 3 b a (by decide), tst_ne 3 64 b a (Ne.symm hne) false ((less_u 64 b a rfl).trans (decide_eq_false (by omega)))]; rfl) hb ha
    have heb : (a == b) = false := by simpa using hne
    go_enter Tryd.func7, Tryd.ntmps7
    go_wp2_with (first
      | (go_at_call 12; (with_reducible refine (head_num _ hLaid).mono ?_); rintro e w1 ⟨rfl, hb⟩; replace hB := bt hB hb; clear hb)
      | (go_at_call 18; (with_reducible refine (c1 _).mono ?_); rintro e w1 ⟨rfl, hb⟩; replace hB := bt hB hb; clear hb)
      | (go_at_call 18; (with_reducible refine (c2 _).mono ?_); rintro e w1 ⟨rfl, hb⟩; replace hB := bt hB hb; clear hb)
      | (go_at_call 18; (with_reducible refine (c3 _).mono ?_); rintro e w1 ⟨rfl, hb⟩; replace hB := bt hB hb; clear hb)
      | (go_at_call 18; (with_reducible refine (c4 _).mono ?_); rintro e w1 ⟨rfl, hb⟩; replace hB := bt hB hb; clear hb)
      | (go_at_call 18; (with_reducible refine (c5 _).mono ?_); rintro e w1 ⟨rfl, hb⟩; replace hB := bt hB hb; clear hb)
      | (go_at_call 18; (with_reducible refine (c6 _).mono ?_); rintro e w1 ⟨rfl, hb⟩; replace hB := bt hB hb; clear hb)
      | (go_at_call 18; (with_reducible refine (c7 _).mono ?_); rintro e w1 ⟨rfl, hb⟩; replace hB := bt hB hb; clear hb))
    go_ret
    exact ⟨by first | rfl | exact ret_true (by simp), hB⟩
  · have c1 := ltwo_is 81 a b (x := 0) (by rw [show (81 : Int) = 81 + 0 from rfl, t_val64 0 a b (by decide), tst_ne 0 64 a b hne _ rfl]; rfl) ha hb
    have c2 := ltwo_is 84 a b (x := 0) (by rw [show (84 : Int) = 81 + 3 from rfl, t_val64 3 a b (by decide), tst_ne 3 64 a b hne false ((less_u 64 a b rfl).trans (decide_eq_false (by omega)))]; rfl) ha hb
    have c3 := ltwo_is 86 a b (x := 1) (by rw [show (86 : Int) = 81 + 5 from rfl, t_val64 5 a b (by decide), tst_ne 5 64 a b hne false ((less_u 64 a b rfl).trans (decide_eq_false (by omega)))]; rfl) ha hb
    have c4 := ltwo_is 82 a b (x := 1) (by rw [show (82 : Int) = 81 + 1 from rfl, t_val64 1 a b (by decide), tst_ne 1 64 a b hne _ rfl]; rfl) ha hb
    have c5 := ltwo_is 88 a b (x := 0) (by rw [show (88 : Int) = 81 + 7 from rfl, t_val64 7 a b (by decide), tst_ne 7 64 a b hne false ((less_u 64 a b rfl).trans (decide_eq_false (by omega)))]; rfl) ha hb
    have c6 := ltwo_is 90 a b (x := 1) (by rw [show (90 : Int) = 81 + 9 from rfl, t_val64 9 a b (by decide), tst_ne 9 64 a b hne false ((less_u 64 a b rfl).trans (decide_eq_false (by omega)))]; rfl) ha hb
    have c7 := ltwo_is 84 b a (x := 1) (by rw [show (84 : Int) = 81 + 3 from rfl, t_val64 3 b a (by decide), tst_ne 3 64 b a (Ne.symm hne) true ((less_u 64 b a rfl).trans (decide_eq_true hl))]; rfl) hb ha
    have heb : (a == b) = false := by simpa using hne
    go_enter Tryd.func7, Tryd.ntmps7
    go_wp2_with (first
      | (go_at_call 12; (with_reducible refine (head_num _ hLaid).mono ?_); rintro e w1 ⟨rfl, hb⟩; replace hB := bt hB hb; clear hb)
      | (go_at_call 18; (with_reducible refine (c1 _).mono ?_); rintro e w1 ⟨rfl, hb⟩; replace hB := bt hB hb; clear hb)
      | (go_at_call 18; (with_reducible refine (c2 _).mono ?_); rintro e w1 ⟨rfl, hb⟩; replace hB := bt hB hb; clear hb)
      | (go_at_call 18; (with_reducible refine (c3 _).mono ?_); rintro e w1 ⟨rfl, hb⟩; replace hB := bt hB hb; clear hb)
      | (go_at_call 18; (with_reducible refine (c4 _).mono ?_); rintro e w1 ⟨rfl, hb⟩; replace hB := bt hB hb; clear hb)
      | (go_at_call 18; (with_reducible refine (c5 _).mono ?_); rintro e w1 ⟨rfl, hb⟩; replace hB := bt hB hb; clear hb)
      | (go_at_call 18; (with_reducible refine (c6 _).mono ?_); rintro e w1 ⟨rfl, hb⟩; replace hB := bt hB hb; clear hb)
      | (go_at_call 18; (with_reducible refine (c7 _).mono ?_); rintro e w1 ⟨rfl, hb⟩; replace hB := bt hB hb; clear hb))
    go_ret
    exact ⟨by first | rfl | exact ret_true (by simp), hB⟩

theorem numTests_walk (a b : Int) (narrow sign : Bool) (ha0 : 0 ≤ a) (ha1 : a ≤ 18446744073709551615) (hb0 : 0 ≤ b) (hb1 : b ≤ 18446744073709551615) (w : World) (hLaid : Laid w) :
    Calls Tryd.prog 7 #[.int .u64 a, .int .u64 b, .bool narrow, .bool sign] w fun e w' => e = .returned (.bool true) ∧ Below w.heap.size w w' := by
  cases narrow <;> cases sign
  · exact numTests_64u a b ⟨ha0, ha1⟩ ⟨hb0, hb1⟩ w hLaid
  · exact numTests_64s a b ⟨ha0, ha1⟩ ⟨hb0, hb1⟩ w hLaid
  · exact numTests_32u a b ⟨ha0, ha1⟩ ⟨hb0, hb1⟩ w hLaid
  · exact numTests_32s a b ⟨ha0, ha1⟩ ⟨hb0, hb1⟩ w hLaid
end Go.Proofs.YtfbgejgapdpjcaaDoor
