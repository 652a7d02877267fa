/-
  The document's own answer to chapter 5, walked: a number, a byte, a text, a constant, a section. Contracts that the proofs call; no statement is proved here.
-/
import Derived.Test.YtpamchagidnijaaGreatDoorEncSpec
import Derived.Test.YtpamchagidnijaaGreatDoorLebRefPut
namespace Go.Proofs.YtpamchagidnijaaGreatDoor
open Go.RowKit
set_option linter.unusedVariables false

/-- Bytes as a text. -/
def bs (l : List UInt8) : ByteArray := ⟨l.toArray⟩
theorem bs_size (l : List UInt8) : (bs l).size = l.length := by simp [bs, ByteArray.size]
theorem bs_app (a b : List UInt8) : bs a ++ bs b = bs (a ++ b) := by
  apply ByteArray.ext
  rw [ByteArray.data_append]
  simp [bs]
theorem bs_of (s : ByteArray) : bs s.data.toList = s := by unfold bs; rw [Array.toArray_toList]
theorem bs_len (s : ByteArray) : s.data.toList.length = s.size := Array.length_toList

set_option maxRecDepth 100000 in
set_option maxHeartbeats 2000000 in
theorem ref5_num (n : Int) (h0 : 0 ≤ n) (h1 : n ≤ 9223372036854775807) (w : World) :
    Calls Tryz.prog 36 #[.int .i64 n] w fun e w' => e = .returned (.string (bs (putU n))) ∧ Below w.heap.size w w' := by
  have c := ref_put_u n h0 (by omega) w
  go_enter Tryz.func36, Tryz.ntmps36
  go_wp2_with (go_at_call 123; refine c.mono ?_; rintro e w1 ⟨rfl, hb⟩)
  go_ret
  exact ⟨rfl, hb⟩
set_option maxRecDepth 100000 in
set_option maxHeartbeats 2000000 in
theorem ref5_one (n : Int) (h0 : -9223372036854775808 ≤ n) (h1 : n ≤ 9223372036854775807) (w : World) :
    Calls Tryz.prog 39 #[.int .i64 n] w fun e w' => e = .returned (.string (bs (one5 n))) ∧ Below w.heap.size w w' := by
  have hu : IntKind.u8.wrap n = n % 256 := IntKind.wrap_u8 n
  obtain ⟨b, hb, hb0, hb1⟩ : ∃ b : Int, n % 256 = b ∧ 0 ≤ b ∧ b < 256 := ⟨_, rfl, by omega, by omega⟩
  rw [hb] at hu
  have hbb := byte_of hb0 hb1
  have hown : ∀ W : World, Own (W.alloc (.cells #[.int .u8 b] 5)) W.heap.size 5 (.slice (some ⟨W.heap.size, 0, none⟩) 1 1) [UInt8.ofNat b.toNat] := fun W => by
    have := World.ownsRow_lit (base := W.heap.size) (e := 5) (size := 1) W #[.int .u8 b] 1 (Nat.le_refl _) (by decide) rfl
    unfold Own
    rw [List.map_cons, List.map_nil, hbb]
    exact this
  have hcv := fun W : World => own_string (P := Tryz.prog) _ 46 9 5 W.heap.size _ _ _ Tryz.underlying46 Tryz.underlying5 Tryz.underlying9 (hown W)
  go_enter Tryz.func39, Tryz.ntmps39
  go_wp2
  go_ret
  refine ⟨by unfold one5; rw [hb]; rfl, (Below.refl _ _).alloc (Nat.le_refl _) _⟩
theorem text_bs (s : ByteArray) : bs (putU s.size) ++ s = bs (txt5 s.data.toList) := by
  unfold txt5
  rw [← bs_app, bs_of, bs_len]
set_option maxRecDepth 100000 in
set_option maxHeartbeats 2000000 in
theorem ref5_text (s : ByteArray) (hs : s.size ≤ 1152921504606846976) (w : World) :
    Calls Tryz.prog 35 #[.string s] w fun e w' => e = .returned (.string (bs (txt5 s.data.toList))) ∧ Below w.heap.size w w' := by
  have c := ref5_num s.size (by omega) (by omega) w
  have hl : (putU (s.size : Int)).length ≤ 10 := putU_len10 (by omega) (by omega)
  have h63 : ¬ 9223372036854775807 < (bs (putU s.size)).size + s.size := by rw [bs_size]; omega
  go_enter Tryz.func35, Tryz.ntmps35
  go_wp2_with (go_at_call 36; refine c.mono ?_; rintro e w1 ⟨rfl, hb⟩)
  go_ret
  exact ⟨by rw [text_bs]; rfl, hb⟩
end Go.Proofs.YtpamchagidnijaaGreatDoor

namespace Go.Proofs.YtpamchagidnijaaGreatDoor
open Go.RowKit

set_option maxRecDepth 100000 in
set_option maxHeartbeats 2000000 in
theorem ref5_const (kind n : Int) (hk : kind = 126 ∨ kind = 127) (h0 : -9223372036854775808 ≤ n) (h1 : n ≤ 9223372036854775807) (w : World) :
    Calls Tryz.prog 40 #[.int .i64 kind, .int .i64 n] w fun e w' => e = .returned (.string (bs (const5 kind n))) ∧ Below w.heap.size w w' := by
  have c1 := fun W => ref5_one (192 - kind) (by omega) (by omega) W
  have c2 : ∀ W, Calls Tryz.prog 126 #[.int .i64 n] W fun e w' => e = .returned (.string (bs (putS n))) ∧ Below W.heap.size W w' := fun W => ref_put_s n h0 h1 W
  have hl := putS_len10 h0 h1
  have s1 : ¬ 9223372036854775807 < (bs (one5 (192 - kind))).size + (bs (putS n)).size := by rw [bs_size, bs_size]; show ¬ _ < 1 + _; omega
  have s2 : ¬ 9223372036854775807 < (bs (one5 (192 - kind))).size + (bs (putS n)).size + 1 := by rw [bs_size, bs_size]; show ¬ _ < 1 + _ + 1; omega
  have he : bs (one5 (192 - kind)) ++ bs (putS n) ++ (⟨#[11]⟩ : ByteArray) = bs (const5 kind n) := by
    rw [show (⟨#[11]⟩ : ByteArray) = bs [11] from rfl, bs_app, bs_app]; rfl
  rcases hk with rfl | rfl
  all_goals
    simp only [Int.reduceSub] at c1 s1 s2 he
    go_enter Tryz.func40, Tryz.ntmps40
    go_wp2_with (first
      | (go_at_call 39; refine (c1 _).mono ?_; rintro e w1 ⟨rfl, hb1⟩)
      | (go_at_call 126; refine (c2 _).mono ?_; rintro e w2 ⟨rfl, hb2⟩))
    go_ret
    exact ⟨by first | rw [← he]; rfl | exact congrArg _ (congrArg _ he), hb1.trans (hb2.mono hb1.size)⟩
set_option maxRecDepth 100000 in
set_option maxHeartbeats 2000000 in
theorem ref5_section (id : Int) (hid : 0 ≤ id ∧ id ≤ 255) (n : Nat) (hn : n ≤ 1152921504606846976) (s : List UInt8) (hs : s.length ≤ 576460752303423488) (w : World) :
    Calls Tryz.prog 41 #[.int .i64 id, .int .i64 n, .string (bs s)] w fun e w' => e = .returned (.string (bs (sect5 id n s))) ∧ Below w.heap.size w w' := by
  by_cases h0 : n = 0
  · subst h0
    go_enter Tryz.func41, Tryz.ntmps41
    go_wp2
    go_ret
    exact ⟨rfl, Below.refl _ _⟩
  · have hne : ((n : Int) == 0) = false := beq_eq_false_iff_ne.2 (by omega)
    have c1 := fun W => ref5_num n (by omega) (by omega) W
    have c2 := fun W => ref5_one id (by omega) (by omega) W
    have hl := putU_len10 (n := (n : Int)) (by omega) (by omega)
    have c3 := fun W => ref5_text (bs (putU n) ++ bs s) (by rw [bs_app, bs_size, List.length_append]; omega) W
    have hb1 : (bs (putU n)).size ≤ 10 := by rw [bs_size]; exact hl
    have hb2 : (bs s).size ≤ 576460752303423488 := by rw [bs_size]; exact hs
    have hd : (bs (putU n) ++ bs s).data.toList = putU n ++ s := by rw [bs_app]; simp [bs]
    rw [hd] at c3
    have ht := txt5_len (s := putU n ++ s) (by rw [List.length_append]; omega)
    rw [List.length_append] at ht
    have hb3 : (bs (txt5 (putU n ++ s))).size ≤ 576460752303423600 := by rw [bs_size]; omega
    have hb4 : (bs (one5 id)).size = 1 := by rw [bs_size]; rfl
    have hb4' : (bs (one5 id)).size ≤ 1 := Nat.le_of_eq hb4
    clear hb4
    have s1 : ¬ 9223372036854775807 < (bs (putU n)).size + (bs s).size := by omega
    have s2 : ¬ 9223372036854775807 < (bs (one5 id)).size + (bs (txt5 (putU n ++ s))).size := by omega
    have he : bs (one5 id) ++ bs (txt5 (putU n ++ s)) = bs (sect5 id n s) := by unfold sect5; rw [if_neg h0, bs_app]
    go_enter Tryz.func41, Tryz.ntmps41
    go_wp2_with (first
      | (go_at_call 39; refine (c2 _).mono ?_; rintro e w1 ⟨rfl, hb1⟩)
      | (go_at_call 36; refine (c1 _).mono ?_; rintro e w2 ⟨rfl, hb2⟩)
      | (go_at_call 35; refine (c3 _).mono ?_; rintro e w3 ⟨rfl, hb3⟩))
    go_ret
    exact ⟨by rw [← he]; rfl, hb1.trans ((hb2.trans (hb3.mono hb2.size)).mono hb1.size)⟩
end Go.Proofs.YtpamchagidnijaaGreatDoor
