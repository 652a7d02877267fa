/-
  What one byte gives to a number (leb.bits at its four kinds), and leb.read's loops walked. No statement is proved here; these are the contracts that the proofs call.
-/
import Derived.Test.YthfipknfdnfalaaGreatDoorRows
import Derived.Test.YthfipknfdnfalaaGreatDoorKaLebMath
import Derived.WalkKit
import Derived.WalkSpells
import Derived.WalkLawsBesides
import Derived.Lib.Hide
namespace Go.Proofs.YthfipknfdnfalaaGreatDoor
open Go.RowKit
theorem mask127 {c : Int} (h₀ : 0 ≤ c) (h₁ : c ≤ 255) : bits .and .u8 c 127 = c % 128 := bits_mask .u8 8 (by decide) wraps_u8 7 (by decide) c h₀ (by omega)
theorem mask64 {c : Int} (h₀ : 0 ≤ c) (h₁ : c ≤ 255) : bits .and .u8 c 64 = if 64 ≤ c % 128 then 64 else 0 := by
  have h : ∀ x : Fin 256, bits .and .u8 (x.val : Int) 64 = if 64 ≤ (x.val : Int) % 128 then 64 else 0 := by decide +kernel
  have := h ⟨c.toNat, by omega⟩
  simpa [Int.toNat_of_nonneg h₀] using this
theorem size_from (s : ByteArray) (a : Nat) : (s.extract a s.size).size = s.size - a := by simp [ByteArray.size_extract]
theorem bytes_step (s : ByteArray) (a k : Nat) (h : k < (s.extract a s.size).size) : (s.extract a s.size).data.toList.drop k = (s.extract a s.size)[k] :: (s.extract a s.size).data.toList.drop (k + 1) := by
  rw [List.drop_eq_getElem_cons (by simpa using h)]
  rfl
theorem rd_over (K : IntKind) (p : Int → Int) (most k : Nat) (X : Int) (l : List UInt8) (h : ¬ k < most) : rd K p most k X l = none := by
  cases l <;> simp [rd, h]
def outOf (place : Int) : Option (Int × Nat) → Int × Int × Int
  | none => (0, 0, 2)
  | some (v, n) => (v, place + n, 0)
end Go.Proofs.YthfipknfdnfalaaGreatDoor
namespace Go.Proofs.YthfipknfdnfalaaGreatDoor
open Go.RowKit
set_option maxHeartbeats 400000 in
theorem bits_u32 (b : Int) (h0 : 0 ≤ b) (h1 : b ≤ 255) (w : World) :
    Calls Tryz.prog 327 #[.int .u8 b] w fun e w' => e = .returned (.int .u32 (usg b)) ∧ w = w' := by
  have hm : bits .and .u8 b 127 = usg b := mask127 h0 h1
  have hu := usg_bd (b := b)
  go_enter Tryz.func327, Tryz.ntmps327
  go_wp2
  go_ret
  exact ⟨rfl, rfl⟩
set_option maxHeartbeats 400000 in
theorem bits_i32 (b : Int) (h0 : 0 ≤ b) (h1 : b ≤ 255) (w : World) :
    Calls Tryz.prog 328 #[.int .u8 b] w fun e w' => e = .returned (.int .i32 (sgn b)) ∧ w = w' := by
  have hm := mask127 h0 h1
  have hn : IntKind.i32.signed = true := rfl
  have hx : bits BinOp.xor IntKind.i32 (-1) 0 = -1 := by decide
  by_cases h2 : b < 128
  · by_cases h3 : 64 ≤ b
    · have hs := sgn_yes h2 h3
      have h6 : bits .and .u8 b 64 = 64 := by rw [mask64 h0 h1, if_pos (by omega)]
      go_enter Tryz.func328, Tryz.ntmps328
      go_wp2
      go_ret
      exact ⟨rfl, rfl⟩
    · have hs := sgn_no (b := b) (Or.inl (by omega))
      have h6 : bits .and .u8 b 64 = 0 := by rw [mask64 h0 h1, if_neg (by omega)]
      go_enter Tryz.func328, Tryz.ntmps328
      go_wp2
      go_ret
      exact ⟨rfl, rfl⟩
  · have hs := sgn_no (b := b) (Or.inr (by omega))
    go_enter Tryz.func328, Tryz.ntmps328
    go_wp2
    go_ret
    exact ⟨rfl, rfl⟩
set_option maxHeartbeats 400000 in
theorem bits_i64 (b : Int) (h0 : 0 ≤ b) (h1 : b ≤ 255) (w : World) :
    Calls Tryz.prog 329 #[.int .u8 b] w fun e w' => e = .returned (.int .i64 (sgn b)) ∧ w = w' := by
  have hm := mask127 h0 h1
  have hn : IntKind.i64.signed = true := rfl
  have hx : bits BinOp.xor IntKind.i64 (-1) 0 = -1 := by decide
  by_cases h2 : b < 128
  · by_cases h3 : 64 ≤ b
    · have hs := sgn_yes h2 h3
      have h6 : bits .and .u8 b 64 = 64 := by rw [mask64 h0 h1, if_pos (by omega)]
      go_enter Tryz.func329, Tryz.ntmps329
      go_wp2
      go_ret
      exact ⟨rfl, rfl⟩
    · have hs := sgn_no (b := b) (Or.inl (by omega))
      have h6 : bits .and .u8 b 64 = 0 := by rw [mask64 h0 h1, if_neg (by omega)]
      go_enter Tryz.func329, Tryz.ntmps329
      go_wp2
      go_ret
      exact ⟨rfl, rfl⟩
  · have hs := sgn_no (b := b) (Or.inr (by omega))
    go_enter Tryz.func329, Tryz.ntmps329
    go_wp2
    go_ret
    exact ⟨rfl, rfl⟩
end Go.Proofs.YthfipknfdnfalaaGreatDoor
namespace Go.Proofs.YthfipknfdnfalaaGreatDoor
open Go.RowKit
set_option maxHeartbeats 400000 in
theorem read_u32_none (s : ByteArray) (at' most : Int) (h : at' < 0 ∨ (s.size : Int) < at') (w : World) :
    Calls Tryz.prog 290 #[.string s, .int .i64 at', .int .i64 most] w fun e w' => e = .returned (.tuple #[.int .u32 0, .int .i64 0, .int .i64 1]) ∧ w = w' := by
  by_cases h0 : at' < 0
  · go_enter Tryz.func290, Tryz.ntmps290
    go_wp2
    go_ret3
    exact ⟨rfl, rfl⟩
  · have h1 : (s.size : Int) < at' := by omega
    go_enter Tryz.func290, Tryz.ntmps290
    go_wp2
    go_ret3
    exact ⟨rfl, rfl⟩
set_option maxRecDepth 100000 in
set_option maxHeartbeats 1000000 in
theorem read_u32_walk (s : ByteArray) (a : Nat) (ha : a ≤ s.size) (hs : s.size ≤ maxLen) (w : World) :
    Calls Tryz.prog 290 #[.string s, .int .i64 a, .int .i64 5] w fun e w' => e = .returned (.tuple #[.int .u32 (outOf a (rd .u32 usg 5 0 0 (s.extract a s.size).data.toList)).1, .int .i64 (outOf a (rd .u32 usg 5 0 0 (s.extract a s.size).data.toList)).2.1, .int .i64 (outOf a (rd .u32 usg 5 0 0 (s.extract a s.size).data.toList)).2.2]) ∧ w = w' := by
  unfold maxLen at hs
  generalize hR : rd .u32 usg 5 0 0 (s.extract a s.size).data.toList = R
  have hR2 : R = rd .u32 usg 5 0 0 (s.extract a s.size).data.toList := hR.symm
  have HR := Lib.hid hR2
  clear hR hR2
  have hd1 : decide ((a : Int) < 0) = false := by simp
  have hd2 : decide (s.size < a) = false := by simp; omega
  go_enter Tryz.func290, Tryz.ntmps290
  go_wp2
  go_loop [6, 10] (fun n i => ∃ (k : Nat) (X : Int), k ≤ 5 ∧ k ≤ s.size - a ∧ i = .int .i64 k ∧ n = .int .u32 X ∧ Hid (R = rd .u32 usg 5 k X ((s.extract a s.size).data.toList.drop k))) (fun _ i => 5 - (intOf i).toNat)
  case atStart => exact ⟨0, 0, by omega, by omega, rfl, rfl, Lib.hid (by rw [List.drop_zero]; exact HR.out)⟩
  case round =>
    clear HR
    obtain ⟨k, X, hk, hk2, rfl, rfl, HK⟩ := hrel
    by_cases h1 : k < s.size - a
    · by_cases h5 : k < 5
      · have hsz : k < (s.extract a s.size).size := by rw [size_from]; exact h1
        have H1 := Lib.hid (bytes_step s a k hsz)
        have hc1 : (s.extract a s.size)[k].toNat < 256 := UInt8.toNat_lt _
        have e7 : (7 * (k : Int)).toNat = 7 * k := by omega
        go_wp2_with (go_at_call 327; refine (bits_u32 _ (by omega) (by omega) _).mono ?_; rintro e w' ⟨rfl, rfl⟩)
        · have ht : (IntKind.u32.wrap (usg (s.extract a s.size)[k].toNat * 2 ^ (7 * k)) / 2 ^ (7 * k) != usg (s.extract a s.size)[k].toNat) = true := by rw [IntKind.wrap_u32]; assumption
          go_ret3
          have hv : R = none := by rw [HK.out, H1.out]; exact rd_bad h5 ht
          exact ⟨by rw [hv]; rfl, rfl⟩
        · have ht : (IntKind.u32.wrap (usg (s.extract a s.size)[k].toNat * 2 ^ (7 * k)) / 2 ^ (7 * k) != usg (s.extract a s.size)[k].toNat) = false := by rw [IntKind.wrap_u32]; assumption
          have h8 : ((s.extract a s.size)[k].toNat : Int) < 128 := by assumption
          go_ret3
          have hv := (HK.out.trans (congrArg (rd .u32 usg 5 k X) H1.out)).trans (rd_end h5 ht h8)
          exact ⟨by rw [hv, IntKind.wrap_u32]; simp only [outOf, Int.natCast_add, Int.add_assoc]; rfl, rfl⟩
        · have ht : (IntKind.u32.wrap (usg (s.extract a s.size)[k].toNat * 2 ^ (7 * k)) / 2 ^ (7 * k) != usg (s.extract a s.size)[k].toNat) = false := by rw [IntKind.wrap_u32]; assumption
          have h8 : 128 ≤ ((s.extract a s.size)[k].toNat : Int) := by assumption
          have hn := (HK.out.trans (congrArg (rd .u32 usg 5 k X) H1.out)).trans (rd_on h5 ht h8)
          have HN := Lib.hid hn
          clear hn
          go_round
          case rel => exact ⟨k + 1, _, by omega, by omega, by go_num, rfl, Lib.hid (by rw [HN.out, IntKind.wrap_u32])⟩
          case measure => simp [intOf]; omega
      · have hv : R = none := by rw [HK.out]; exact rd_over _ _ _ _ _ _ h5
        go_wp2
        go_ret3
        exact ⟨rfl, rfl⟩
    · have hv : R = none := by rw [HK.out, List.drop_eq_nil_of_le (by simp; omega)]; rfl
      go_wp2
      go_ret3
      exact ⟨rfl, rfl⟩
end Go.Proofs.YthfipknfdnfalaaGreatDoor
namespace Go.Proofs.YthfipknfdnfalaaGreatDoor
open Go.RowKit
set_option maxHeartbeats 400000 in
theorem read_i32_none (s : ByteArray) (at' most : Int) (h : at' < 0 ∨ (s.size : Int) < at') (w : World) :
    Calls Tryz.prog 291 #[.string s, .int .i64 at', .int .i64 most] w fun e w' => e = .returned (.tuple #[.int .i32 0, .int .i64 0, .int .i64 1]) ∧ w = w' := by
  by_cases h0 : at' < 0
  · go_enter Tryz.func291, Tryz.ntmps291
    go_wp2
    go_ret3
    exact ⟨rfl, rfl⟩
  · have h1 : (s.size : Int) < at' := by omega
    go_enter Tryz.func291, Tryz.ntmps291
    go_wp2
    go_ret3
    exact ⟨rfl, rfl⟩
set_option maxRecDepth 100000 in
set_option maxHeartbeats 1000000 in
theorem read_i32_walk (s : ByteArray) (a : Nat) (ha : a ≤ s.size) (hs : s.size ≤ maxLen) (w : World) :
    Calls Tryz.prog 291 #[.string s, .int .i64 a, .int .i64 5] w fun e w' => e = .returned (.tuple #[.int .i32 (outOf a (rd .i32 sgn 5 0 0 (s.extract a s.size).data.toList)).1, .int .i64 (outOf a (rd .i32 sgn 5 0 0 (s.extract a s.size).data.toList)).2.1, .int .i64 (outOf a (rd .i32 sgn 5 0 0 (s.extract a s.size).data.toList)).2.2]) ∧ w = w' := by
  unfold maxLen at hs
  generalize hR : rd .i32 sgn 5 0 0 (s.extract a s.size).data.toList = R
  have hR2 : R = rd .i32 sgn 5 0 0 (s.extract a s.size).data.toList := hR.symm
  have HR := Lib.hid hR2
  clear hR hR2
  have hd1 : decide ((a : Int) < 0) = false := by simp
  have hd2 : decide (s.size < a) = false := by simp; omega
  go_enter Tryz.func291, Tryz.ntmps291
  go_wp2
  go_loop [6, 10] (fun n i => ∃ (k : Nat) (X : Int), k ≤ 5 ∧ k ≤ s.size - a ∧ i = .int .i64 k ∧ n = .int .i32 X ∧ Hid (R = rd .i32 sgn 5 k X ((s.extract a s.size).data.toList.drop k))) (fun _ i => 5 - (intOf i).toNat)
  case atStart => exact ⟨0, 0, by omega, by omega, rfl, rfl, Lib.hid (by rw [List.drop_zero]; exact HR.out)⟩
  case round =>
    clear HR
    obtain ⟨k, X, hk, hk2, rfl, rfl, HK⟩ := hrel
    by_cases h1 : k < s.size - a
    · by_cases h5 : k < 5
      · have hsz : k < (s.extract a s.size).size := by rw [size_from]; exact h1
        have H1 := Lib.hid (bytes_step s a k hsz)
        have hc1 : (s.extract a s.size)[k].toNat < 256 := UInt8.toNat_lt _
        have e7 : (7 * (k : Int)).toNat = 7 * k := by omega
        go_wp2_with (go_at_call 328; refine (bits_i32 _ (by omega) (by omega) _).mono ?_; rintro e w' ⟨rfl, rfl⟩)
        · have ht : (IntKind.i32.wrap (sgn (s.extract a s.size)[k].toNat * 2 ^ (7 * k)) / 2 ^ (7 * k) != sgn (s.extract a s.size)[k].toNat) = true := by rw [IntWalk.i32_left]; assumption
          go_ret3
          have hv : R = none := by rw [HK.out, H1.out]; exact rd_bad h5 ht
          exact ⟨by rw [hv]; rfl, rfl⟩
        · have ht : (IntKind.i32.wrap (sgn (s.extract a s.size)[k].toNat * 2 ^ (7 * k)) / 2 ^ (7 * k) != sgn (s.extract a s.size)[k].toNat) = false := by rw [IntWalk.i32_left]; assumption
          have h8 : ((s.extract a s.size)[k].toNat : Int) < 128 := by assumption
          go_ret3
          have hv := (HK.out.trans (congrArg (rd .i32 sgn 5 k X) H1.out)).trans (rd_end h5 ht h8)
          exact ⟨by rw [hv, IntWalk.i32_left]; simp only [outOf, Int.natCast_add, Int.add_assoc]; rfl, rfl⟩
        · have ht : (IntKind.i32.wrap (sgn (s.extract a s.size)[k].toNat * 2 ^ (7 * k)) / 2 ^ (7 * k) != sgn (s.extract a s.size)[k].toNat) = false := by rw [IntWalk.i32_left]; assumption
          have h8 : 128 ≤ ((s.extract a s.size)[k].toNat : Int) := by assumption
          have hn := (HK.out.trans (congrArg (rd .i32 sgn 5 k X) H1.out)).trans (rd_on h5 ht h8)
          have HN := Lib.hid hn
          clear hn
          go_round
          case rel => exact ⟨k + 1, _, by omega, by omega, by go_num, rfl, Lib.hid (by rw [HN.out, IntWalk.i32_left])⟩
          case measure => simp [intOf]; omega
      · have hv : R = none := by rw [HK.out]; exact rd_over _ _ _ _ _ _ h5
        go_wp2
        go_ret3
        exact ⟨rfl, rfl⟩
    · have hv : R = none := by rw [HK.out, List.drop_eq_nil_of_le (by simp; omega)]; rfl
      go_wp2
      go_ret3
      exact ⟨rfl, rfl⟩
end Go.Proofs.YthfipknfdnfalaaGreatDoor
namespace Go.Proofs.YthfipknfdnfalaaGreatDoor
open Go.RowKit
set_option maxHeartbeats 400000 in
theorem read_i64_none (s : ByteArray) (at' most : Int) (h : at' < 0 ∨ (s.size : Int) < at') (w : World) :
    Calls Tryz.prog 292 #[.string s, .int .i64 at', .int .i64 most] w fun e w' => e = .returned (.tuple #[.int .i64 0, .int .i64 0, .int .i64 1]) ∧ w = w' := by
  by_cases h0 : at' < 0
  · go_enter Tryz.func292, Tryz.ntmps292
    go_wp2
    go_ret3
    exact ⟨rfl, rfl⟩
  · have h1 : (s.size : Int) < at' := by omega
    go_enter Tryz.func292, Tryz.ntmps292
    go_wp2
    go_ret3
    exact ⟨rfl, rfl⟩
set_option maxRecDepth 100000 in
set_option maxHeartbeats 1000000 in
theorem read_i64_walk (s : ByteArray) (a : Nat) (ha : a ≤ s.size) (hs : s.size ≤ maxLen) (w : World) :
    Calls Tryz.prog 292 #[.string s, .int .i64 a, .int .i64 10] w fun e w' => e = .returned (.tuple #[.int .i64 (outOf a (rd .i64 sgn 10 0 0 (s.extract a s.size).data.toList)).1, .int .i64 (outOf a (rd .i64 sgn 10 0 0 (s.extract a s.size).data.toList)).2.1, .int .i64 (outOf a (rd .i64 sgn 10 0 0 (s.extract a s.size).data.toList)).2.2]) ∧ w = w' := by
  unfold maxLen at hs
  generalize hR : rd .i64 sgn 10 0 0 (s.extract a s.size).data.toList = R
  have hR2 : R = rd .i64 sgn 10 0 0 (s.extract a s.size).data.toList := hR.symm
  have HR := Lib.hid hR2
  clear hR hR2
  have hd1 : decide ((a : Int) < 0) = false := by simp
  have hd2 : decide (s.size < a) = false := by simp; omega
  go_enter Tryz.func292, Tryz.ntmps292
  go_wp2
  go_loop [6, 10] (fun n i => ∃ (k : Nat) (X : Int), k ≤ 10 ∧ k ≤ s.size - a ∧ i = .int .i64 k ∧ n = .int .i64 X ∧ Hid (R = rd .i64 sgn 10 k X ((s.extract a s.size).data.toList.drop k))) (fun _ i => 10 - (intOf i).toNat)
  case atStart => exact ⟨0, 0, by omega, by omega, rfl, rfl, Lib.hid (by rw [List.drop_zero]; exact HR.out)⟩
  case round =>
    clear HR
    obtain ⟨k, X, hk, hk2, rfl, rfl, HK⟩ := hrel
    by_cases h1 : k < s.size - a
    · by_cases h5 : k < 10
      · have hsz : k < (s.extract a s.size).size := by rw [size_from]; exact h1
        have H1 := Lib.hid (bytes_step s a k hsz)
        have hc1 : (s.extract a s.size)[k].toNat < 256 := UInt8.toNat_lt _
        have e7 : (7 * (k : Int)).toNat = 7 * k := by omega
        go_wp2_with (go_at_call 329; refine (bits_i64 _ (by omega) (by omega) _).mono ?_; rintro e w' ⟨rfl, rfl⟩)
        · have ht : (IntKind.i64.wrap (sgn (s.extract a s.size)[k].toNat * 2 ^ (7 * k)) / 2 ^ (7 * k) != sgn (s.extract a s.size)[k].toNat) = true := by rw [IntWalk.i64_left]; assumption
          go_ret3
          have hv : R = none := by rw [HK.out, H1.out]; exact rd_bad h5 ht
          exact ⟨by rw [hv]; rfl, rfl⟩
        · have ht : (IntKind.i64.wrap (sgn (s.extract a s.size)[k].toNat * 2 ^ (7 * k)) / 2 ^ (7 * k) != sgn (s.extract a s.size)[k].toNat) = false := by rw [IntWalk.i64_left]; assumption
          have h8 : ((s.extract a s.size)[k].toNat : Int) < 128 := by assumption
          go_ret3
          have hv := (HK.out.trans (congrArg (rd .i64 sgn 10 k X) H1.out)).trans (rd_end h5 ht h8)
          exact ⟨by rw [hv, IntWalk.i64_left]; simp only [outOf, Int.natCast_add, Int.add_assoc]; rfl, rfl⟩
        · have ht : (IntKind.i64.wrap (sgn (s.extract a s.size)[k].toNat * 2 ^ (7 * k)) / 2 ^ (7 * k) != sgn (s.extract a s.size)[k].toNat) = false := by rw [IntWalk.i64_left]; assumption
          have h8 : 128 ≤ ((s.extract a s.size)[k].toNat : Int) := by assumption
          have hn := (HK.out.trans (congrArg (rd .i64 sgn 10 k X) H1.out)).trans (rd_on h5 ht h8)
          have HN := Lib.hid hn
          clear hn
          go_round
          case rel => exact ⟨k + 1, _, by omega, by omega, by go_num, rfl, Lib.hid (by rw [HN.out, IntWalk.i64_left])⟩
          case measure => simp [intOf]; omega
      · have hv : R = none := by rw [HK.out]; exact rd_over _ _ _ _ _ _ h5
        go_wp2
        go_ret3
        exact ⟨rfl, rfl⟩
    · have hv : R = none := by rw [HK.out, List.drop_eq_nil_of_le (by simp; omega)]; rfl
      go_wp2
      go_ret3
      exact ⟨rfl, rfl⟩
end Go.Proofs.YthfipknfdnfalaaGreatDoor
namespace Go.Proofs.YthfipknfdnfalaaGreatDoor
open Go.RowKit
theorem drop_extract (s : ByteArray) (a : Nat) : (s.extract a s.size).data.toList = s.data.toList.drop a := by
  simp [ByteArray.data_extract]
  exact List.take_of_length_le (by simp)
theorem ans_none {K : IntKind} {p : Int → Int} {most : Nat} {l : List UInt8} {place : Int} (h : place < 0 ∨ (l.length : Int) < place) : ans K p most l place = (0, 0, 1) := by
  unfold ans; rw [if_pos h]
theorem ans_out {K : IntKind} {p : Int → Int} {most : Nat} (st : Step K p most) (s : ByteArray) (a : Nat) (ha : a ≤ s.size) :
    ans K p most s.data.toList a = outOf a (rd K p most 0 0 (s.extract a s.size).data.toList) := by
  unfold ans
  rw [if_neg (by simp; omega), rd_dec st, drop_extract, Int.toNat_natCast]
  cases fit K most (dec p (s.data.toList.drop a)) with
  | none => rfl
  | some x => rfl
theorem read_u32_any (s : ByteArray) (place : Int) (hs : s.size ≤ maxLen) (w : World) :
    Calls Tryz.prog 290 #[.string s, .int .i64 place, .int .i64 5] w fun e w' => e = .returned (.tuple #[.int .u32 (ans .u32 usg 5 s.data.toList place).1, .int .i64 (ans .u32 usg 5 s.data.toList place).2.1, .int .i64 (ans .u32 usg 5 s.data.toList place).2.2]) ∧ w = w' := by
  by_cases h : place < 0 ∨ (s.size : Int) < place
  · rw [ans_none (by simpa using h)]
    exact read_u32_none s place 5 h w
  · obtain ⟨a, rfl⟩ := Int.eq_ofNat_of_zero_le (show 0 ≤ place by omega)
    rw [ans_out step_u32 s a (by omega)]
    exact read_u32_walk s a (by omega) hs w
set_option maxHeartbeats 400000 in
theorem get_u32 (s : ByteArray) (place : Int) (hs : s.size ≤ maxLen) (w : World) :
    Calls Tryz.prog 223 #[.string s, .int .i64 place] w fun e w' => e = .returned (.tuple #[.int .u32 (ans .u32 usg 5 s.data.toList place).1, .int .i64 (ans .u32 usg 5 s.data.toList place).2.1, .int .i64 (ans .u32 usg 5 s.data.toList place).2.2]) ∧ w = w' := by
  go_enter Tryz.func223, Tryz.ntmps223
  go_wp2_with (go_at_call 290; refine (read_u32_any _ _ hs _).mono ?_; rintro e w' ⟨rfl, rfl⟩)
  go_ret3
  exact ⟨rfl, rfl⟩
theorem read_i32_any (s : ByteArray) (place : Int) (hs : s.size ≤ maxLen) (w : World) :
    Calls Tryz.prog 291 #[.string s, .int .i64 place, .int .i64 5] w fun e w' => e = .returned (.tuple #[.int .i32 (ans .i32 sgn 5 s.data.toList place).1, .int .i64 (ans .i32 sgn 5 s.data.toList place).2.1, .int .i64 (ans .i32 sgn 5 s.data.toList place).2.2]) ∧ w = w' := by
  by_cases h : place < 0 ∨ (s.size : Int) < place
  · rw [ans_none (by simpa using h)]
    exact read_i32_none s place 5 h w
  · obtain ⟨a, rfl⟩ := Int.eq_ofNat_of_zero_le (show 0 ≤ place by omega)
    rw [ans_out step_i32 s a (by omega)]
    exact read_i32_walk s a (by omega) hs w
set_option maxHeartbeats 400000 in
theorem get_i32 (s : ByteArray) (place : Int) (hs : s.size ≤ maxLen) (w : World) :
    Calls Tryz.prog 225 #[.string s, .int .i64 place] w fun e w' => e = .returned (.tuple #[.int .i32 (ans .i32 sgn 5 s.data.toList place).1, .int .i64 (ans .i32 sgn 5 s.data.toList place).2.1, .int .i64 (ans .i32 sgn 5 s.data.toList place).2.2]) ∧ w = w' := by
  go_enter Tryz.func225, Tryz.ntmps225
  go_wp2_with (go_at_call 291; refine (read_i32_any _ _ hs _).mono ?_; rintro e w' ⟨rfl, rfl⟩)
  go_ret3
  exact ⟨rfl, rfl⟩
theorem read_i64_any (s : ByteArray) (place : Int) (hs : s.size ≤ maxLen) (w : World) :
    Calls Tryz.prog 292 #[.string s, .int .i64 place, .int .i64 10] w fun e w' => e = .returned (.tuple #[.int .i64 (ans .i64 sgn 10 s.data.toList place).1, .int .i64 (ans .i64 sgn 10 s.data.toList place).2.1, .int .i64 (ans .i64 sgn 10 s.data.toList place).2.2]) ∧ w = w' := by
  by_cases h : place < 0 ∨ (s.size : Int) < place
  · rw [ans_none (by simpa using h)]
    exact read_i64_none s place 10 h w
  · obtain ⟨a, rfl⟩ := Int.eq_ofNat_of_zero_le (show 0 ≤ place by omega)
    rw [ans_out step_i64 s a (by omega)]
    exact read_i64_walk s a (by omega) hs w
set_option maxHeartbeats 400000 in
theorem get_i64 (s : ByteArray) (place : Int) (hs : s.size ≤ maxLen) (w : World) :
    Calls Tryz.prog 227 #[.string s, .int .i64 place] w fun e w' => e = .returned (.tuple #[.int .i64 (ans .i64 sgn 10 s.data.toList place).1, .int .i64 (ans .i64 sgn 10 s.data.toList place).2.1, .int .i64 (ans .i64 sgn 10 s.data.toList place).2.2]) ∧ w = w' := by
  go_enter Tryz.func227, Tryz.ntmps227
  go_wp2_with (go_at_call 292; refine (read_i64_any _ _ hs _).mono ?_; rintro e w' ⟨rfl, rfl⟩)
  go_ret3
  exact ⟨rfl, rfl⟩
end Go.Proofs.YthfipknfdnfalaaGreatDoor
namespace Go.Proofs.YthfipknfdnfalaaGreatDoor
open Go.RowKit
theorem bytes_at (s : ByteArray) (i : Nat) (h : i < s.size) : s.data.toList.drop i = s[i] :: s.data.toList.drop (i + 1) := by
  rw [List.drop_eq_getElem_cons (by simpa using h)]
  rfl
set_option maxRecDepth 100000 in
set_option maxHeartbeats 1000000 in
theorem ref_size (s : ByteArray) (a most : Nat) (ha : a ≤ s.size) (hs : s.size ≤ maxLen) (hm : most ≤ 100) (w : World) :
    Calls Tryz.prog 288 #[.string s, .int .i64 a, .int .i64 most] w fun e w' => e = .returned (.int .i64 (szr most 0 (s.data.toList.drop a) : Nat)) ∧ w = w' := by
  unfold maxLen at hs
  generalize hR : szr most 0 (s.data.toList.drop a) = R
  have HR : Hid (R = szr most 0 (s.data.toList.drop a)) := Lib.hid hR.symm
  clear hR
  go_enter Tryz.func288, Tryz.ntmps288
  go_wp2
  go_loop [7] (fun v => ∃ i : Nat, i ≤ most ∧ a + i ≤ s.size ∧ v = .int .i64 i ∧ Hid (R = szr most i (s.data.toList.drop (a + i)))) (fun v => most - (intOf v).toNat)
  case atStart => exact ⟨0, by omega, by omega, rfl, HR⟩
  case round =>
    clear HR
    obtain ⟨i, hi, hai, rfl, HK⟩ := hrel
    by_cases h1 : i < most
    · by_cases h2 : a + i < s.size
      · have H1 := Lib.hid (bytes_at s (a + i) h2)
        have hc := UInt8.toNat_lt s[a + i]
        have e1 : ((a : Int) + (i : Int)).toNat = a + i := by omega
        go_wp2
        · have h8 : (s[a + i].toNat : Int) < 128 := by assumption
          go_ret
          have hv := (HK.out.trans (congrArg (szr most i) H1.out)).trans (szr_last h1 h8)
          exact ⟨by rw [hv]; rfl, rfl⟩
        · have h8 : 128 ≤ (s[a + i].toNat : Int) := by assumption
          have HN := Lib.hid ((HK.out.trans (congrArg (szr most i) H1.out)).trans (szr_more h1 h8))
          go_round
          case rel => exact ⟨i + 1, by omega, by omega, by go_num, HN⟩
          case measure => simp [intOf]; omega
      · have hv : R = 0 := by rw [HK.out, List.drop_eq_nil_of_le (by simp; omega)]; rfl
        have HV := Lib.hid hv
        clear hv
        go_wp2
        go_ret
        exact ⟨by rw [HV.out]; rfl, rfl⟩
    · have HV : Hid (R = 0) := Lib.hid (by rw [HK.out]; exact szr_end h1)
      go_wp2
      go_ret
      exact ⟨by rw [HV.out]; rfl, rfl⟩
theorem ret_int' {k : IntKind} {a b : Int} (h : a = b) : Ending.returned (.int k a) = .returned (.int k b) := by rw [h]
theorem and_one (x : Int) (h0 : 0 ≤ x) (h1 : x < 256) : bits .and .i64 x 1 = x % 2 := by
  have h : ∀ y : Fin 256, bits .and .i64 (y.val : Int) 1 = (y.val : Int) % 2 := by decide +kernel
  have := h ⟨x.toNat, by omega⟩
  simpa [Int.toNat_of_nonneg h0] using this
theorem bit_at (s : ByteArray) (a n : Nat) (h : a + n / 7 < s.size) : bitOf (s.data.toList.drop a) n = (s[a + n / 7].toNat : Int) / 2 ^ (n % 7) % 2 := by
  unfold bitOf
  have e : (s.data.toList.drop a).getD (n / 7) 0 = s[a + n / 7] := by
    rw [List.getD_eq_getElem?_getD, List.getElem?_drop, List.getElem?_eq_getElem (by simpa using h)]
    rfl
  rw [e]
set_option maxRecDepth 100000 in
set_option maxHeartbeats 1000000 in
theorem ref_bit (s : ByteArray) (a n : Nat) (h : a + n / 7 < s.size) (hs : s.size ≤ maxLen) (w : World) :
    Calls Tryz.prog 289 #[.string s, .int .i64 a, .int .i64 n] w fun e w' => e = .returned (.int .i64 (bitOf (s.data.toList.drop a) n)) ∧ w = w' := by
  rw [bit_at s a n h]
  unfold maxLen at hs
  have hc := UInt8.toNat_lt s[a + n / 7]
  go_enter Tryz.func289, Tryz.ntmps289
  have hq : 0 ≤ (s[a + n / 7].toNat : Int) / 2 ^ (n % 7) ∧ (s[a + n / 7].toNat : Int) / 2 ^ (n % 7) < 256 := by
    have h1 : (0 : Int) ≤ (s[a + n / 7].toNat : Int) / 2 ^ (n % 7) := Int.ediv_nonneg (by omega) (Int.le_of_lt (pow2_pos _))
    have h2 := Int.ediv_le_self (a := (s[a + n / 7].toNat : Int)) (2 ^ (n % 7)) (by omega)
    omega
  have hand := and_one _ hq.1 hq.2
  go_wp2
  go_ret
  exact ⟨ret_int' rfl, rfl⟩
end Go.Proofs.YthfipknfdnfalaaGreatDoor
namespace Go.Proofs.YthfipknfdnfalaaGreatDoor
open Go.RowKit
def chk (v want : Int) : Nat → Nat → Bool
  | 0, _ => true
  | n + 1, i => if v / 2 ^ i % 2 = want then chk v want n (i + 1) else false
def takeOut (n place : Int) : Bool → Int × Int × Int
  | true => (n, place, 0)
  | false => (0, 0, 2)
theorem chk_yes {v want : Int} {n i : Nat} (hn : 0 < n) (h : v / 2 ^ i % 2 = want) : chk v want n i = chk v want (n - 1) (i + 1) := by
  obtain ⟨m, rfl⟩ : ∃ m, n = m + 1 := ⟨n - 1, by omega⟩
  simp [chk, h]
theorem chk_no {v want : Int} {n i : Nat} (hn : 0 < n) (h : ¬ v / 2 ^ i % 2 = want) : chk v want n i = false := by
  obtain ⟨m, rfl⟩ : ∃ m, n = m + 1 := ⟨n - 1, by omega⟩
  simp [chk, h]
theorem dec_len (p : Int → Int) : ∀ (l : List UInt8) (v : Int) (k : Nat), dec p l = some (v, k) → k ≤ l.length
  | [], _, _, h => by simp [dec] at h
  | b :: l, v, k, h => by
    simp only [dec] at h
    by_cases h8 : b.toNat < 128
    · rw [if_pos h8] at h
      simp only [Option.some.injEq, Prod.mk.injEq] at h
      simp; omega
    · rw [if_neg h8] at h
      cases hd : dec p l with
      | none => simp [hd] at h
      | some x =>
        obtain ⟨v', n⟩ := x
        rw [hd] at h
        simp only [Option.map_some, Option.some.injEq, Prod.mk.injEq] at h
        have := dec_len p l v' n hd
        simp; omega
theorem or_pow {v X : Int} {i : Nat} (hi : i < 64) (hX : X = v % 2 ^ i) (h1 : v / 2 ^ i % 2 = 1) : bits .or .u64 X (2 ^ i % 18446744073709551616) = v % 2 ^ (i + 1) := by
  have hp := pow2_pos i
  have hle : (2 : Int) ^ i ≤ 2 ^ 63 := by exact_mod_cast Nat.pow_le_pow_right (by decide) (by omega)
  have e : (2 : Int) ^ i % 18446744073709551616 = 2 ^ i := Int.emod_eq_of_lt (by omega) (by omega)
  have h0 : 0 ≤ X := by rw [hX]; exact Int.emod_nonneg v (Int.ne_of_gt hp)
  have hl : X < 2 ^ i := by rw [hX]; exact Int.emod_lt_of_pos v hp
  rw [e, or_add .u64 wr_u64 i (by simp [IntKind.bits]; omega) X (2 ^ i) h0 hl (by simp), low_succ v i, h1, ← hX, IntKind.wrap_u64]
  omega
theorem skip_pow {v X : Int} {i : Nat} (hX : X = v % 2 ^ i) (h1 : v / 2 ^ i % 2 = 0) : X = v % 2 ^ (i + 1) := by
  rw [low_succ v i, h1, hX]; omega
theorem and_one_u (x : Int) (h0 : 0 ≤ x) (h1 : x < 2) : bits .and .u64 x 1 = x := by
  rcases (show x = 0 ∨ x = 1 by omega) with rfl | rfl <;> decide
theorem top_bit {v X : Int} {n : Nat} (hX : X = v % 2 ^ (n + 1)) : X / 2 ^ n = v / 2 ^ n % 2 := by
  have hp := pow2_pos n
  rw [hX, low_succ v n, Int.add_mul_ediv_right _ _ (Int.ne_of_gt hp), Int.ediv_eq_zero_of_lt (Int.emod_nonneg v (Int.ne_of_gt hp)) (Int.emod_lt_of_pos v hp)]
  omega
set_option maxHeartbeats 400000 in
theorem ref_take_place (s : ByteArray) (place bs : Int) (sg : Bool) (h : place < 0 ∨ (s.size : Int) < place) (w : World) :
    Calls Tryz.prog 220 #[.string s, .int .i64 place, .int .i64 bs, .bool sg] w fun e w' => e = .returned (.tuple #[.int .u64 0, .int .i64 0, .int .i64 1]) ∧ w = w' := by
  by_cases h0 : place < 0
  · go_enter Tryz.func220, Tryz.ntmps220
    go_wp2
    go_ret3
    exact ⟨rfl, rfl⟩
  · have h1 : (s.size : Int) < place := by omega
    go_enter Tryz.func220, Tryz.ntmps220
    go_wp2
    go_ret3
    exact ⟨rfl, rfl⟩
set_option maxHeartbeats 400000 in
theorem ref_take_none (s : ByteArray) (a bs most : Nat) (sg : Bool) (ha : a ≤ s.size) (hs : s.size ≤ maxLen) (hbs : bs ≤ 64) (hm : most = (bs + 6) / 7) (h : szr most 0 (s.data.toList.drop a) = 0) (w : World) :
    Calls Tryz.prog 220 #[.string s, .int .i64 a, .int .i64 bs, .bool sg] w fun e w' => e = .returned (.tuple #[.int .u64 0, .int .i64 0, .int .i64 2]) ∧ w = w' := by
  have c1 := ref_size s a most ha hs (by omega)
  rw [h] at c1
  have em : ((bs : Int) + 6) / 7 = (most : Int) := by omega
  have hd1 : decide (s.size < a) = false := by simp; omega
  clear h hm
  unfold maxLen at hs
  go_enter Tryz.func220, Tryz.ntmps220
  go_wp2_with (first
    | (go_at_call 288; (with_reducible refine (c1 _).mono ?_); rintro e w' ⟨rfl, rfl⟩))
  go_ret3
  exact ⟨rfl, rfl⟩
end Go.Proofs.YthfipknfdnfalaaGreatDoor
namespace Go.Proofs.YthfipknfdnfalaaGreatDoor
theorem chk_u32 {v : Int} {k : Nat} (hk : k ≤ 5) (h : 0 ≤ v ∧ v < 2 ^ (7 * k)) : chk v 0 (7 * k - 32) 32 = decide (v ≤ 4294967295) := by
  rcases (show k ≤ 4 ∨ k = 5 by omega) with hk4 | rfl
  · have hp : (2 : Int) ^ (7 * k) ≤ 2 ^ 28 := by exact_mod_cast Nat.pow_le_pow_right (by decide) (by omega)
    rw [show 7 * k - 32 = 0 by omega]
    have : v ≤ 4294967295 := by omega
    simp [chk, this]
  · have h2 : v < 34359738368 := h.2
    by_cases hv : v ≤ 4294967295
    · simp only [hv, decide_true]
      simp [chk]
      omega
    · simp only [hv, decide_false]
      simp [chk]
      omega
theorem chk_i32 {v : Int} {k : Nat} (hk : k ≤ 5) (h : -(2 ^ (7 * k)) ≤ 2 * v ∧ 2 * v < 2 ^ (7 * k)) : chk v (v / 2 ^ 31 % 2) (7 * k - 32) 32 = decide (-2147483648 ≤ v ∧ v ≤ 2147483647) := by
  rcases (show k ≤ 4 ∨ k = 5 by omega) with hk4 | rfl
  · have hp : (2 : Int) ^ (7 * k) ≤ 2 ^ 28 := by exact_mod_cast Nat.pow_le_pow_right (by decide) (by omega)
    rw [show 7 * k - 32 = 0 by omega]
    have : -2147483648 ≤ v ∧ v ≤ 2147483647 := by omega
    simp [chk, this]
  · have h2 : -34359738368 ≤ 2 * v ∧ 2 * v < 34359738368 := h
    by_cases hv : -2147483648 ≤ v ∧ v ≤ 2147483647
    · have e : decide (-2147483648 ≤ v ∧ v ≤ 2147483647) = true := decide_eq_true hv
      rw [e]
      simp [chk]
      rcases Int.lt_or_le v 0 with h0 | h0 <;> omega
    · simp only [hv, decide_false]
      simp [chk]
      omega
theorem chk_i64 {v : Int} {k : Nat} (hk : k ≤ 10) (h : -(2 ^ (7 * k)) ≤ 2 * v ∧ 2 * v < 2 ^ (7 * k)) : chk v (v / 2 ^ 63 % 2) (7 * k - 64) 64 = decide (-9223372036854775808 ≤ v ∧ v ≤ 9223372036854775807) := by
  rcases (show k ≤ 9 ∨ k = 10 by omega) with hk4 | rfl
  · have hp : (2 : Int) ^ (7 * k) ≤ 2 ^ 63 := by exact_mod_cast Nat.pow_le_pow_right (by decide) (by omega)
    rw [show 7 * k - 64 = 0 by omega]
    have : -9223372036854775808 ≤ v ∧ v ≤ 9223372036854775807 := by omega
    simp [chk, this]
  · have h2 : -1180591620717411303424 ≤ 2 * v ∧ 2 * v < 1180591620717411303424 := h
    by_cases hv : -9223372036854775808 ≤ v ∧ v ≤ 9223372036854775807
    · have e : decide (-9223372036854775808 ≤ v ∧ v ≤ 9223372036854775807) = true := decide_eq_true hv
      rw [e]
      simp [chk]
      rcases Int.lt_or_le v 0 with h0 | h0 <;> omega
    · simp only [hv, decide_false]
      simp [chk]
      omega
end Go.Proofs.YthfipknfdnfalaaGreatDoor
namespace Go.Proofs.YthfipknfdnfalaaGreatDoor
open Go.RowKit
set_option maxRecDepth 100000 in
set_option maxHeartbeats 1000000 in
theorem ref_take_u (s : ByteArray) (a bs most k : Nat) (v : Int) (hs : s.size ≤ maxLen) (hb1 : 1 ≤ bs) (hbs : bs ≤ 64) (hm : most = (bs + 6) / 7) (hsz : szr most 0 (s.data.toList.drop a) = k) (hk1 : 1 ≤ k) (hk : k ≤ 10) (hak : a + k ≤ s.size)
    (hbit : ∀ i, i < 7 * k → bitOf (s.data.toList.drop a) i = v / 2 ^ i % 2) (hov : ∀ i, 7 * k ≤ i → v / 2 ^ i % 2 = 0) (w : World) :
    Calls Tryz.prog 220 #[.string s, .int .i64 a, .int .i64 bs, .bool false] w fun e w' => e = .returned (.tuple #[.int .u64 (takeOut (v % 2 ^ bs) ((a : Int) + k) (chk v 0 (7 * k - bs) bs)).1, .int .i64 (takeOut (v % 2 ^ bs) ((a : Int) + k) (chk v 0 (7 * k - bs) bs)).2.1, .int .i64 (takeOut (v % 2 ^ bs) ((a : Int) + k) (chk v 0 (7 * k - bs) bs)).2.2]) ∧ w = w' := by
  have c1 := ref_size s a most (by omega) hs (by omega)
  rw [hsz] at c1
  have em : ((bs : Int) + 6) / 7 = (most : Int) := by omega
  have hd1 : decide (s.size < a) = false := by simp; omega
  have cl : ∀ w, Calls Tryz.prog 289 #[.string s, .int .i64 a, .int .i64 (7 * (k : Int) - 1)] w fun e w' => e = .returned (.int .i64 (bitOf (s.data.toList.drop a) (7 * k - 1))) ∧ w = w' := fun w => by
    have h := ref_bit s a (7 * k - 1) (by omega) hs w
    rwa [show ((7 * k - 1 : Nat) : Int) = 7 * (k : Int) - 1 by omega] at h
  have cb : ∀ (i : Nat) (x : Int), i < 7 * k → v / 2 ^ i % 2 = x → ∀ w, Calls Tryz.prog 289 #[.string s, .int .i64 a, .int .i64 i] w fun e w' => e = .returned (.int .i64 x) ∧ w = w' := fun i x hi hx w => by
    have h := ref_bit s a i (by omega) hs w
    rwa [hbit i hi, hx] at h
  generalize hC : chk v 0 (7 * k - bs) bs = C
  generalize bitOf (s.data.toList.drop a) (7 * k - 1) = lb at cl
  have HC : Hid (C = chk v 0 (7 * k - bs) bs) := Lib.hid hC.symm
  have CB := Lib.hid cb
  have HOV := Lib.hid hov
  clear hC hsz hm hbit cb hov
  unfold maxLen at hs
  have hkz : ((k : Int) == 0) = false := beq_eq_false_iff_ne.2 (by omega)
  go_enter Tryz.func220, Tryz.ntmps220
  go_wp2_with (first
    | (go_at_call 288; (with_reducible refine (c1 _).mono ?_); rintro e w' ⟨rfl, rfl⟩)
    | (go_at_call 289; (with_reducible refine (cl _).mono ?_); rintro e w' ⟨rfl, rfl⟩))
  clear c1 cl em
  go_loop [12, 14] (fun n u => ∃ (i : Nat) (X : Int), i ≤ bs ∧ u = .int .i64 i ∧ n = .int .u64 X ∧ Hid (X = v % 2 ^ i)) (fun _ u => bs - (intOf u).toNat)
  case atStart => exact ⟨0, 0, by omega, rfl, rfl, Lib.hid (by simp)⟩
  case round =>
    obtain ⟨i, X, hi, rfl, rfl, HX⟩ := hrel
    by_cases hlt : i < bs
    · by_cases h7 : i < 7 * k
      · rcases (show v / 2 ^ i % 2 = 1 ∨ v / 2 ^ i % 2 = 0 by omega) with hx | hx
        · have ci := CB.out i 1 h7 hx
          have HB := Lib.hid hx
          clear hx
          go_wp2_with (go_at_call 289; (with_reducible refine (ci _).mono ?_); rintro e w' ⟨rfl, rfl⟩)
          go_round
          case rel => exact ⟨i + 1, _, by omega, by go_num, rfl, Lib.hid (or_pow (by omega) HX.out HB.out)⟩
          case measure => simp [intOf]; omega
        · have ci := CB.out i 0 h7 hx
          have HB := Lib.hid hx
          clear hx
          go_wp2_with (go_at_call 289; (with_reducible refine (ci _).mono ?_); rintro e w' ⟨rfl, rfl⟩)
          go_round
          case rel => exact ⟨i + 1, _, by omega, by go_num, rfl, Lib.hid (skip_pow HX.out HB.out)⟩
          case measure => simp [intOf]; omega
      · have HB := Lib.hid (HOV.out i (by omega))
        go_wp2
        go_round
        case rel => exact ⟨i + 1, _, by omega, by go_num, rfl, Lib.hid (skip_pow HX.out HB.out)⟩
        case measure => simp [intOf]; omega
    · obtain rfl : i = bs := by omega
      go_wp2
      go_loop [15, 16] (fun u _ => ∃ j : Nat, i ≤ j ∧ u = .int .i64 j ∧ Hid (C = chk v 0 (7 * k - j) j)) (fun u _ => 7 * k - (intOf u).toNat)
      case atStart => exact ⟨i, by omega, rfl, HC⟩
      case round =>
        clear HC
        obtain ⟨j, hj, rfl, HC⟩ := hrel
        by_cases h7 : j < 7 * k
        · rcases (show v / 2 ^ j % 2 = 1 ∨ v / 2 ^ j % 2 = 0 by omega) with hx | hx
          · have ci := CB.out j 1 h7 hx
            have HB := Lib.hid hx
            clear hx
            go_wp2_with (go_at_call 289; (with_reducible refine (ci _).mono ?_); rintro e w' ⟨rfl, rfl⟩)
            go_ret3
            have hv : C = false := by rw [HC.out]; exact chk_no (by omega) (by rw [HB.out]; decide)
            exact ⟨by rw [hv]; rfl, rfl⟩
          · have ci := CB.out j 0 h7 hx
            have HB := Lib.hid hx
            clear hx
            go_wp2_with (go_at_call 289; (with_reducible refine (ci _).mono ?_); rintro e w' ⟨rfl, rfl⟩)
            go_round
            case rel => exact ⟨j + 1, by omega, by go_num, Lib.hid (by rw [HC.out, chk_yes (by omega) HB.out]; rfl)⟩
            case measure => simp [intOf]; omega
        · have hv : Hid (C = true) := Lib.hid (by rw [HC.out, show 7 * k - j = 0 by omega]; rfl)
          go_wp2
          go_ret3
          exact ⟨by rw [hv.out, ← HX.out]; rfl, rfl⟩
end Go.Proofs.YthfipknfdnfalaaGreatDoor
namespace Go.Proofs.YthfipknfdnfalaaGreatDoor
open Go.RowKit
set_option maxRecDepth 100000 in
set_option maxHeartbeats 1000000 in
theorem ref_take_s (s : ByteArray) (a bs most k : Nat) (v : Int) (hs : s.size ≤ maxLen) (hb1 : 1 ≤ bs) (hbs : bs ≤ 64) (hm : most = (bs + 6) / 7) (hsz : szr most 0 (s.data.toList.drop a) = k) (hk1 : 1 ≤ k) (hk : k ≤ 10) (hak : a + k ≤ s.size)
    (hbit : ∀ i, i < 7 * k → bitOf (s.data.toList.drop a) i = v / 2 ^ i % 2) (lb : Int) (hlb : lb = 0 ∨ lb = 1) (hla : bitOf (s.data.toList.drop a) (7 * k - 1) = lb) (hov : ∀ i, 7 * k ≤ i → v / 2 ^ i % 2 = lb) (want : Int) (hwant : v / 2 ^ (bs - 1) % 2 = want) (w : World) :
    Calls Tryz.prog 220 #[.string s, .int .i64 a, .int .i64 bs, .bool true] w fun e w' => e = .returned (.tuple #[.int .u64 (takeOut (v % 2 ^ bs) ((a : Int) + k) (chk v want (7 * k - bs) bs)).1, .int .i64 (takeOut (v % 2 ^ bs) ((a : Int) + k) (chk v want (7 * k - bs) bs)).2.1, .int .i64 (takeOut (v % 2 ^ bs) ((a : Int) + k) (chk v want (7 * k - bs) bs)).2.2]) ∧ w = w' := by
  have c1 := ref_size s a most (by omega) hs (by omega)
  rw [hsz] at c1
  have em : ((bs : Int) + 6) / 7 = (most : Int) := by omega
  have hd1 : decide (s.size < a) = false := by simp; omega
  have cl : ∀ w, Calls Tryz.prog 289 #[.string s, .int .i64 a, .int .i64 (7 * (k : Int) - 1)] w fun e w' => e = .returned (.int .i64 (bitOf (s.data.toList.drop a) (7 * k - 1))) ∧ w = w' := fun w => by
    have h := ref_bit s a (7 * k - 1) (by omega) hs w
    rwa [show ((7 * k - 1 : Nat) : Int) = 7 * (k : Int) - 1 by omega] at h
  have cb : ∀ (i : Nat) (x : Int), i < 7 * k → v / 2 ^ i % 2 = x → ∀ w, Calls Tryz.prog 289 #[.string s, .int .i64 a, .int .i64 i] w fun e w' => e = .returned (.int .i64 x) ∧ w = w' := fun i x hi hx w => by
    have h := ref_bit s a i (by omega) hs w
    rwa [hbit i hi, hx] at h
  generalize hC : chk v want (7 * k - bs) bs = C
  rw [hla] at cl
  have HC : Hid (C = chk v want (7 * k - bs) bs) := Lib.hid hC.symm
  have CB := Lib.hid cb
  have HOV := Lib.hid hov
  have HW := Lib.hid hwant
  clear hC hsz hm hbit cb hov hla hwant
  unfold maxLen at hs
  have hkz : ((k : Int) == 0) = false := beq_eq_false_iff_ne.2 (by omega)
  go_enter Tryz.func220, Tryz.ntmps220
  go_wp2_with (first
    | (go_at_call 288; (with_reducible refine (c1 _).mono ?_); rintro e w' ⟨rfl, rfl⟩)
    | (go_at_call 289; (with_reducible refine (cl _).mono ?_); rintro e w' ⟨rfl, rfl⟩))
  clear c1 cl em
  go_loop [12, 14] (fun n u => ∃ (i : Nat) (X : Int), i ≤ bs ∧ u = .int .i64 i ∧ n = .int .u64 X ∧ Hid (X = v % 2 ^ i)) (fun _ u => bs - (intOf u).toNat)
  case atStart => exact ⟨0, 0, by omega, rfl, rfl, Lib.hid (by simp)⟩
  case round =>
    obtain ⟨i, X, hi, rfl, rfl, HX⟩ := hrel
    by_cases hlt : i < bs
    · by_cases h7 : i < 7 * k
      · rcases (show v / 2 ^ i % 2 = 1 ∨ v / 2 ^ i % 2 = 0 by omega) with hx | hx
        · have ci := CB.out i 1 h7 hx
          have HB := Lib.hid hx
          clear hx
          go_wp2_with (go_at_call 289; (with_reducible refine (ci _).mono ?_); rintro e w' ⟨rfl, rfl⟩)
          go_round
          case rel => exact ⟨i + 1, _, by omega, by go_num, rfl, Lib.hid (or_pow (by omega) HX.out HB.out)⟩
          case measure => simp [intOf]; omega
        · have ci := CB.out i 0 h7 hx
          have HB := Lib.hid hx
          clear hx
          go_wp2_with (go_at_call 289; (with_reducible refine (ci _).mono ?_); rintro e w' ⟨rfl, rfl⟩)
          go_round
          case rel => exact ⟨i + 1, _, by omega, by go_num, rfl, Lib.hid (skip_pow HX.out HB.out)⟩
          case measure => simp [intOf]; omega
      · rcases hlb with rfl | rfl
        · have HB := Lib.hid (HOV.out i (by omega))
          go_wp2
          go_round
          case rel => exact ⟨i + 1, _, by omega, by go_num, rfl, Lib.hid (skip_pow HX.out HB.out)⟩
          case measure => simp [intOf]; omega
        · have HB := Lib.hid (HOV.out i (by omega))
          go_wp2
          go_round
          case rel => exact ⟨i + 1, _, by omega, by go_num, rfl, Lib.hid (or_pow (by omega) HX.out HB.out)⟩
          case measure => simp [intOf]; omega
    · obtain rfl : i = bs := by omega
      have htop : X / 2 ^ (i - 1) = want := by
        have h := top_bit (v := v) (X := X) (n := i - 1) (by rw [show i - 1 + 1 = i by omega]; exact HX.out)
        rw [h, HW.out]
      have e1 : ((i : Int) - 1).toNat = i - 1 := by omega
      have hw01 : want = 0 ∨ want = 1 := by have := HW.out; omega
      have hand : bits .and .u64 want 1 = want := and_one_u want (by omega) (by omega)
      go_wp2
      go_loop [15, 16] (fun u _ => ∃ j : Nat, i ≤ j ∧ u = .int .i64 j ∧ Hid (C = chk v want (7 * k - j) j)) (fun u _ => 7 * k - (intOf u).toNat)
      case atStart => exact ⟨i, by omega, rfl, HC⟩
      case round =>
        clear HC
        obtain ⟨j, hj, rfl, HC⟩ := hrel
        by_cases h7 : j < 7 * k
        · rcases hw01 with rfl | rfl
          · rcases (show v / 2 ^ j % 2 = 1 ∨ v / 2 ^ j % 2 = 0 by omega) with hx | hx
            · have ci := CB.out j 1 h7 hx
              have HB := Lib.hid hx
              clear hx
              go_wp2_with (go_at_call 289; (with_reducible refine (ci _).mono ?_); rintro e w' ⟨rfl, rfl⟩)
              go_ret3
              have hv : C = false := by rw [HC.out]; exact chk_no (by omega) (by rw [HB.out]; decide)
              exact ⟨by rw [hv]; rfl, rfl⟩
            · have ci := CB.out j 0 h7 hx
              have HB := Lib.hid hx
              clear hx
              go_wp2_with (go_at_call 289; (with_reducible refine (ci _).mono ?_); rintro e w' ⟨rfl, rfl⟩)
              go_round
              case rel => exact ⟨j + 1, by omega, by go_num, Lib.hid (by rw [HC.out, chk_yes (by omega) HB.out]; rfl)⟩
              case measure => simp [intOf]; omega
          · rcases (show v / 2 ^ j % 2 = 1 ∨ v / 2 ^ j % 2 = 0 by omega) with hx | hx
            · have ci := CB.out j 1 h7 hx
              have HB := Lib.hid hx
              clear hx
              go_wp2_with (go_at_call 289; (with_reducible refine (ci _).mono ?_); rintro e w' ⟨rfl, rfl⟩)
              go_round
              case rel => exact ⟨j + 1, by omega, by go_num, Lib.hid (by rw [HC.out, chk_yes (by omega) HB.out]; rfl)⟩
              case measure => simp [intOf]; omega
            · have ci := CB.out j 0 h7 hx
              have HB := Lib.hid hx
              clear hx
              go_wp2_with (go_at_call 289; (with_reducible refine (ci _).mono ?_); rintro e w' ⟨rfl, rfl⟩)
              go_ret3
              have hv : C = false := by rw [HC.out]; exact chk_no (by omega) (by rw [HB.out]; decide)
              exact ⟨by rw [hv]; rfl, rfl⟩
        · have hv : Hid (C = true) := Lib.hid (by rw [HC.out, show 7 * k - j = 0 by omega]; rfl)
          go_wp2
          go_ret3
          exact ⟨by rw [hv.out, ← HX.out]; rfl, rfl⟩
end Go.Proofs.YthfipknfdnfalaaGreatDoor
namespace Go.Proofs.YthfipknfdnfalaaGreatDoor
open Go.RowKit
theorem ans_in {K : IntKind} {p : Int → Int} {most : Nat} {l : List UInt8} {place : Int} (h0 : K.min ≤ 0) (h1 : 0 ≤ K.max) : K.min ≤ (ans K p most l place).1 ∧ (ans K p most l place).1 ≤ K.max := by
  unfold ans
  split
  · exact ⟨h0, h1⟩
  · cases hd : dec p (l.drop place.toNat) with
    | none => exact ⟨h0, h1⟩
    | some x =>
      obtain ⟨v, n⟩ := x
      simp only [fit]
      by_cases h : n ≤ most ∧ K.min ≤ v ∧ v ≤ K.max
      · rw [if_pos h]; exact h.2
      · rw [if_neg h]; exact ⟨h0, h1⟩
theorem ans_at {K : IntKind} {p : Int → Int} {most : Nat} {l : List UInt8} {a : Nat} (ha : a ≤ l.length) : ans K p most l a = match fit K most (dec p (l.drop a)) with
    | none => (0, 0, 2)
    | some (v, n) => (v, (a : Int) + n, 0) := by
  unfold ans
  rw [if_neg (by omega), Int.toNat_natCast]
  cases fit K most (dec p (l.drop a)) <;> rfl
theorem size_is {p : Int → Int} {most : Nat} {l : List UInt8} : szr most 0 l = match dec p l with
    | none => 0
    | some (_, n) => if n ≤ most then n else 0 := by
  rw [szr_dec p most l 0 (by omega)]
  cases dec p l with
  | none => rfl
  | some x => simp only [Nat.zero_add]
theorem take_u32 (s : ByteArray) (place : Int) (hs : s.size ≤ maxLen) (w : World) :
    Calls Tryz.prog 220 #[.string s, .int .i64 place, .int .i64 32, .bool false] w fun e w' => e = .returned (.tuple #[.int .u64 ((ans .u32 usg 5 s.data.toList place).1), .int .i64 (ans .u32 usg 5 s.data.toList place).2.1, .int .i64 (ans .u32 usg 5 s.data.toList place).2.2]) ∧ w = w' := by
  by_cases hp : place < 0 ∨ (s.size : Int) < place
  · rw [ans_none (by simpa using hp)]
    exact ref_take_place s place 32 false hp w
  · obtain ⟨a, rfl⟩ := Int.eq_ofNat_of_zero_le (show 0 ≤ place by omega)
    have ha : a ≤ s.size := by omega
    rw [ans_at (by simpa using ha)]
    have hz := size_is (p := usg) (most := 5) (l := s.data.toList.drop a)
    cases hd : dec usg (s.data.toList.drop a) with
    | none =>
      rw [hd] at hz
      exact ref_take_none s a 32 5 false ha hs (by omega) rfl hz w
    | some x =>
      obtain ⟨v, k⟩ := x
      rw [hd] at hz
      simp only at hz
      by_cases hk : k ≤ 5
      · rw [if_pos hk] at hz
        have hk1 := dec_pos hd
        have hlen := dec_len usg _ v k hd
        have hbit := bit_dec (p := usg) (fun b i hi => bit_last_u b i hi) _ v k hd
        have hbd := dec_u_bd _ v k hd
        have h := ref_take_u s a 32 5 k v hs (by omega) (by omega) rfl hz hk1 (by omega) (by simp at hlen; omega) hbit (fun i hi => bit_over_u hbd hi) w
        rw [chk_u32 hk hbd] at h
        simp only [fit]
        by_cases hv : v ≤ 4294967295
        · rw [if_pos ⟨hk, by simpa [IntKind.min, IntKind.signed] using hbd.1, by simpa [IntKind.max, IntKind.signed, IntKind.bits] using hv⟩]
          rw [decide_eq_true hv] at h
          simp only [takeOut, show v % 2 ^ 32 = v from Int.emod_eq_of_lt hbd.1 (by omega)] at h; exact h
        · rw [if_neg (fun hc => hv (by simpa [IntKind.max, IntKind.signed, IntKind.bits] using hc.2.2))]
          rw [decide_eq_false hv] at h
          simp only [takeOut] at h; exact h
      · rw [if_neg hk] at hz
        simp only [fit]
        rw [if_neg (fun hc => hk hc.1)]
        exact ref_take_none s a 32 5 false ha hs (by omega) rfl hz w
theorem take_i32 (s : ByteArray) (place : Int) (hs : s.size ≤ maxLen) (w : World) :
    Calls Tryz.prog 220 #[.string s, .int .i64 place, .int .i64 32, .bool true] w fun e w' => e = .returned (.tuple #[.int .u64 ((ans .i32 sgn 5 s.data.toList place).1 % 2 ^ 32), .int .i64 (ans .i32 sgn 5 s.data.toList place).2.1, .int .i64 (ans .i32 sgn 5 s.data.toList place).2.2]) ∧ w = w' := by
  by_cases hp : place < 0 ∨ (s.size : Int) < place
  · rw [ans_none (by simpa using hp)]
    exact ref_take_place s place 32 true hp w
  · obtain ⟨a, rfl⟩ := Int.eq_ofNat_of_zero_le (show 0 ≤ place by omega)
    have ha : a ≤ s.size := by omega
    rw [ans_at (by simpa using ha)]
    have hz := size_is (p := sgn) (most := 5) (l := s.data.toList.drop a)
    cases hd : dec sgn (s.data.toList.drop a) with
    | none =>
      rw [hd] at hz
      exact ref_take_none s a 32 5 true ha hs (by omega) rfl hz w
    | some x =>
      obtain ⟨v, k⟩ := x
      rw [hd] at hz
      simp only at hz
      by_cases hk : k ≤ 5
      · rw [if_pos hk] at hz
        have hk1 := dec_pos hd
        have hlen := dec_len sgn _ v k hd
        have hbit := bit_dec (p := sgn) (fun b i hi => bit_last_s b i hi) _ v k hd
        have hbd := dec_s_bd _ v k hd
        have h := ref_take_s s a 32 5 k v hs (by omega) (by omega) rfl hz hk1 (by omega) (by simp at hlen; omega) hbit (if v < 0 then 1 else 0) (by split <;> simp)
          (by rw [hbit _ (by omega)]; exact bit_over_s hbd hk1 (by omega)) (fun i hi => bit_over_s hbd hk1 (by omega)) (v / 2 ^ 31 % 2) rfl w
        rw [chk_i32 hk hbd] at h
        simp only [fit]
        by_cases hv : -2147483648 ≤ v ∧ v ≤ 2147483647
        · rw [if_pos ⟨hk, by simpa [IntKind.min, IntKind.signed, IntKind.bits] using hv.1, by simpa [IntKind.max, IntKind.signed, IntKind.bits] using hv.2⟩]
          rw [decide_eq_true hv] at h
          simp only [takeOut] at h; exact h
        · rw [if_neg (fun hc => hv (by simpa [IntKind.min, IntKind.max, IntKind.signed, IntKind.bits] using hc.2))]
          rw [decide_eq_false hv] at h
          simp only [takeOut] at h; exact h
      · rw [if_neg hk] at hz
        simp only [fit]
        rw [if_neg (fun hc => hk hc.1)]
        exact ref_take_none s a 32 5 true ha hs (by omega) rfl hz w
theorem take_i64 (s : ByteArray) (place : Int) (hs : s.size ≤ maxLen) (w : World) :
    Calls Tryz.prog 220 #[.string s, .int .i64 place, .int .i64 64, .bool true] w fun e w' => e = .returned (.tuple #[.int .u64 ((ans .i64 sgn 10 s.data.toList place).1 % 2 ^ 64), .int .i64 (ans .i64 sgn 10 s.data.toList place).2.1, .int .i64 (ans .i64 sgn 10 s.data.toList place).2.2]) ∧ w = w' := by
  by_cases hp : place < 0 ∨ (s.size : Int) < place
  · rw [ans_none (by simpa using hp)]
    exact ref_take_place s place 64 true hp w
  · obtain ⟨a, rfl⟩ := Int.eq_ofNat_of_zero_le (show 0 ≤ place by omega)
    have ha : a ≤ s.size := by omega
    rw [ans_at (by simpa using ha)]
    have hz := size_is (p := sgn) (most := 10) (l := s.data.toList.drop a)
    cases hd : dec sgn (s.data.toList.drop a) with
    | none =>
      rw [hd] at hz
      exact ref_take_none s a 64 10 true ha hs (by omega) rfl hz w
    | some x =>
      obtain ⟨v, k⟩ := x
      rw [hd] at hz
      simp only at hz
      by_cases hk : k ≤ 10
      · rw [if_pos hk] at hz
        have hk1 := dec_pos hd
        have hlen := dec_len sgn _ v k hd
        have hbit := bit_dec (p := sgn) (fun b i hi => bit_last_s b i hi) _ v k hd
        have hbd := dec_s_bd _ v k hd
        have h := ref_take_s s a 64 10 k v hs (by omega) (by omega) rfl hz hk1 (by omega) (by simp at hlen; omega) hbit (if v < 0 then 1 else 0) (by split <;> simp)
          (by rw [hbit _ (by omega)]; exact bit_over_s hbd hk1 (by omega)) (fun i hi => bit_over_s hbd hk1 (by omega)) (v / 2 ^ 63 % 2) rfl w
        rw [chk_i64 hk hbd] at h
        simp only [fit]
        by_cases hv : -9223372036854775808 ≤ v ∧ v ≤ 9223372036854775807
        · rw [if_pos ⟨hk, by simpa [IntKind.min, IntKind.signed, IntKind.bits] using hv.1, by simpa [IntKind.max, IntKind.signed, IntKind.bits] using hv.2⟩]
          rw [decide_eq_true hv] at h
          simp only [takeOut] at h; exact h
        · rw [if_neg (fun hc => hv (by simpa [IntKind.min, IntKind.max, IntKind.signed, IntKind.bits] using hc.2))]
          rw [decide_eq_false hv] at h
          simp only [takeOut] at h; exact h
      · rw [if_neg hk] at hz
        simp only [fit]
        rw [if_neg (fun hc => hk hc.1)]
        exact ref_take_none s a 64 10 true ha hs (by omega) rfl hz w
set_option maxHeartbeats 400000 in
theorem ref_get_u32 (s : ByteArray) (place : Int) {x y z : Int} (h : ans .u32 usg 5 s.data.toList place = (x, y, z)) (hs : s.size ≤ maxLen) (w : World) :
    Calls Tryz.prog 142 #[.string s, .int .i64 place] w fun e w' => e = .returned (.tuple #[.int .u32 x, .int .i64 y, .int .i64 z]) ∧ w = w' := by
  have c := take_u32 s place hs
  have hb := ans_in (K := .u32) (p := usg) (most := 5) (l := s.data.toList) (place := place) (by decide) (by decide)
  simp only [h] at c hb
  simp [IntKind.min, IntKind.max, IntKind.signed, IntKind.bits] at hb
  clear h
  go_enter Tryz.func142, Tryz.ntmps142
  go_wp2_with (go_at_call 220; (with_reducible refine (c _).mono ?_); rintro e w' ⟨rfl, rfl⟩)
  go_ret3
  exact ⟨rfl, rfl⟩
set_option maxHeartbeats 400000 in
theorem ref_get_i32 (s : ByteArray) (place : Int) {x y z : Int} (h : ans .i32 sgn 5 s.data.toList place = (x, y, z)) (hs : s.size ≤ maxLen) (w : World) :
    Calls Tryz.prog 229 #[.string s, .int .i64 place] w fun e w' => e = .returned (.tuple #[.int .i32 x, .int .i64 y, .int .i64 z]) ∧ w = w' := by
  have c := take_i32 s place hs
  have hb := ans_in (K := .i32) (p := sgn) (most := 5) (l := s.data.toList) (place := place) (by decide) (by decide)
  simp only [h] at c hb
  simp [IntKind.min, IntKind.max, IntKind.signed, IntKind.bits] at hb
  obtain ⟨N, hN⟩ : ∃ N, x % 2 ^ 32 = N := ⟨_, rfl⟩
  simp only [hN] at c
  have hN2 : 0 ≤ N ∧ N < 4294967296 := by omega
  have hw : wrap32 N = x := by unfold wrap32; omega
  clear hN
  clear h
  go_enter Tryz.func229, Tryz.ntmps229
  go_wp2_with (go_at_call 220; (with_reducible refine (c _).mono ?_); rintro e w' ⟨rfl, rfl⟩)
  go_ret3
  exact ⟨by first | rfl | (rw [← hw]; rfl), rfl⟩
set_option maxHeartbeats 400000 in
theorem ref_get_i64 (s : ByteArray) (place : Int) {x y z : Int} (h : ans .i64 sgn 10 s.data.toList place = (x, y, z)) (hs : s.size ≤ maxLen) (w : World) :
    Calls Tryz.prog 228 #[.string s, .int .i64 place] w fun e w' => e = .returned (.tuple #[.int .i64 x, .int .i64 y, .int .i64 z]) ∧ w = w' := by
  have c := take_i64 s place hs
  have hb := ans_in (K := .i64) (p := sgn) (most := 10) (l := s.data.toList) (place := place) (by decide) (by decide)
  simp only [h] at c hb
  simp [IntKind.min, IntKind.max, IntKind.signed, IntKind.bits] at hb
  obtain ⟨N, hN⟩ : ∃ N, x % 2 ^ 64 = N := ⟨_, rfl⟩
  simp only [hN] at c
  have hN2 : 0 ≤ N ∧ N < 18446744073709551616 := by omega
  have hw : wrap64 N = x := by unfold wrap64; omega
  clear hN
  clear h
  go_enter Tryz.func228, Tryz.ntmps228
  go_wp2_with (go_at_call 220; (with_reducible refine (c _).mono ?_); rintro e w' ⟨rfl, rfl⟩)
  go_ret3
  exact ⟨by first | rfl | (rw [← hw]; rfl), rfl⟩
end Go.Proofs.YthfipknfdnfalaaGreatDoor
