/-
  Facts and contracts that the proof calls.
-/
import Derived.Test.YtdinpakclmnacaaGreatDoorRows
import Derived.Test.YtdinpakclmnacaaGreatDoorKfLebMath
import Derived.WalkSpells
import Derived.WalkLawsBesides
import Derived.Lib.Hide
namespace Go.Proofs.YtdinpakclmnacaaGreatDoor
set_option maxRecDepth 100000
set_option maxHeartbeats 16000000
open Go.RowKit
theorem mask127 {c : Int} (h₀ : 0 ≤ c) (h₁ : c ≤ 255) : bits .and .u8 c 127 = c % 128 := bits_mask .u8 8 (by decide) wraps_u8 7 (by decide) c h₀ (by omega)
theorem mask64 {c : Int} (h₀ : 0 ≤ c) (h₁ : c ≤ 255) : bits .and .u8 c 64 = if 64 ≤ c % 128 then 64 else 0 := by
  have h : ∀ x : Fin 256, bits .and .u8 (x.val : Int) 64 = if 64 ≤ (x.val : Int) % 128 then 64 else 0 := by decide +kernel
  have := h ⟨c.toNat, by omega⟩
  simpa [Int.toNat_of_nonneg h₀] using this
theorem size_from (s : ByteArray) (a : Nat) : (s.extract a s.size).size = s.size - a := by simp [ByteArray.size_extract]
theorem bytes_step (s : ByteArray) (a k : Nat) (h : k < (s.extract a s.size).size) : (s.extract a s.size).data.toList.drop k = (s.extract a s.size)[k] :: (s.extract a s.size).data.toList.drop (k + 1) := by
  rw [List.drop_eq_getElem_cons (by simpa using h)]
  rfl
theorem rd_over (K : IntKind) (p : Int → Int) (most k : Nat) (X : Int) (l : List UInt8) (h : ¬ k < most) : rd K p most k X l = none := by
  cases l <;> simp [rd, h]
def outOf (place : Int) : Option (Int × Nat) → Int × Int × Int
  | none => (0, 0, 2)
  | some (v, n) => (v, place + n, 0)
theorem bits_u32 (b : Int) (h0 : 0 ≤ b) (h1 : b ≤ 255) (w : World) :
    Calls Tryz.prog 262 #[.int .u8 b] w fun e w' => e = .returned (.int .u32 (usg b)) ∧ w = w' := by
  have hm : bits .and .u8 b 127 = usg b := mask127 h0 h1
  have hu := usg_bd (b := b)
  go_enter Tryz.func262, Tryz.ntmps262
  go_wp2
  go_ret
  exact ⟨rfl, rfl⟩
theorem bits_i32 (b : Int) (h0 : 0 ≤ b) (h1 : b ≤ 255) (w : World) :
    Calls Tryz.prog 263 #[.int .u8 b] w fun e w' => e = .returned (.int .i32 (sgn b)) ∧ w = w' := by
  have hm := mask127 h0 h1
  have hn : IntKind.i32.signed = true := rfl
  have hx : bits BinOp.xor IntKind.i32 (-1) 0 = -1 := by decide
  by_cases h2 : b < 128
  · by_cases h3 : 64 ≤ b
    · have hs := sgn_yes h2 h3
      have h6 : bits .and .u8 b 64 = 64 := by rw [mask64 h0 h1, if_pos (by omega)]
      go_enter Tryz.func263, Tryz.ntmps263
      go_wp2
      go_ret
      exact ⟨rfl, rfl⟩
    · have hs := sgn_no (b := b) (Or.inl (by omega))
      have h6 : bits .and .u8 b 64 = 0 := by rw [mask64 h0 h1, if_neg (by omega)]
      go_enter Tryz.func263, Tryz.ntmps263
      go_wp2
      go_ret
      exact ⟨rfl, rfl⟩
  · have hs := sgn_no (b := b) (Or.inr (by omega))
    go_enter Tryz.func263, Tryz.ntmps263
    go_wp2
    go_ret
    exact ⟨rfl, rfl⟩
theorem bits_i64 (b : Int) (h0 : 0 ≤ b) (h1 : b ≤ 255) (w : World) :
    Calls Tryz.prog 264 #[.int .u8 b] w fun e w' => e = .returned (.int .i64 (sgn b)) ∧ w = w' := by
  have hm := mask127 h0 h1
  have hn : IntKind.i64.signed = true := rfl
  have hx : bits BinOp.xor IntKind.i64 (-1) 0 = -1 := by decide
  by_cases h2 : b < 128
  · by_cases h3 : 64 ≤ b
    · have hs := sgn_yes h2 h3
      have h6 : bits .and .u8 b 64 = 64 := by rw [mask64 h0 h1, if_pos (by omega)]
      go_enter Tryz.func264, Tryz.ntmps264
      go_wp2
      go_ret
      exact ⟨rfl, rfl⟩
    · have hs := sgn_no (b := b) (Or.inl (by omega))
      have h6 : bits .and .u8 b 64 = 0 := by rw [mask64 h0 h1, if_neg (by omega)]
      go_enter Tryz.func264, Tryz.ntmps264
      go_wp2
      go_ret
      exact ⟨rfl, rfl⟩
  · have hs := sgn_no (b := b) (Or.inr (by omega))
    go_enter Tryz.func264, Tryz.ntmps264
    go_wp2
    go_ret
    exact ⟨rfl, rfl⟩
theorem read_u32_none (s : ByteArray) (at' most : Int) (h : at' < 0 ∨ (s.size : Int) < at') (w : World) :
    Calls Tryz.prog 236 #[.string s, .int .i64 at', .int .i64 most] w fun e w' => e = .returned (.tuple #[.int .u32 0, .int .i64 0, .int .i64 1]) ∧ w = w' := by
  by_cases h0 : at' < 0
  · go_enter Tryz.func236, Tryz.ntmps236
    go_wp2
    go_ret3
    exact ⟨rfl, rfl⟩
  · have h1 : (s.size : Int) < at' := by omega
    go_enter Tryz.func236, Tryz.ntmps236
    go_wp2
    go_ret3
    exact ⟨rfl, rfl⟩
theorem read_u32_walk (s : ByteArray) (a : Nat) (ha : a ≤ s.size) (hs : s.size ≤ maxLen) (w : World) :
    Calls Tryz.prog 236 #[.string s, .int .i64 a, .int .i64 5] w fun e w' => e = .returned (.tuple #[.int .u32 (outOf a (rd .u32 usg 5 0 0 (s.extract a s.size).data.toList)).1, .int .i64 (outOf a (rd .u32 usg 5 0 0 (s.extract a s.size).data.toList)).2.1, .int .i64 (outOf a (rd .u32 usg 5 0 0 (s.extract a s.size).data.toList)).2.2]) ∧ w = w' := by
  unfold maxLen at hs
  generalize hR : rd .u32 usg 5 0 0 (s.extract a s.size).data.toList = R
  have hR2 : R = rd .u32 usg 5 0 0 (s.extract a s.size).data.toList := hR.symm
  have HR := Lib.hid hR2
  clear hR hR2
  have hd1 : decide ((a : Int) < 0) = false := by simp
  have hd2 : decide (s.size < a) = false := by simp; omega
  go_enter Tryz.func236, Tryz.ntmps236
  go_wp2
  go_loop [6, 10] (fun n i => ∃ (k : Nat) (X : Int), k ≤ 5 ∧ k ≤ s.size - a ∧ i = .int .i64 k ∧ n = .int .u32 X ∧ Hid (R = rd .u32 usg 5 k X ((s.extract a s.size).data.toList.drop k))) (fun _ i => 5 - (intOf i).toNat)
  case atStart => exact ⟨0, 0, by omega, by omega, rfl, rfl, Lib.hid (by rw [List.drop_zero]; exact HR.out)⟩
  case round =>
    clear HR
    obtain ⟨k, X, hk, hk2, rfl, rfl, HK⟩ := hrel
    by_cases h1 : k < s.size - a
    · by_cases h5 : k < 5
      · have hsz : k < (s.extract a s.size).size := by rw [size_from]; exact h1
        have H1 := Lib.hid (bytes_step s a k hsz)
        have hc1 : (s.extract a s.size)[k].toNat < 256 := UInt8.toNat_lt _
        have e7 : (7 * (k : Int)).toNat = 7 * k := by omega
        go_wp2_with (go_at_call 262; refine (bits_u32 _ (by omega) (by omega) _).mono ?_; rintro e w' ⟨rfl, rfl⟩)
        · have ht : (IntKind.u32.wrap (usg (s.extract a s.size)[k].toNat * 2 ^ (7 * k)) / 2 ^ (7 * k) != usg (s.extract a s.size)[k].toNat) = true := by rw [IntKind.wrap_u32]; assumption
          go_ret3
          have hv : R = none := by rw [HK.out, H1.out]; exact rd_bad h5 ht
          exact ⟨by rw [hv]; rfl, rfl⟩
        · have ht : (IntKind.u32.wrap (usg (s.extract a s.size)[k].toNat * 2 ^ (7 * k)) / 2 ^ (7 * k) != usg (s.extract a s.size)[k].toNat) = false := by rw [IntKind.wrap_u32]; assumption
          have h8 : ((s.extract a s.size)[k].toNat : Int) < 128 := by assumption
          go_ret3
          have hv := (HK.out.trans (congrArg (rd .u32 usg 5 k X) H1.out)).trans (rd_end h5 ht h8)
          exact ⟨by rw [hv, IntKind.wrap_u32]; simp only [outOf, Int.natCast_add, Int.add_assoc]; rfl, rfl⟩
        · have ht : (IntKind.u32.wrap (usg (s.extract a s.size)[k].toNat * 2 ^ (7 * k)) / 2 ^ (7 * k) != usg (s.extract a s.size)[k].toNat) = false := by rw [IntKind.wrap_u32]; assumption
          have h8 : 128 ≤ ((s.extract a s.size)[k].toNat : Int) := by assumption
          have hn := (HK.out.trans (congrArg (rd .u32 usg 5 k X) H1.out)).trans (rd_on h5 ht h8)
          have HN := Lib.hid hn
          clear hn
          go_round
          case rel => exact ⟨k + 1, _, by omega, by omega, by go_num, rfl, Lib.hid (by rw [HN.out, IntKind.wrap_u32])⟩
          case measure => simp [intOf]; omega
      · have hv : R = none := by rw [HK.out]; exact rd_over _ _ _ _ _ _ h5
        go_wp2
        go_ret3
        exact ⟨rfl, rfl⟩
    · have hv : R = none := by rw [HK.out, List.drop_eq_nil_of_le (by simp; omega)]; rfl
      go_wp2
      go_ret3
      exact ⟨rfl, rfl⟩
theorem read_i32_none (s : ByteArray) (at' most : Int) (h : at' < 0 ∨ (s.size : Int) < at') (w : World) :
    Calls Tryz.prog 237 #[.string s, .int .i64 at', .int .i64 most] w fun e w' => e = .returned (.tuple #[.int .i32 0, .int .i64 0, .int .i64 1]) ∧ w = w' := by
  by_cases h0 : at' < 0
  · go_enter Tryz.func237, Tryz.ntmps237
    go_wp2
    go_ret3
    exact ⟨rfl, rfl⟩
  · have h1 : (s.size : Int) < at' := by omega
    go_enter Tryz.func237, Tryz.ntmps237
    go_wp2
    go_ret3
    exact ⟨rfl, rfl⟩
theorem read_i32_walk (s : ByteArray) (a : Nat) (ha : a ≤ s.size) (hs : s.size ≤ maxLen) (w : World) :
    Calls Tryz.prog 237 #[.string s, .int .i64 a, .int .i64 5] w fun e w' => e = .returned (.tuple #[.int .i32 (outOf a (rd .i32 sgn 5 0 0 (s.extract a s.size).data.toList)).1, .int .i64 (outOf a (rd .i32 sgn 5 0 0 (s.extract a s.size).data.toList)).2.1, .int .i64 (outOf a (rd .i32 sgn 5 0 0 (s.extract a s.size).data.toList)).2.2]) ∧ w = w' := by
  unfold maxLen at hs
  generalize hR : rd .i32 sgn 5 0 0 (s.extract a s.size).data.toList = R
  have hR2 : R = rd .i32 sgn 5 0 0 (s.extract a s.size).data.toList := hR.symm
  have HR := Lib.hid hR2
  clear hR hR2
  have hd1 : decide ((a : Int) < 0) = false := by simp
  have hd2 : decide (s.size < a) = false := by simp; omega
  go_enter Tryz.func237, Tryz.ntmps237
  go_wp2
  go_loop [6, 10] (fun n i => ∃ (k : Nat) (X : Int), k ≤ 5 ∧ k ≤ s.size - a ∧ i = .int .i64 k ∧ n = .int .i32 X ∧ Hid (R = rd .i32 sgn 5 k X ((s.extract a s.size).data.toList.drop k))) (fun _ i => 5 - (intOf i).toNat)
  case atStart => exact ⟨0, 0, by omega, by omega, rfl, rfl, Lib.hid (by rw [List.drop_zero]; exact HR.out)⟩
  case round =>
    clear HR
    obtain ⟨k, X, hk, hk2, rfl, rfl, HK⟩ := hrel
    by_cases h1 : k < s.size - a
    · by_cases h5 : k < 5
      · have hsz : k < (s.extract a s.size).size := by rw [size_from]; exact h1
        have H1 := Lib.hid (bytes_step s a k hsz)
        have hc1 : (s.extract a s.size)[k].toNat < 256 := UInt8.toNat_lt _
        have e7 : (7 * (k : Int)).toNat = 7 * k := by omega
        go_wp2_with (go_at_call 263; refine (bits_i32 _ (by omega) (by omega) _).mono ?_; rintro e w' ⟨rfl, rfl⟩)
        · have ht : (IntKind.i32.wrap (sgn (s.extract a s.size)[k].toNat * 2 ^ (7 * k)) / 2 ^ (7 * k) != sgn (s.extract a s.size)[k].toNat) = true := by rw [IntWalk.i32_left]; assumption
          go_ret3
          have hv : R = none := by rw [HK.out, H1.out]; exact rd_bad h5 ht
          exact ⟨by rw [hv]; rfl, rfl⟩
        · have ht : (IntKind.i32.wrap (sgn (s.extract a s.size)[k].toNat * 2 ^ (7 * k)) / 2 ^ (7 * k) != sgn (s.extract a s.size)[k].toNat) = false := by rw [IntWalk.i32_left]; assumption
          have h8 : ((s.extract a s.size)[k].toNat : Int) < 128 := by assumption
          go_ret3
          have hv := (HK.out.trans (congrArg (rd .i32 sgn 5 k X) H1.out)).trans (rd_end h5 ht h8)
          exact ⟨by rw [hv, IntWalk.i32_left]; simp only [outOf, Int.natCast_add, Int.add_assoc]; rfl, rfl⟩
        · have ht : (IntKind.i32.wrap (sgn (s.extract a s.size)[k].toNat * 2 ^ (7 * k)) / 2 ^ (7 * k) != sgn (s.extract a s.size)[k].toNat) = false := by rw [IntWalk.i32_left]; assumption
          have h8 : 128 ≤ ((s.extract a s.size)[k].toNat : Int) := by assumption
          have hn := (HK.out.trans (congrArg (rd .i32 sgn 5 k X) H1.out)).trans (rd_on h5 ht h8)
          have HN := Lib.hid hn
          clear hn
          go_round
          case rel => exact ⟨k + 1, _, by omega, by omega, by go_num, rfl, Lib.hid (by rw [HN.out, IntWalk.i32_left])⟩
          case measure => simp [intOf]; omega
      · have hv : R = none := by rw [HK.out]; exact rd_over _ _ _ _ _ _ h5
        go_wp2
        go_ret3
        exact ⟨rfl, rfl⟩
    · have hv : R = none := by rw [HK.out, List.drop_eq_nil_of_le (by simp; omega)]; rfl
      go_wp2
      go_ret3
      exact ⟨rfl, rfl⟩
theorem read_i64_none (s : ByteArray) (at' most : Int) (h : at' < 0 ∨ (s.size : Int) < at') (w : World) :
    Calls Tryz.prog 238 #[.string s, .int .i64 at', .int .i64 most] w fun e w' => e = .returned (.tuple #[.int .i64 0, .int .i64 0, .int .i64 1]) ∧ w = w' := by
  by_cases h0 : at' < 0
  · go_enter Tryz.func238, Tryz.ntmps238
    go_wp2
    go_ret3
    exact ⟨rfl, rfl⟩
  · have h1 : (s.size : Int) < at' := by omega
    go_enter Tryz.func238, Tryz.ntmps238
    go_wp2
    go_ret3
    exact ⟨rfl, rfl⟩
theorem read_i64_walk (s : ByteArray) (a : Nat) (ha : a ≤ s.size) (hs : s.size ≤ maxLen) (w : World) :
    Calls Tryz.prog 238 #[.string s, .int .i64 a, .int .i64 10] w fun e w' => e = .returned (.tuple #[.int .i64 (outOf a (rd .i64 sgn 10 0 0 (s.extract a s.size).data.toList)).1, .int .i64 (outOf a (rd .i64 sgn 10 0 0 (s.extract a s.size).data.toList)).2.1, .int .i64 (outOf a (rd .i64 sgn 10 0 0 (s.extract a s.size).data.toList)).2.2]) ∧ w = w' := by
  unfold maxLen at hs
  generalize hR : rd .i64 sgn 10 0 0 (s.extract a s.size).data.toList = R
  have hR2 : R = rd .i64 sgn 10 0 0 (s.extract a s.size).data.toList := hR.symm
  have HR := Lib.hid hR2
  clear hR hR2
  have hd1 : decide ((a : Int) < 0) = false := by simp
  have hd2 : decide (s.size < a) = false := by simp; omega
  go_enter Tryz.func238, Tryz.ntmps238
  go_wp2
  go_loop [6, 10] (fun n i => ∃ (k : Nat) (X : Int), k ≤ 10 ∧ k ≤ s.size - a ∧ i = .int .i64 k ∧ n = .int .i64 X ∧ Hid (R = rd .i64 sgn 10 k X ((s.extract a s.size).data.toList.drop k))) (fun _ i => 10 - (intOf i).toNat)
  case atStart => exact ⟨0, 0, by omega, by omega, rfl, rfl, Lib.hid (by rw [List.drop_zero]; exact HR.out)⟩
  case round =>
    clear HR
    obtain ⟨k, X, hk, hk2, rfl, rfl, HK⟩ := hrel
    by_cases h1 : k < s.size - a
    · by_cases h5 : k < 10
      · have hsz : k < (s.extract a s.size).size := by rw [size_from]; exact h1
        have H1 := Lib.hid (bytes_step s a k hsz)
        have hc1 : (s.extract a s.size)[k].toNat < 256 := UInt8.toNat_lt _
        have e7 : (7 * (k : Int)).toNat = 7 * k := by omega
        go_wp2_with (go_at_call 264; refine (bits_i64 _ (by omega) (by omega) _).mono ?_; rintro e w' ⟨rfl, rfl⟩)
        · have ht : (IntKind.i64.wrap (sgn (s.extract a s.size)[k].toNat * 2 ^ (7 * k)) / 2 ^ (7 * k) != sgn (s.extract a s.size)[k].toNat) = true := by rw [IntWalk.i64_left]; assumption
          go_ret3
          have hv : R = none := by rw [HK.out, H1.out]; exact rd_bad h5 ht
          exact ⟨by rw [hv]; rfl, rfl⟩
        · have ht : (IntKind.i64.wrap (sgn (s.extract a s.size)[k].toNat * 2 ^ (7 * k)) / 2 ^ (7 * k) != sgn (s.extract a s.size)[k].toNat) = false := by rw [IntWalk.i64_left]; assumption
          have h8 : ((s.extract a s.size)[k].toNat : Int) < 128 := by assumption
          go_ret3
          have hv := (HK.out.trans (congrArg (rd .i64 sgn 10 k X) H1.out)).trans (rd_end h5 ht h8)
          exact ⟨by rw [hv, IntWalk.i64_left]; simp only [outOf, Int.natCast_add, Int.add_assoc]; rfl, rfl⟩
        · have ht : (IntKind.i64.wrap (sgn (s.extract a s.size)[k].toNat * 2 ^ (7 * k)) / 2 ^ (7 * k) != sgn (s.extract a s.size)[k].toNat) = false := by rw [IntWalk.i64_left]; assumption
          have h8 : 128 ≤ ((s.extract a s.size)[k].toNat : Int) := by assumption
          have hn := (HK.out.trans (congrArg (rd .i64 sgn 10 k X) H1.out)).trans (rd_on h5 ht h8)
          have HN := Lib.hid hn
          clear hn
          go_round
          case rel => exact ⟨k + 1, _, by omega, by omega, by go_num, rfl, Lib.hid (by rw [HN.out, IntWalk.i64_left])⟩
          case measure => simp [intOf]; omega
      · have hv : R = none := by rw [HK.out]; exact rd_over _ _ _ _ _ _ h5
        go_wp2
        go_ret3
        exact ⟨rfl, rfl⟩
    · have hv : R = none := by rw [HK.out, List.drop_eq_nil_of_le (by simp; omega)]; rfl
      go_wp2
      go_ret3
      exact ⟨rfl, rfl⟩
theorem drop_extract (s : ByteArray) (a : Nat) : (s.extract a s.size).data.toList = s.data.toList.drop a := by
  simp [ByteArray.data_extract]
  exact List.take_of_length_le (by simp)
theorem ans_none {K : IntKind} {p : Int → Int} {most : Nat} {l : List UInt8} {place : Int} (h : place < 0 ∨ (l.length : Int) < place) : ans K p most l place = (0, 0, 1) := by
  unfold ans; rw [if_pos h]
theorem ans_out {K : IntKind} {p : Int → Int} {most : Nat} (st : Step K p most) (s : ByteArray) (a : Nat) (ha : a ≤ s.size) :
    ans K p most s.data.toList a = outOf a (rd K p most 0 0 (s.extract a s.size).data.toList) := by
  unfold ans
  rw [if_neg (by simp; omega), rd_dec st, drop_extract, Int.toNat_natCast]
  cases fit K most (dec p (s.data.toList.drop a)) with
  | none => rfl
  | some x => rfl
theorem read_u32_any (s : ByteArray) (place : Int) (hs : s.size ≤ maxLen) (w : World) :
    Calls Tryz.prog 236 #[.string s, .int .i64 place, .int .i64 5] w fun e w' => e = .returned (.tuple #[.int .u32 (ans .u32 usg 5 s.data.toList place).1, .int .i64 (ans .u32 usg 5 s.data.toList place).2.1, .int .i64 (ans .u32 usg 5 s.data.toList place).2.2]) ∧ w = w' := by
  by_cases h : place < 0 ∨ (s.size : Int) < place
  · rw [ans_none (by simpa using h)]
    exact read_u32_none s place 5 h w
  · obtain ⟨a, rfl⟩ := Int.eq_ofNat_of_zero_le (show 0 ≤ place by omega)
    rw [ans_out step_u32 s a (by omega)]
    exact read_u32_walk s a (by omega) hs w
theorem get_u32 (s : ByteArray) (place : Int) (hs : s.size ≤ maxLen) (w : World) :
    Calls Tryz.prog 188 #[.string s, .int .i64 place] w fun e w' => e = .returned (.tuple #[.int .u32 (ans .u32 usg 5 s.data.toList place).1, .int .i64 (ans .u32 usg 5 s.data.toList place).2.1, .int .i64 (ans .u32 usg 5 s.data.toList place).2.2]) ∧ w = w' := by
  go_enter Tryz.func188, Tryz.ntmps188
  go_wp2_with (go_at_call 236; refine (read_u32_any _ _ hs _).mono ?_; rintro e w' ⟨rfl, rfl⟩)
  go_ret3
  exact ⟨rfl, rfl⟩
theorem read_i32_any (s : ByteArray) (place : Int) (hs : s.size ≤ maxLen) (w : World) :
    Calls Tryz.prog 237 #[.string s, .int .i64 place, .int .i64 5] w fun e w' => e = .returned (.tuple #[.int .i32 (ans .i32 sgn 5 s.data.toList place).1, .int .i64 (ans .i32 sgn 5 s.data.toList place).2.1, .int .i64 (ans .i32 sgn 5 s.data.toList place).2.2]) ∧ w = w' := by
  by_cases h : place < 0 ∨ (s.size : Int) < place
  · rw [ans_none (by simpa using h)]
    exact read_i32_none s place 5 h w
  · obtain ⟨a, rfl⟩ := Int.eq_ofNat_of_zero_le (show 0 ≤ place by omega)
    rw [ans_out step_i32 s a (by omega)]
    exact read_i32_walk s a (by omega) hs w
theorem get_i32 (s : ByteArray) (place : Int) (hs : s.size ≤ maxLen) (w : World) :
    Calls Tryz.prog 190 #[.string s, .int .i64 place] w fun e w' => e = .returned (.tuple #[.int .i32 (ans .i32 sgn 5 s.data.toList place).1, .int .i64 (ans .i32 sgn 5 s.data.toList place).2.1, .int .i64 (ans .i32 sgn 5 s.data.toList place).2.2]) ∧ w = w' := by
  go_enter Tryz.func190, Tryz.ntmps190
  go_wp2_with (go_at_call 237; refine (read_i32_any _ _ hs _).mono ?_; rintro e w' ⟨rfl, rfl⟩)
  go_ret3
  exact ⟨rfl, rfl⟩
theorem read_i64_any (s : ByteArray) (place : Int) (hs : s.size ≤ maxLen) (w : World) :
    Calls Tryz.prog 238 #[.string s, .int .i64 place, .int .i64 10] w fun e w' => e = .returned (.tuple #[.int .i64 (ans .i64 sgn 10 s.data.toList place).1, .int .i64 (ans .i64 sgn 10 s.data.toList place).2.1, .int .i64 (ans .i64 sgn 10 s.data.toList place).2.2]) ∧ w = w' := by
  by_cases h : place < 0 ∨ (s.size : Int) < place
  · rw [ans_none (by simpa using h)]
    exact read_i64_none s place 10 h w
  · obtain ⟨a, rfl⟩ := Int.eq_ofNat_of_zero_le (show 0 ≤ place by omega)
    rw [ans_out step_i64 s a (by omega)]
    exact read_i64_walk s a (by omega) hs w
theorem get_i64 (s : ByteArray) (place : Int) (hs : s.size ≤ maxLen) (w : World) :
    Calls Tryz.prog 192 #[.string s, .int .i64 place] w fun e w' => e = .returned (.tuple #[.int .i64 (ans .i64 sgn 10 s.data.toList place).1, .int .i64 (ans .i64 sgn 10 s.data.toList place).2.1, .int .i64 (ans .i64 sgn 10 s.data.toList place).2.2]) ∧ w = w' := by
  go_enter Tryz.func192, Tryz.ntmps192
  go_wp2_with (go_at_call 238; refine (read_i64_any _ _ hs _).mono ?_; rintro e w' ⟨rfl, rfl⟩)
  go_ret3
  exact ⟨rfl, rfl⟩
end Go.Proofs.YtdinpakclmnacaaGreatDoor
