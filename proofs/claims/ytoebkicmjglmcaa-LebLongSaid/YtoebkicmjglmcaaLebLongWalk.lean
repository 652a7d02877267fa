/-
  LebLong, walked: a number that is written longer than it need be is read as well, up to five bytes of 32 bits, and ten of 64.
-/
import Derived.Test.YtoebkicmjglmcaaLebAns
namespace Go.Proofs.Ytoebkicmjglmcaa.lebLong
open Go.RowKit

/-- The text that is read: the number's byte, so many bytes of 128, a byte of 0. -/
def zeros (k : Nat) : List UInt8 := List.replicate k 128
theorem zeros_succ (k : Nat) : zeros (k + 1) = zeros k ++ [128] := List.replicate_succ'
theorem dec_zeros (p : Int → Int) (hp : p 0 = 0) : ∀ k, dec p (zeros k ++ [0]) = some (0, k + 1)
  | 0 => by simp [zeros, dec, hp]
  | k + 1 => by
    have h := dec_zeros p hp k
    simp only [zeros, List.replicate_succ, List.cons_append] at h ⊢
    simp only [dec, h]
    simp
def text (n : Int) (k : Nat) : List UInt8 := UInt8.ofNat (n % 128 + 128).toNat :: zeros k
theorem text_succ (n : Int) (k : Nat) : text n (k + 1) = text n k ++ [128] := by simp [text, zeros_succ]
theorem len_text (n : Int) (k : Nat) : (text n k).length = k + 1 := by simp [text, zeros]
theorem dec_text (n : Int) (k : Nat) : dec usg (text n k ++ [0]) = some (n % 128, k + 2) := by
  have hb : ((UInt8.ofNat (n % 128 + 128).toNat).toNat : Int) = n % 128 + 128 := byte_of (by omega) (by omega)
  simp only [text, List.cons_append, dec]
  rw [if_neg (by omega), dec_zeros usg (by decide), hb]
  simp

theorem in32 {n : Int} {k : Nat} (h : k + 2 ≤ 5) : ans .u32 usg 5 (text n k ++ [0]) 0 = (n % 128, (k : Int) + 2, 0) := by
  have h := ans_some (K := .u32) (p := usg) (most := 5) [] _ (dec_text n k) h (by simp [IntKind.min, IntKind.signed]; omega) (by simp [IntKind.max, IntKind.signed, IntKind.bits]; omega)
  simpa using h
theorem out32 {n : Int} {k : Nat} (h : 5 < k + 2) : ans .u32 usg 5 (text n k ++ [0]) 0 = (0, 0, 2) := by
  have h := ans_not (K := .u32) (p := usg) (most := 5) [] _ (dec_text n k) (by omega)
  simpa using h
theorem in64 {n : Int} {k : Nat} (h : k + 2 ≤ 10) : ans .u64 usg 10 (text n k ++ [0]) 0 = (n % 128, (k : Int) + 2, 0) := by
  have h := ans_some (K := .u64) (p := usg) (most := 10) [] _ (dec_text n k) h (by simp [IntKind.min, IntKind.signed]; omega) (by simp [IntKind.max, IntKind.signed, IntKind.bits]; omega)
  simpa using h
theorem out64 {n : Int} {k : Nat} (h : 10 < k + 2) : ans .u64 usg 10 (text n k ++ [0]) 0 = (0, 0, 2) := by
  have h := ans_not (K := .u64) (p := usg) (most := 10) [] _ (dec_text n k) (by omega)
  simpa using h

theorem add_text (n : Int) (j : Nat) (h : j ≤ 100) (b : UInt8) (w : World) : (Op.stringOp .add ⟨(text n j).toArray⟩ ⟨#[b]⟩).run Try.prog w = .ok (.string ⟨(text n j ++ [b]).toArray⟩) w :=
  run_string_add_lists w (text n j) [b] (by rw [len_text]; omega) (by simp)

theorem conv_one (w : World) (x : Int) (h0 : 0 ≤ x) (h1 : x < 256) : (convert 47 9 (.slice (some ⟨w.heap.size, 0, none⟩) 1 1)).run Try.prog (w.alloc (.cells #[.int .u8 x] 5)) = .ok (.string ⟨#[UInt8.ofNat x.toNat]⟩) (w.alloc (.cells #[.int .u8 x] 5)) := by
  have h : Row (w.alloc (.cells #[.int .u8 x] 5)) w.heap.size 5 1 [UInt8.ofNat x.toNat] :=
    ⟨#[.int .u8 x], heap_alloc_new w _, rfl, by simp, by simp only [List.map_cons, List.map_nil, byte_of h0 h1]; rfl⟩
  exact row_string (P := Try.prog) _ 47 9 5 _ _ _ _ Try.underlying47 Try.underlying5 Try.underlying9 h
end Go.Proofs.Ytoebkicmjglmcaa.lebLong
namespace Go.Proofs.Ytoebkicmjglmcaa
open Go.RowKit lebLong

set_option maxRecDepth 100000 in
set_option maxHeartbeats 2000000 in
theorem lebLong_walk (n k : Int) (hn0 : 0 ≤ n) (hn1 : n ≤ 255) (hk0 : 0 ≤ k) (hk1 : k ≤ 255) (w : World) :
    Calls Try.prog 7 #[.int .u8 n, .int .u8 k] w fun e w' => e = .returned (.bool true) ∧ Below w.heap.size w w' := by
  have hor : bits .or .u8 (n % 128) 128 = n % 128 + 128 := u8_or128_right _ (by omega) (by omega)
  go_enter Try.func7, Try.ntmps7
  go_wp2_with (first
        | (go_at_call 11; (with_reducible refine (head_true _).mono ?_); rintro e w0 ⟨rfl, hb0⟩; have hcv := conv_one w0 (n % 128 + 128) (by omega) (by omega)))
  clear hor
  go_loop [7, 8] (fun v i => ∃ j : Nat, (j : Int) ≤ k % 12 ∧ i = .int .i64 ((j : Int) + 1) ∧ v = .string ⟨(text n j).toArray⟩) (fun _ i => 20 - (intOf i).toNat)
  case atStart => exact ⟨0, by omega, rfl, rfl⟩
  case round =>
    obtain ⟨j, hj, rfl, rfl⟩ := hrel
    have hl := len_text n j
    by_cases hlt : (j : Int) < k % 12
    · have ha : ∀ w, (Op.stringOp .add ⟨(text n j).toArray⟩ ⟨#[128]⟩).run Try.prog w = .ok (.string ⟨(text n (j + 1)).toArray⟩) w := fun w => by rw [text_succ]; exact add_text n j (by omega) 128 w
      go_wp2
      go_round
      case rel => exact ⟨j + 1, by omega, by go_num, rfl⟩
      case measure => simp [intOf]; omega
    · have hj2 : k % 12 = j := by omega
      have ha := fun w => add_text n j (by omega) 0 w
      have hl2 : (text n j ++ [0]).length = j + 2 := by simp [hl]
      by_cases h5 : j + 2 ≤ 5
      · have c1 := U32_of (text n j ++ [0]) 0 (in32 h5) (by simp [len_text]; omega)
        have c2 := U64_of (text n j ++ [0]) 0 (in64 (by omega)) (by simp [len_text]; omega)
        go_wp2_with (first
                | (go_at_call 16; (with_reducible refine (c1 _).mono ?_); rintro e w' ⟨rfl, rfl⟩)
                | (go_at_call 20; (with_reducible refine (c2 _).mono ?_); rintro e w' ⟨rfl, rfl⟩))
        go_ret
        exact ⟨by first | rfl | exact ret_true (by simp; omega), hb0.alloc (by have := hb0.size; omega) _⟩
      · by_cases h10 : j + 2 ≤ 10
        · have c1 := U32_of (text n j ++ [0]) 0 (out32 (by omega)) (by simp [len_text]; omega)
          have c2 := U64_of (text n j ++ [0]) 0 (in64 h10) (by simp [len_text]; omega)
          go_wp2_with (first
                  | (go_at_call 16; (with_reducible refine (c1 _).mono ?_); rintro e w' ⟨rfl, rfl⟩)
                  | (go_at_call 20; (with_reducible refine (c2 _).mono ?_); rintro e w' ⟨rfl, rfl⟩))
          go_ret
          exact ⟨by first | rfl | exact ret_true (by simp; omega), hb0.alloc (by have := hb0.size; omega) _⟩
        · have c1 := U32_of (text n j ++ [0]) 0 (out32 (by omega)) (by simp [len_text]; omega)
          have c2 := U64_of (text n j ++ [0]) 0 (out64 (by omega)) (by simp [len_text]; omega)
          go_wp2_with (first
                  | (go_at_call 16; (with_reducible refine (c1 _).mono ?_); rintro e w' ⟨rfl, rfl⟩)
                  | (go_at_call 20; (with_reducible refine (c2 _).mono ?_); rintro e w' ⟨rfl, rfl⟩))
          go_ret
          exact ⟨by first | rfl | exact ret_true (by simp; omega), hb0.alloc (by have := hb0.size; omega) _⟩
end Go.Proofs.Ytoebkicmjglmcaa
