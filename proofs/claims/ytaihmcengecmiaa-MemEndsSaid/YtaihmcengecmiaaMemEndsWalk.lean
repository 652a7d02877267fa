/-
  What would end behind the last byte is refused, and nothing is done; what ends there is not: walked. A contract that the proofs call.
-/
import Derived.Test.YtaihmcengecmiaaMemHead
namespace Go.Proofs.Ytaihmcengecmiaa
open Go.RowKit Go.Maps
set_option linter.unusedVariables false
set_option linter.unusedSimpArgs false

set_option maxRecDepth 100000 in
set_option maxHeartbeats 4000000 in
theorem memEnds_walk (a0 a1 a2 : Int) (s : ByteArray) (h0 : 0 ≤ a0 ∧ a0 ≤ 255) (h1 : 0 ≤ a1 ∧ a1 ≤ 255) (h2 : 0 ≤ a2 ∧ a2 ≤ 18446744073709551615) (hs : s.size ≤ 140737488355328) (w : World) : Calls Try.prog 5 #[.int .u8 a0, .int .u8 a1, .int .u64 a2, .string s] w fun e w' => e = .returned (.bool true) ∧ Below w.heap.size w w' := by
  obtain ⟨q0, q1⟩ := h0
  obtain ⟨q2, q3⟩ := h1
  obtain ⟨q4, q5⟩ := h2
  have hh := head8
  have c1 : ∀ w, Calls Try.prog 9 #[.int .i64 1, .int .i64 1] w fun e w' => ∃ b O, e = .returned (.tuple #[.pointer (some ⟨b, 0, none⟩), .int .i64 0]) ∧ MemAt O w.heap.size b 1 1 (fun _ => 0) w' ∧ Below w.heap.size w w' := fun w => new_is 1 1 (by decide) (by decide) (by decide) w
  obtain ⟨k, hk, hk1, hk8, hks⟩ : ∃ k : Nat, wrap64 (2 ^ (a0 % 4).toNat) = (k : Int) ∧ 1 ≤ k ∧ k ≤ 8 ∧ isSize k = true := by
    have : a0 % 4 = 0 ∨ a0 % 4 = 1 ∨ a0 % 4 = 2 ∨ a0 % 4 = 3 := by omega
    rcases this with e | e | e | e <;> rw [e]
    · exact ⟨1, by decide +kernel, by decide, by decide, rfl⟩
    · exact ⟨2, by decide +kernel, by decide, by decide, rfl⟩
    · exact ⟨4, by decide +kernel, by decide, by decide, rfl⟩
    · exact ⟨8, by decide +kernel, by decide, by decide, rfl⟩
  obtain ⟨t, ht, hts⟩ : ∃ t : ByteArray, s.extract 0 (min (s.size : Int) 100).toNat = t ∧ t.size ≤ 100 := ⟨_, rfl, by rw [ByteArray.size_extract]; omega⟩
  have x1 : ((65536 - k : Nat) : Int) = 65536 - (k : Int) := by omega
  have x2 : ((65536 - t.size : Nat) : Int) = 65536 - (t.size : Int) := by omega
  have s1 : ∀ {O B b w}, MemAt O B b 1 1 (fun _ => 0) w → Calls Try.prog 15 #[.pointer (some ⟨b, 0, none⟩), .int .u64 (65536 - (k : Int)), .int .i64 k, .int .u64 a2] w fun e w' => e = .returned (.bool true) ∧ MemAt O B b 1 1 (putN (fun _ => 0) (65536 - k) k a2.toNat) w' ∧ Kept O w w' := fun h => by
    have := store_at h (65536 - k) k hks (inN_iff.2 (by omega)) a2.toNat (by omega)
    rw [x1, show ((a2.toNat : Nat) : Int) = a2 by omega] at this
    exact this
  have s2 : ∀ {O B b f w}, MemAt O B b 1 1 f w → Calls Try.prog 15 #[.pointer (some ⟨b, 0, none⟩), .int .u64 (65536 - (k : Int) + 1 + a1), .int .i64 k, .int .u64 a2] w fun e w' => e = .returned (.bool false) ∧ w = w' := fun h => by
    have := store_no h (65536 - k + 1 + a1.toNat) (by omega) k (by omega) (by omega) (.inr (by rw [← Bool.not_eq_true, inN_iff]; omega)) a2
    rw [show ((65536 - k + 1 + a1.toNat : Nat) : Int) = 65536 - (k : Int) + 1 + a1 by omega] at this
    exact this
  have s3 : ∀ {O B b f w}, MemAt O B b 1 1 f w → Calls Try.prog 15 #[.pointer (some ⟨b, 0, none⟩), .int .u64 18446744073709551615, .int .i64 k, .int .u64 a2] w fun e w' => e = .returned (.bool false) ∧ w = w' := fun h =>
    store_no h 18446744073709551615 (by omega) k (by omega) (by omega) (.inr (by rw [← Bool.not_eq_true, inN_iff]; omega)) a2
  have l1 : ∀ {O B b f w}, MemAt O B b 1 1 f w → Calls Try.prog 17 #[.pointer (some ⟨b, 0, none⟩), .int .u64 (65536 - (k : Int) + 1 + a1), .int .i64 k] w fun e w' => e = .returned (.tuple #[.int .u64 0, .bool false]) ∧ w = w' := fun h => by
    have := load_no h (65536 - k + 1 + a1.toNat) (by omega) k (by omega) (by omega) (.inr (by rw [← Bool.not_eq_true, inN_iff]; omega))
    rw [show ((65536 - k + 1 + a1.toNat : Nat) : Int) = 65536 - (k : Int) + 1 + a1 by omega] at this
    exact this
  have w1 : ∀ {O B b f w}, MemAt O B b 1 1 f w → Calls Try.prog 14 #[.pointer (some ⟨b, 0, none⟩), .int .u64 (65536 - (t.size : Int)), .string t] w fun e w' => e = .returned (.bool true) ∧ MemAt O B b 1 1 (putS f (65536 - t.size) t.data.toList) w' ∧ Kept O w w' := fun h => by
    have := write_at h (65536 - t.size) t (by omega) (inN_iff.2 (by omega))
    rw [x2] at this
    exact this
  have w2 : ∀ {O B b f w}, MemAt O B b 1 1 f w → Calls Try.prog 14 #[.pointer (some ⟨b, 0, none⟩), .int .u64 (65536 - (t.size : Int) + 1), .string t] w fun e w' => e = .returned (.bool false) ∧ w = w' := fun h => by
    have := write_no h (65536 - t.size + 1) (by omega) t (by omega) (by rw [← Bool.not_eq_true, inN_iff]; omega)
    rw [show ((65536 - t.size + 1 : Nat) : Int) = 65536 - (t.size : Int) + 1 by omega] at this
    exact this
  have l2 : ∀ {O B b f w}, MemAt O B b 1 1 f w → Calls Try.prog 17 #[.pointer (some ⟨b, 0, none⟩), .int .u64 0, .int .i64 3] w fun e w' => e = .returned (.tuple #[.int .u64 0, .bool false]) ∧ w = w' := fun h => load_no h 0 (by decide) 3 (by decide) (by decide) (.inl rfl)
  have y1 : ∀ {O B b f w}, MemAt O B b 1 1 f w → Calls Try.prog 18 #[.pointer (some ⟨b, 0, none⟩), .int .u64 65536, .int .i64 0] w fun e w' => e = .returned (.tuple #[.string ⟨#[]⟩, .bool true]) ∧ Below w.heap.size w w' := fun h => bytes_yes h 65536 0 rfl
  have g1 : ∀ {O B b f w}, MemAt O B b 1 1 f w → Calls Try.prog 16 #[.pointer (some ⟨b, 0, none⟩), .int .u32 1] w fun e w' => e = .returned (.int .i32 (-1)) ∧ w = w' := fun h => grow_no h 1 (by decide) (by decide)
  have p1 : ∀ {O B b f w}, MemAt O B b 1 1 f w → Calls Try.prog 12 #[.pointer (some ⟨b, 0, none⟩)] w fun e w' => e = .returned (.int .i64 1) ∧ w = w' := fun h => pages_is h
  clear x1 x2
  have HKS := Lib.hid hks
  clear hks
  go_enter Try.func5, Try.ntmps5
  go_wp2_with (first
    | (go_at_call 8; (with_reducible refine (hh _).mono ?_); rintro e wa ⟨rfl, hb1⟩)
    | (go_at_call 9; (with_reducible refine (c1 _).mono ?_); rintro e wb ⟨b, O, rfl, hm2, hb2⟩)
    | (go_at_call 15; (with_reducible refine (s1 hm2).mono ?_); rintro e wc ⟨rfl, hm3, hk3⟩; have hb3 := hb2.trans (hm2.keeps hb2.size hk3))
    | (go_at_call 15; (with_reducible refine (s2 hm3).mono ?_); rintro e w' ⟨rfl, rfl⟩)
    | (go_at_call 15; (with_reducible refine (s3 hm3).mono ?_); rintro e w' ⟨rfl, rfl⟩)
    | (go_at_call 17; (with_reducible refine (l1 hm3).mono ?_); rintro e w' ⟨rfl, rfl⟩)
    | (go_at_call 14; (with_reducible refine (w1 hm3).mono ?_); rintro e wd ⟨rfl, hm4, hk4⟩; have hb4 := hb3.trans (hm3.keeps hb3.size hk4))
    | (go_at_call 14; (with_reducible refine (w2 hm4).mono ?_); rintro e w' ⟨rfl, rfl⟩)
    | (go_at_call 17; (with_reducible refine (l2 hm4).mono ?_); rintro e w' ⟨rfl, rfl⟩)
    | (go_at_call 18; (with_reducible refine (y1 hm4).mono ?_); rintro e we ⟨rfl, hb5⟩; have hm5 := hm4.below hb5; have hb6 := hb4.trans (hb5.mono hb4.size))
    | (go_at_call 16; (with_reducible refine (g1 hm5).mono ?_); rintro e w' ⟨rfl, rfl⟩)
    | (go_at_call 12; (with_reducible refine (p1 hm5).mono ?_); rintro e w' ⟨rfl, rfl⟩))
  go_ret
  exact ⟨rfl, hb1.trans (hb6.mono hb1.size)⟩
end Go.Proofs.Ytaihmcengecmiaa
