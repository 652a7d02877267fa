/-
  Two numbers that are stored apart are both loaded, in whatever order they were stored: walked. A contract that the proofs call.
-/
import Derived.Test.YtaihmcengecmiaaMemBackWalk
namespace Go.Proofs.Ytaihmcengecmiaa
open Go.RowKit Go.Maps
set_option linter.unusedVariables false
set_option linter.unusedSimpArgs false

theorem put_apart (f : Nat → UInt8) (x y k l a c : Nat) (h : x + k ≤ y) : putN (putN f x k a) y l c = putN (putN f y l c) x k a := by
  funext i
  unfold putN
  by_cases h1 : y ≤ i ∧ i < y + l
  · rw [if_pos h1, if_neg (by omega), if_pos h1]
  · rw [if_neg h1]
    by_cases h2 : x ≤ i ∧ i < x + k
    · rw [if_pos h2, if_pos h2]
    · rw [if_neg h2, if_neg h2, if_neg h1]
set_option maxRecDepth 100000 in
set_option maxHeartbeats 4000000 in
theorem memApart_walk (a0 a1 a2 a3 : Int) (h0 : 0 ≤ a0 ∧ a0 ≤ 4294967295) (h1 : 0 ≤ a1 ∧ a1 ≤ 4294967295) (h2 : 0 ≤ a2 ∧ a2 ≤ 18446744073709551615) (h3 : 0 ≤ a3 ∧ a3 ≤ 18446744073709551615) (w : World) : Calls Try.prog 7 #[.int .u32 a0, .int .u32 a1, .int .u64 a2, .int .u64 a3] w fun e w' => e = .returned (.bool true) ∧ Below w.heap.size w w' := by
  obtain ⟨q0, q1⟩ := h0
  obtain ⟨q2, q3⟩ := h1
  obtain ⟨q4, q5⟩ := h2
  obtain ⟨q6, q7⟩ := h3
  have hh := head8
  have c1 : ∀ w, Calls Try.prog 9 #[.int .i64 2, .int .i64 2] w fun e w' => ∃ b O, e = .returned (.tuple #[.pointer (some ⟨b, 0, none⟩), .int .i64 0]) ∧ MemAt O w.heap.size b 2 2 (fun _ => 0) w' ∧ Below w.heap.size w w' := fun w => new_is 2 2 (by decide) (by decide) (by decide) w
  obtain ⟨x, hx, hx1⟩ : ∃ x : Nat, a0 % 65000 = (x : Int) ∧ x < 65000 := ⟨(a0 % 65000).toNat, by omega, by omega⟩
  obtain ⟨z, hz, hz1⟩ : ∃ z : Nat, a1 % 65000 = (z : Int) ∧ z < 65000 := ⟨(a1 % 65000).toNat, by omega, by omega⟩
  obtain ⟨f1, hf1⟩ : ∃ f, f = putN (fun _ => 0) x 8 a2.toNat := ⟨_, rfl⟩
  obtain ⟨f2, hf2⟩ : ∃ f, f = putN f1 (x + 8 + z) 8 a3.toNat := ⟨_, rfl⟩
  obtain ⟨f3, hf3⟩ : ∃ f, f = putN (fun _ => 0) (x + 8 + z) 8 a3.toNat := ⟨_, rfl⟩
  have hf4 : putN f3 x 8 a2.toNat = f2 := by rw [hf3, hf2, hf1, put_apart _ x (x + 8 + z) 8 8 _ _ (by omega)]
  have e2 : ((a2.toNat : Nat) : Int) = a2 := by omega
  have e3 : ((a3.toNat : Nat) : Int) = a3 := by omega
  have s1 : ∀ {O B b w}, MemAt O B b 2 2 (fun _ => 0) w → Calls Try.prog 15 #[.pointer (some ⟨b, 0, none⟩), .int .u64 x, .int .i64 8, .int .u64 a2] w fun e w' => e = .returned (.bool true) ∧ MemAt O B b 2 2 f1 w' ∧ Kept O w w' := fun h => by
    have := store_at h x 8 rfl (inN_iff.2 (by omega)) a2.toNat (by omega)
    rw [e2] at this
    rw [hf1]
    exact this
  have s2 : ∀ {O B b w}, MemAt O B b 2 2 f1 w → Calls Try.prog 15 #[.pointer (some ⟨b, 0, none⟩), .int .u64 ((x : Int) + 8 + z), .int .i64 8, .int .u64 a3] w fun e w' => e = .returned (.bool true) ∧ MemAt O B b 2 2 f2 w' ∧ Kept O w w' := fun h => by
    have := store_at h (x + 8 + z) 8 rfl (inN_iff.2 (by omega)) a3.toNat (by omega)
    rw [e3] at this
    rw [hf2]
    exact this
  have s3 : ∀ {O B b w}, MemAt O B b 2 2 (fun _ => 0) w → Calls Try.prog 15 #[.pointer (some ⟨b, 0, none⟩), .int .u64 ((x : Int) + 8 + z), .int .i64 8, .int .u64 a3] w fun e w' => e = .returned (.bool true) ∧ MemAt O B b 2 2 f3 w' ∧ Kept O w w' := fun h => by
    have := store_at h (x + 8 + z) 8 rfl (inN_iff.2 (by omega)) a3.toNat (by omega)
    rw [e3] at this
    rw [hf3]
    exact this
  have s4 : ∀ {O B b w}, MemAt O B b 2 2 f3 w → Calls Try.prog 15 #[.pointer (some ⟨b, 0, none⟩), .int .u64 x, .int .i64 8, .int .u64 a2] w fun e w' => e = .returned (.bool true) ∧ MemAt O B b 2 2 f2 w' ∧ Kept O w w' := fun h => by
    have := store_at h x 8 rfl (inN_iff.2 (by omega)) a2.toNat (by omega)
    rw [e2] at this
    rw [← hf4]
    exact this
  have l1 : ∀ {O B b w}, MemAt O B b 2 2 f2 w → Calls Try.prog 17 #[.pointer (some ⟨b, 0, none⟩), .int .u64 x, .int .i64 8] w fun e w' => e = .returned (.tuple #[.int .u64 a2, .bool true]) ∧ w = w' := fun h => by
    have := load_at h x 8 rfl (inN_iff.2 (by omega))
    rw [← hf4, show (8 : Int).toNat = 8 from rfl, leN_put _ _ _ _ 8 (Nat.le_refl _), show ((a2.toNat % 256 ^ 8 : Nat) : Int) = a2 by omega] at this
    exact this
  have l2 : ∀ {O B b w}, MemAt O B b 2 2 f2 w → Calls Try.prog 17 #[.pointer (some ⟨b, 0, none⟩), .int .u64 ((x : Int) + 8 + z), .int .i64 8] w fun e w' => e = .returned (.tuple #[.int .u64 a3, .bool true]) ∧ w = w' := fun h => by
    have := load_at h (x + 8 + z) 8 rfl (inN_iff.2 (by omega))
    rw [hf2, show (8 : Int).toNat = 8 from rfl, leN_put _ _ _ _ 8 (Nat.le_refl _), show ((a3.toNat % 256 ^ 8 : Nat) : Int) = a3 by omega] at this
    exact this
  obtain ⟨S, hS⟩ : ∃ S : ByteArray, (⟨(txtN f2 0 131072).toArray⟩ : ByteArray) = S := ⟨_, rfl⟩
  have y1 : ∀ {O B b w}, MemAt O B b 2 2 f2 w → Calls Try.prog 18 #[.pointer (some ⟨b, 0, none⟩), .int .u64 0, .int .i64 131072] w fun e w' => e = .returned (.tuple #[.string S, .bool true]) ∧ Below w.heap.size w w' := fun h => by
    have := bytes_yes h 0 131072 rfl
    rw [hS] at this
    exact this
  clear hf1 hf2 hf3 hf4 hS e2 e3
  go_enter Try.func7, Try.ntmps7
  go_wp2_with (first
    | (go_at_call 8; (with_reducible refine (hh _).mono ?_); rintro e wa ⟨rfl, hb1⟩; clear hh)
    | (go_at_call 9; (with_reducible refine (c1 wa).mono ?_); rintro e wb ⟨b, O, rfl, hm2, hb2⟩)
    | (go_at_call 9; (with_reducible refine (c1 wb).mono ?_); rintro e wc ⟨d, O', rfl, hn3, hb3⟩; have hm3 := hm2.below hb3; have hd := fun k (h : O k) (h' : O' k) => Nat.not_lt.2 (hn3.low k h').1 (hm2.low k h).2; have hB3 := hb2.trans (hb3.mono hb2.size))
    | (go_at_call 15; (with_reducible refine (s1 hm3).mono ?_); rintro e wd ⟨rfl, hm4, hk4⟩; have hn4 := hn3.kept hk4 (fun k h' h => hd k h h'); have hB4 := hB3.trans (hm3.keeps hB3.size hk4))
    | (go_at_call 15; (with_reducible refine (s2 hm4).mono ?_); rintro e we ⟨rfl, hm5, hk5⟩; have hn5 := hn4.kept hk5 (fun k h' h => hd k h h'); have hB5 := hB4.trans (hm4.keeps hB4.size hk5))
    | (go_at_call 15; (with_reducible refine (s3 hn5).mono ?_); rintro e wf ⟨rfl, hn6, hk6⟩; have hm6 := hm5.kept hk6 hd; have hB6 := hB5.trans ((hn5.keeps (Nat.le_trans hb3.size (Nat.le_trans hk4.size hk5.size)) hk6).mono hb2.size))
    | (go_at_call 15; (with_reducible refine (s4 hn6).mono ?_); rintro e wg ⟨rfl, hn7, hk7⟩; have hm7 := hm6.kept hk7 hd; have hB7 := hB6.trans ((hn6.keeps (Nat.le_trans hb3.size (Nat.le_trans hk4.size (Nat.le_trans hk5.size hk6.size))) hk7).mono hb2.size))
    | (go_at_call 17; (with_reducible refine (l1 hm7).mono ?_); rintro e w' ⟨rfl, rfl⟩)
    | (go_at_call 17; (with_reducible refine (l2 hm7).mono ?_); rintro e w' ⟨rfl, rfl⟩)
    | (go_at_call 18; (with_reducible refine (y1 hm7).mono ?_); rintro e wh ⟨rfl, hb8⟩; have hn8 := hn7.below hb8; have hB8 := hB7.trans (hb8.mono hB7.size))
    | (go_at_call 18; (with_reducible refine (y1 hn8).mono ?_); rintro e wi ⟨rfl, hb9⟩; have hB9 := hB8.trans (hb9.mono hB8.size)))
  go_ret
  exact ⟨rfl, hb1.trans (hB9.mono hb1.size)⟩
end Go.Proofs.Ytaihmcengecmiaa
