/-
  Chapter 8's examples, walked. A contract that the proofs call; no statement is proved here.
-/
import Derived.Test.YtaihmcengecmiaaMemBytes
namespace Go.Proofs.Ytaihmcengecmiaa
open Go.RowKit Go.Maps
set_option linter.unusedVariables false
set_option linter.unusedSimpArgs false
variable {O O' : Nat → Prop} {B b n most : Nat} {f : Nat → UInt8} {v : Value} {mb : Nat} {ps : List Nat} {w w' w'' : World}

theorem store_at (h : MemAt O B b n most f w) (a : Nat) (size : Int) (hs : isSize size = true) (hi : inN n a size = true) (x : Nat) (hx : x < 18446744073709551616) :
    Calls Try.prog 15 #[.pointer (some ⟨b, 0, none⟩), .int .u64 a, .int .i64 size, .int .u64 x] w fun e w' => e = .returned (.bool true) ∧ MemAt O B b n most (putN f a size.toNat x) w' ∧ Kept O w w' := by
  obtain ⟨v, mb, ps, h⟩ := h
  exact (store_yes h a size hs hi x hx).mono fun e w' ⟨h1, h2, h3⟩ => ⟨h1, ⟨v, mb, ps, h2⟩, h3⟩
theorem load_at (h : MemAt O B b n most f w) (a : Nat) (size : Int) (hs : isSize size = true) (hi : inN n a size = true) :
    Calls Try.prog 17 #[.pointer (some ⟨b, 0, none⟩), .int .u64 a, .int .i64 size] w fun e w' => e = .returned (.tuple #[.int .u64 (leN f a size.toNat), .bool true]) ∧ w = w' := by
  obtain ⟨v, mb, ps, h⟩ := h
  exact load_yes h a size hs hi
theorem write_at (h : MemAt O B b n most f w) (a : Nat) (s : ByteArray) (hss : s.size < 9223372036854775808) (hi : inN n a (s.size : Int) = true) :
    Calls Try.prog 14 #[.pointer (some ⟨b, 0, none⟩), .int .u64 a, .string s] w fun e w' => e = .returned (.bool true) ∧ MemAt O B b n most (putS f a s.data.toList) w' ∧ Kept O w w' := by
  obtain ⟨v, mb, ps, h⟩ := h
  exact (write_yes h a s hss hi).mono fun e w' ⟨h1, h2, h3⟩ => ⟨h1, ⟨v, mb, ps, h2⟩, h3⟩
theorem MemAt.keeps (h : MemAt O B b n most f w) (hB : B ≤ w.heap.size) (hk : Kept O w w') : Below B w w' := hk.below (fun k hk => (h.low k hk).1) hB
set_option maxRecDepth 100000 in
set_option maxHeartbeats 4000000 in
theorem head8 (w : World) : Calls Try.prog 8 #[] w fun e w' => e = .returned (.bool true) ∧ Below w.heap.size w w' := by
  have n1 : ∀ w, Calls Try.prog 9 #[.int .i64 1, .int .i64 2] w fun e w' => ∃ b O, e = .returned (.tuple #[.pointer (some ⟨b, 0, none⟩), .int .i64 0]) ∧ MemAt O w.heap.size b 1 2 (fun _ => 0) w' ∧ Below w.heap.size w w' := fun w => new_is 1 2 (by decide) (by decide) (by decide) w
  have n2 := new_arg 2 1 (by decide) (by decide) (by decide)
  have n3 := new_room 257 (-1) (by decide) (by decide) (by decide) (by decide) (by decide)
  have s1 : ∀ {O B b w}, MemAt O B b 1 2 (fun _ => 0) w → Calls Try.prog 15 #[.pointer (some ⟨b, 0, none⟩), .int .u64 65528, .int .i64 8, .int .u64 1099511627776] w fun e w' => e = .returned (.bool true) ∧ MemAt O B b 1 2 (putN (fun _ => 0) 65528 8 1099511627776) w' ∧ Kept O w w' := fun h => store_at h 65528 8 rfl rfl 1099511627776 (by decide)
  have l1 : ∀ {O B b w}, MemAt O B b 1 2 (putN (fun _ => 0) 65528 8 1099511627776) w → Calls Try.prog 17 #[.pointer (some ⟨b, 0, none⟩), .int .u64 65533, .int .i64 1] w fun e w' => e = .returned (.tuple #[.int .u64 1, .bool true]) ∧ w = w' := fun h => by
    have := load_at h 65533 1 rfl rfl
    rw [show leN (putN (fun _ => 0) 65528 8 1099511627776) 65533 (1 : Int).toNat = 1 by decide +kernel] at this
    exact this
  have g1 : ∀ {O B b f w}, MemAt O B b 1 2 f w → B ≤ w.heap.size → Calls Try.prog 16 #[.pointer (some ⟨b, 0, none⟩), .int .u32 1] w fun e w' => e = .returned (.int .i32 1) ∧ (∃ O', MemAt O' B b 2 2 f w' ∧ Kept O w w' ∧ ∀ x, O' x → O x ∨ w.heap.size ≤ x) := fun h hB => grow_yes h hB 1 (by decide)
  have g2 : ∀ {O B b f w}, MemAt O B b 2 2 f w → Calls Try.prog 16 #[.pointer (some ⟨b, 0, none⟩), .int .u32 1] w fun e w' => e = .returned (.int .i32 (-1)) ∧ w = w' := fun h => grow_no h 1 (by decide) (by decide)
  have p1 : ∀ {O B b f w}, MemAt O B b 2 2 f w → Calls Try.prog 12 #[.pointer (some ⟨b, 0, none⟩)] w fun e w' => e = .returned (.int .i64 2) ∧ w = w' := fun h => pages_is h
  go_enter Try.func8, Try.ntmps8
  go_wp2_with (first
    | (go_at_call 9; (with_reducible refine (n1 _).mono ?_); rintro e w1 ⟨b, O, rfl, hm1, hb1⟩)
    | (go_at_call 9; (with_reducible refine (n2 _).mono ?_); rintro e w' ⟨rfl, rfl⟩)
    | (go_at_call 9; (with_reducible refine (n3 _).mono ?_); rintro e w' ⟨rfl, rfl⟩)
    | (go_at_call 15; (with_reducible refine (s1 hm1).mono ?_); rintro e w2 ⟨rfl, hm2, hk2⟩; have hb2 := hb1.trans (hm1.keeps hb1.size hk2))
    | (go_at_call 17; (with_reducible refine (l1 hm2).mono ?_); rintro e w' ⟨rfl, rfl⟩)
    | (go_at_call 16; (with_reducible refine (g2 hm3).mono ?_); rintro e w' ⟨rfl, rfl⟩)
    | (go_at_call 16; (with_reducible refine (g1 hm2 hb2.size).mono ?_); rintro e w3 ⟨rfl, O3, hm3, hk3, hO3⟩; have hb3 := hb2.trans (hm2.keeps hb2.size hk3))
    | (go_at_call 12; (with_reducible refine (p1 hm3).mono ?_); rintro e w' ⟨rfl, rfl⟩))
  go_ret
  exact ⟨rfl, hb3⟩
end Go.Proofs.Ytaihmcengecmiaa
