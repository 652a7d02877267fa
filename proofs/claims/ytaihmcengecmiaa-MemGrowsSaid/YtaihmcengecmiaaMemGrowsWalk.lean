/-
  A memory grows page by page as far as it may, and not further; new bytes are 0: walked. A contract that the proofs call.
-/
import Derived.Test.YtaihmcengecmiaaMemHead
namespace Go.Proofs.Ytaihmcengecmiaa
open Go.RowKit Go.Maps
set_option linter.unusedVariables false
set_option linter.unusedSimpArgs false

theorem leN_zero (a : Nat) : ∀ k, leN (fun _ => 0) a k = 0
  | 0 => rfl
  | k + 1 => by
    unfold leN
    rw [leN_zero a k]
    simp
set_option maxRecDepth 100000 in
set_option maxHeartbeats 4000000 in
theorem memGrows_walk (a0 : Int) (h0 : 0 ≤ a0 ∧ a0 ≤ 65535) (w : World) : Calls Try.prog 6 #[.int .u16 a0] w fun e w' => e = .returned (.bool true) ∧ Below w.heap.size w w' := by
  obtain ⟨q0, q1⟩ := h0
  obtain ⟨n, hn⟩ : ∃ n : Nat, a0 % 301 = (n : Int) := ⟨(a0 % 301).toNat, by omega⟩
  have hn1 : n ≤ 300 := by omega
  obtain ⟨top, ht⟩ : ∃ t, t = topOf n := ⟨_, rfl⟩
  have ht1 : top ≤ 256 ∧ top ≤ n ∧ (n ≤ 256 → top = n) ∧ (256 < n → top = 256) := by rw [ht]; unfold topOf; split <;> omega
  have hh := head8
  have c1 : ∀ w, Calls Try.prog 9 #[.int .i64 0, .int .i64 n] w fun e w' => ∃ b O, e = .returned (.tuple #[.pointer (some ⟨b, 0, none⟩), .int .i64 0]) ∧ MemAt O w.heap.size b 0 top (fun _ => 0) w' ∧ Below w.heap.size w w' := fun w => by
    rw [ht]
    exact new_is 0 n (by omega) (.inr (by omega)) (by decide) w
  have g1 : ∀ {O B b f w} (i : Nat), i < top → MemAt O B b i top f w → B ≤ w.heap.size → Calls Try.prog 16 #[.pointer (some ⟨b, 0, none⟩), .int .u32 1] w fun e w' => e = .returned (.int .i32 i) ∧ (∃ O', MemAt O' B b (i + 1) top f w' ∧ Kept O w w' ∧ ∀ x, O' x → O x ∨ w.heap.size ≤ x) := fun i hi h hB => grow_yes h hB 1 (by omega)
  have l1 : ∀ {O B b w} (i : Nat), i < top → MemAt O B b (i + 1) top (fun _ => 0) w → Calls Try.prog 17 #[.pointer (some ⟨b, 0, none⟩), .int .u64 (65536 * i + 65536 - 8), .int .i64 8] w fun e w' => e = .returned (.tuple #[.int .u64 0, .bool true]) ∧ w = w' := fun i hi h => by
    have := load_at h (65536 * i + 65528) 8 rfl (inN_iff.2 (by omega))
    rw [leN_zero] at this
    rw [show (65536 * (i : Int) + 65536 - 8) = ((65536 * i + 65528 : Nat) : Int) by omega]
    exact this
  have g2 : ∀ {O B b f w}, MemAt O B b top top f w → Calls Try.prog 16 #[.pointer (some ⟨b, 0, none⟩), .int .u32 1] w fun e w' => e = .returned (.int .i32 (-1)) ∧ w = w' := fun h => grow_no h 1 (by decide) (by omega)
  have g3 : ∀ {O B b f w}, MemAt O B b top top f w → Calls Try.prog 16 #[.pointer (some ⟨b, 0, none⟩), .int .u32 2147483648] w fun e w' => e = .returned (.int .i32 (-1)) ∧ w = w' := fun h => grow_no h 2147483648 (by decide) (by omega)
  have g4 : ∀ {O B b f w}, MemAt O B b top top f w → B ≤ w.heap.size → Calls Try.prog 16 #[.pointer (some ⟨b, 0, none⟩), .int .u32 0] w fun e w' => e = .returned (.int .i32 top) ∧ (∃ O', MemAt O' B b top top f w' ∧ Kept O w w' ∧ ∀ x, O' x → O x ∨ w.heap.size ≤ x) := fun h hB => grow_yes h hB 0 (by omega)
  have p1 : ∀ {O B b f w}, MemAt O B b top top f w → Calls Try.prog 12 #[.pointer (some ⟨b, 0, none⟩)] w fun e w' => e = .returned (.int .i64 top) ∧ w = w' := fun h => pages_is h
  have HT := Lib.hid ht
  clear ht
  obtain ⟨HT1, HT2⟩ : Hid (min n 256 = top) ∧ Hid ((if (n : Int) ≤ 256 then (n : Int) else 256) = top) := ⟨Lib.hid (by omega), Lib.hid (by split <;> omega)⟩
  go_enter Try.func6, Try.ntmps6
  go_wp2_with (first
    | (go_at_call 8; (with_reducible refine (hh _).mono ?_); rintro e w1 ⟨rfl, hb1⟩)
    | (go_at_call 9; (with_reducible refine (c1 _).mono ?_); rintro e w2 ⟨b, O, rfl, hm2, hb2⟩))
  have hb0 := hb1.trans (hb2.mono hb1.size)
  go_loopw [8] (fun x wr => ∃ i : Nat, i ≤ top ∧ x = .int .i64 i ∧ ∃ O, MemAt O w1.heap.size b i top (fun _ => 0) wr ∧ Below w.heap.size w wr ∧ w1.heap.size ≤ wr.heap.size) (fun x _ => (top - (intOf x).toNat))
  case atStart => exact ⟨0, Nat.zero_le _, rfl, O, hm2, hb0, hb2.size⟩
  case round =>
    obtain ⟨i, hi, rfl, O', hm, hbr, hsz⟩ := hrel
    by_cases hlt : i < top
    · have g1i := @g1 O' w1.heap.size b (fun _ => 0) wr i hlt hm hsz
      have l1i := fun O w => @l1 O w1.heap.size b w i hlt
      clear g1 l1 c1 hh
      go_wp2_with (first
        | (go_at_call 16; (with_reducible refine g1i.mono ?_); rintro e w3 ⟨rfl, O3, hm3, hk3, hO3⟩; have hb3 := hm.keeps hsz hk3)
        | (go_at_call 17; (with_reducible refine (l1i _ _ hm3).mono ?_); rintro e w' ⟨rfl, rfl⟩))
      go_roundw
      case rel => exact ⟨i + 1, by omega, by go_num, O3, hm3, hbr.trans (hb3.mono (hb1.size)), Nat.le_trans hsz hb3.size⟩
      case measure => simp [intOf]; omega
    · have e : i = top := by omega
      subst e
      have g2i := g2 hm
      have g3i := g3 hm
      have g4i := g4 hm hsz
      have p1i := fun O w => @p1 O w1.heap.size b (fun _ => 0) w
      clear g1 l1 c1 hh g2 g3 g4 p1
      go_wp2_with (first
        | (go_at_call 16; (with_reducible refine g2i.mono ?_); rintro e w' ⟨rfl, rfl⟩)
        | (go_at_call 16; (with_reducible refine g3i.mono ?_); rintro e w' ⟨rfl, rfl⟩)
        | (go_at_call 16; (with_reducible refine g4i.mono ?_); rintro e w3 ⟨rfl, O3, hm3, hk3, hO3⟩; have hb3 := hm.keeps hsz hk3)
        | (go_at_call 12; (with_reducible refine (p1i _ _ hm3).mono ?_); rintro e w' ⟨rfl, rfl⟩))
      go_ret
      exact ⟨rfl, hbr.trans (hb3.mono hb1.size)⟩
end Go.Proofs.Ytaihmcengecmiaa
