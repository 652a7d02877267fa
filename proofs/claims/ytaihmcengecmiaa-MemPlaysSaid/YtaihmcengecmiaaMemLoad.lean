/-
  Package mem: a number is loaded. A contract that the proofs call; no statement is proved here.
-/
import Derived.Test.YtaihmcengecmiaaMemHas
import Derived.Test.YtaihmcengecmiaaLebMath
import Derived.LoopTactic
namespace Go.Proofs.Ytaihmcengecmiaa
open Go.RowKit Go.Maps
set_option linter.unusedVariables false
set_option linter.unusedSimpArgs false
variable {O O' : Nat → Prop} {B b n most : Nat} {f : Nat → UInt8} {v : Value} {mb : Nat} {ps : List Nat} {w w' w'' : World}

theorem isSize_cases {size : Int} (h : isSize size = true) : ∃ k : Nat, size = k ∧ 1 ≤ k ∧ k ≤ 8 ∧ bitsOf size = 8 * k := by
  unfold isSize at h
  rcases of_decide_eq_true h with rfl | rfl | rfl | rfl
  · exact ⟨1, rfl, by decide, by decide, rfl⟩
  · exact ⟨2, rfl, by decide, by decide, rfl⟩
  · exact ⟨4, rfl, by decide, by decide, rfl⟩
  · exact ⟨8, rfl, by decide, by decide, rfl⟩
theorem MemIs.byte (h : MemIs O B b n most f v mb ps w) (a : Nat) (ha : a < n * 65536) : ∃ p, ps[a / 65536]? = some p ∧ w.cell? ⟨p, a % 65536, none⟩ = some (.int .u8 ((f a).toNat : Int)) ∧ w.frozen? ⟨p, a % 65536, none⟩ = false := by
  have hk : a / 65536 < ps.length := by rw [h.len]; omega
  obtain ⟨cs, hc, hs, hcs⟩ := h.pgs (a / 65536) ps[a / 65536] (List.getElem?_eq_getElem hk)
  refine ⟨ps[a / 65536], List.getElem?_eq_getElem hk, ?_, by simp [World.frozen?, hc]⟩
  have := hcs (a % 65536) (by omega)
  rw [show a / 65536 * 65536 + a % 65536 = a by omega] at this
  simp only [World.cell?, hc]
  simpa using this
theorem or_byte {f : Nat → UInt8} {a j : Nat} (hj : j < 8) : bits .or .u64 (leN f a j : Int) (IntKind.u64.wrap (IntKind.u64.wrap ((f (a + j)).toNat : Int) * 2 ^ (8 * j))) = (leN f a (j + 1) : Int) := by
  have hb : (f (a + j)).toNat ≤ 255 := by have := (f (a + j)).toNat_lt; omega
  have hl := leN_lt f a j
  have hp : (256 : Nat) ^ j = 2 ^ (8 * j) := by rw [Nat.pow_mul]
  have h2 : (f (a + j)).toNat * 256 ^ j ≤ 255 * 256 ^ j := Nat.mul_le_mul_right _ hb
  have h3 : (256 : Nat) ^ j ≤ 256 ^ 7 := Nat.pow_le_pow_right (by decide) (by omega)
  have hl1 := leN_lt f a (j + 1)
  have e1 : leN f a (j + 1) = leN f a j + (f (a + j)).toNat * 256 ^ j := rfl
  have e2 : ((f (a + j)).toNat : Int) * 2 ^ (8 * j) = (((f (a + j)).toNat * 256 ^ j : Nat) : Int) := by rw [hp]; simp
  have e0 : IntKind.u64.wrap ((f (a + j)).toNat : Int) = (f (a + j)).toNat := by rw [IntKind.wrap_u64]; omega
  have e3 : IntKind.u64.wrap (((f (a + j)).toNat * 256 ^ j : Nat) : Int) = ((f (a + j)).toNat * 256 ^ j : Nat) := by rw [IntKind.wrap_u64]; omega
  rw [e0, e2, e3]
  rw [or_add _ wr_u64 (8 * j) (by simp [IntKind.bits]; omega) _ _ (by omega) (by rw [hp] at hl; exact_mod_cast hl) (by rw [hp]; simp), IntKind.wrap_u64]
  rw [e1]
  rw [Int.emod_eq_of_lt (by omega) (by omega)]
  simp
set_option maxRecDepth 100000 in
set_option maxHeartbeats 2000000 in
theorem load_yes (h : MemIs O B b n most f v mb ps w) (a : Nat) (size : Int) (hs : isSize size = true) (hi : inN n a size = true) :
    Calls Try.prog 17 #[.pointer (some ⟨b, 0, none⟩), .int .u64 a, .int .i64 size] w fun e w' => e = .returned (.tuple #[.int .u64 (leN f a size.toNat), .bool true]) ∧ w = w' := by
  obtain ⟨k, rfl, hk1, hk8, hbits⟩ := isSize_cases hs
  have hle := h.le
  have htop := h.top
  have hin := inN_iff.1 hi
  obtain ⟨c0, c1, c2⟩ := h.cells
  have hlook := sizes_look h.szs k (by omega) (by omega)
  rw [hbits, hs] at hlook
  have hhas := has_is ⟨v, mb, ps, h⟩ a (by omega) k (by omega) (by omega)
  rw [hi] at hhas
  have e0 : ((k : Int)).toNat = k := rfl
  rw [e0]
  have HI := Lib.hid hi
  have HS := Lib.hid hs
  clear hi hs hbits e0
  go_enter Try.func17, Try.ntmps17
  go_wp2_with (go_at_call 26; refine hhas.mono ?_; rintro e w' ⟨rfl, rfl⟩)
  clear hhas hlook
  go_loop [1, 10, 11] (fun p x s => ∃ j : Nat, j ≤ k ∧ p = .int .u64 (a + j : Nat) ∧ x = .int .u64 (leN f a j) ∧ s = .int .i64 (8 * j : Nat)) (fun _ _ s => (8 * k - (intOf s).toNat))
  case atStart => exact ⟨0, Nat.zero_le _, rfl, rfl, rfl⟩
  case round =>
    obtain ⟨j, hj, rfl, rfl, rfl⟩ := hrel
    by_cases hlt : j < k
    · obtain ⟨p, hp, hb, _⟩ := h.byte (a + j) (by omega)
      have hcell := cell_is h (a + j) (by omega) p hp
      go_wp2_with (go_at_call 28; refine hcell.mono ?_; rintro e w' ⟨rfl, rfl⟩)
      go_round
      case rel =>
        refine ⟨j + 1, by omega, by rw [Int.natCast_add, Int.natCast_add]; rfl, ?_, by go_num⟩
        rw [or_byte (by omega)]
      case measure => simp [intOf]; omega
    · go_wp2
      go_ret2
      have e : j = k := by omega
      subst e
      exact ⟨rfl, rfl⟩
set_option maxRecDepth 100000 in
set_option maxHeartbeats 2000000 in
theorem load_no (h : MemAt O B b n most f w) (a : Nat) (ha : a < 18446744073709551616) (size : Int) (h1 : -9223372036854775808 ≤ size) (h2 : size ≤ 9223372036854775807) (hno : isSize size = false ∨ inN n a size = false) :
    Calls Try.prog 17 #[.pointer (some ⟨b, 0, none⟩), .int .u64 a, .int .i64 size] w fun e w' => e = .returned (.tuple #[.int .u64 0, .bool false]) ∧ w = w' := by
  have hhas := has_is h a ha size h1 h2
  obtain ⟨v, mb, ps, h⟩ := h
  obtain ⟨c0, c1, c2⟩ := h.cells
  have hlook := sizes_look h.szs size h1 h2
  clear h
  by_cases hs : isSize size = true
  · have hi : inN n a size = false := by
      rcases hno with e | e
      · rw [hs] at e; cases e
      · exact e
    rw [hs] at hlook
    rw [hi] at hhas
    clear hi hs hno
    go_enter Try.func17, Try.ntmps17
    go_wp2_with (go_at_call 26; refine hhas.mono ?_; rintro e w' ⟨rfl, rfl⟩)
    go_ret2
    exact ⟨rfl, rfl⟩
  · have hs' : isSize size = false := by simpa using hs
    rw [hs'] at hlook
    clear hs hs' hno hhas
    go_enter Try.func17, Try.ntmps17
    go_wp2
    go_ret2
    exact ⟨rfl, rfl⟩
end Go.Proofs.Ytaihmcengecmiaa
