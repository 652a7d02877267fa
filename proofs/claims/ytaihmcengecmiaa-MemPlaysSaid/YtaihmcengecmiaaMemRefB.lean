/-
  The document's own memory: loaded, stored, read, written. Contracts that the proofs call; no statement is proved here.
-/
import Derived.Test.YtaihmcengecmiaaMemRef
namespace Go.Proofs.Ytaihmcengecmiaa
open Go.RowKit Go.Maps
set_option linter.unusedVariables false
set_option linter.unusedSimpArgs false
variable {O O' : Nat → Prop} {B b n : Nat} {m : Int} {f : Nat → UInt8} {g cap : Nat} {cur : Array Value} {w w' w'' : World}

/-- The number of the bytes from j on, the highest one first. -/
def hiN (f : Nat → UInt8) (a k : Nat) : Nat → Nat
  | 0 => 0
  | j + 1 => hiN f a k j * 256 + (f (a + (k - (j + 1)))).toNat
theorem hiN_le (f : Nat → UInt8) (a k : Nat) : ∀ j, j ≤ k → leN f a (k - j) + hiN f a k j * 256 ^ (k - j) = leN f a k
  | 0, _ => by simp [hiN]
  | j + 1, h => by
    have ih := hiN_le f a k j (by omega)
    obtain ⟨t, ht⟩ : ∃ t, k - j = t + 1 := ⟨k - j - 1, by omega⟩
    rw [ht] at ih
    have e : k - (j + 1) = t := by omega
    unfold hiN
    rw [e]
    rw [show leN f a (t + 1) = leN f a t + (f (a + t)).toNat * 256 ^ t from rfl] at ih
    rw [← ih, Nat.add_mul, Nat.pow_succ, Nat.mul_assoc, Nat.mul_comm 256]
    omega
theorem hiN_all (f : Nat → UInt8) (a k : Nat) : hiN f a k k = leN f a k := by
  have := hiN_le f a k k (Nat.le_refl _)
  simpa [leN] using this
theorem hiN_lt (f : Nat → UInt8) (a k : Nat) : ∀ j, hiN f a k j < 256 ^ j
  | 0 => by simp [hiN]
  | j + 1 => by
    have h := hiN_lt f a k j
    have hb := (f (a + (k - (j + 1)))).toNat_lt
    unfold hiN
    rw [Nat.pow_succ]
    omega
theorem hiN_lt7 (f : Nat → UInt8) (a k j : Nat) (hj : j < 8) : hiN f a k j ≤ 72057594037927935 := by
  have h := hiN_lt f a k j
  have h7 : 256 ^ j ≤ 256 ^ 7 := Nat.pow_le_pow_right (by decide) (by omega)
  omega
theorem wrap_hi (x y : Nat) (hx : x ≤ 72057594037927935) (hy : y ≤ 255) : IntKind.u64.wrap ((x : Int) * 256) = (x : Int) * 256 ∧ IntKind.u64.wrap ((x : Int) * 256 + (y : Int)) = (x : Int) * 256 + (y : Int) := by
  rw [IntKind.wrap_u64, IntKind.wrap_u64]
  omega
theorem wrap_at (a t n : Nat) (h : a + t < n * 65536) (hn : n ≤ 256) : wrap64 ((a : Int) + (t : Int)) = (a : Int) + t ∧ ((a : Int) + t).toNat = a + t ∧ wrap64 (a : Int) = a ∧ (0 : Int) ≤ (a : Int) + t ∧ (a : Int) + t < (n : Int) * 65536 ∧ (a : Int) + t < ((n * 65536 : Nat) : Int) := by
  unfold wrap64
  omega
set_option maxRecDepth 100000 in
set_option maxHeartbeats 2000000 in
theorem rload_yes (h : RefIs O B b n m f g cap cur w) (a : Nat) (size : Int) (hs : isSize size = true) (hi : inN n a size = true) :
    Calls Try.prog 23 #[.pointer (some ⟨b, 0, none⟩), .int .u64 a, .int .i64 size] w fun e w' => e = .returned (.tuple #[.int .u64 (leN f a size.toNat), .bool true]) ∧ w = w' := by
  obtain ⟨k, rfl, hk1, hk8, hbits⟩ := isSize_cases hs
  have htop := h.top
  have hin := inN_iff.1 hi
  obtain ⟨c0, c1⟩ := h.cells
  have hcap := h.fit
  have hhas := rhas_is ⟨g, cap, cur, h⟩ a (by omega) k (by omega) (by omega)
  rw [hi] at hhas
  have hwid := width_is (k : Int) w
  rw [hs] at hwid
  have e0 : ((k : Int)).toNat = k := rfl
  rw [e0]
  have HI := Lib.hid hi
  have HS := Lib.hid hs
  clear hi hs hbits e0
  go_enter Try.func23, Try.ntmps23
  go_wp2_with (first | (go_at_call 33; refine hhas.mono ?_; rintro e w' ⟨rfl, rfl⟩) | (go_at_call 34; refine hwid.mono ?_; rintro e w' ⟨rfl, rfl⟩))
  clear hhas hwid
  go_loop [9, 10] (fun x i => ∃ j : Nat, j ≤ k ∧ x = .int .u64 (hiN f a k j) ∧ i = .int .i64 ((k : Int) - j - 1)) (fun _ i => (intOf i + 1).toNat)
  case atStart => exact ⟨0, Nat.zero_le _, rfl, by rw [show ((k : Int) - ((0 : Nat) : Int) - 1) = k - 1 by omega]⟩
  case round =>
    obtain ⟨j, hj, rfl, rfl⟩ := hrel
    by_cases hlt : j < k
    · obtain ⟨hb, _⟩ := h.byte (a + (k - (j + 1))) (by omega)
      obtain ⟨t, ht⟩ : ∃ t : Nat, t + j + 1 = k := ⟨k - j - 1, by omega⟩
      rw [show k - (j + 1) = t by omega] at hb
      rw [show (k : Int) - j - 1 = t by omega]
      have hbl : (f (a + t)).toNat ≤ 255 := by have := (f (a + t)).toNat_lt; omega
      obtain ⟨q1, q3⟩ := wrap_hi (hiN f a k j) (f (a + t)).toNat (hiN_lt7 f a k j (by omega)) hbl
      have hat : a + t < n * 65536 := by omega
      have ha24 : (a : Int) ≤ 16777216 := by omega
      have ht8 : (t : Int) ≤ 8 := by omega
      have q2 := (wrap_at a t n hat htop).2.1
      have hH : hiN f a k (j + 1) = hiN f a k j * 256 + (f (a + t)).toNat := by show _ * 256 + (f (a + (k - (j + 1)))).toNat = _; rw [show k - (j + 1) = t by omega]
      have HH := Lib.hid hH
      have HT := Lib.hid ht
      clear hH ht
      go_wp2
      clear q1 q3
      go_round
      case rel => exact ⟨j + 1, by omega, by rw [HH.out]; go_num, by have := HT.out; congr 1; omega⟩
      case measure => simp [intOf]
    · have e : j = k := by omega
      subst e
      rw [show (j : Int) - j - 1 = -1 by omega]
      go_wp2
      go_ret2
      exact ⟨by rw [hiN_all]; rfl, rfl⟩
set_option maxRecDepth 100000 in
set_option maxHeartbeats 2000000 in
theorem rload_no (h : RefAt O B b n m f w) (a : Nat) (ha : a < 18446744073709551616) (size : Int) (h1 : -9223372036854775808 ≤ size) (h2 : size ≤ 9223372036854775807) (hno : isSize size = false ∨ inN n a size = false) :
    Calls Try.prog 23 #[.pointer (some ⟨b, 0, none⟩), .int .u64 a, .int .i64 size] w fun e w' => e = .returned (.tuple #[.int .u64 0, .bool false]) ∧ w = w' := by
  have hhas := rhas_is h a ha size h1 h2
  have hwid := width_is size w
  by_cases hi : inN n a size = true
  · have hs : isSize size = false := by
      rcases hno with e | e
      · exact e
      · rw [hi] at e; cases e
    rw [hs] at hwid
    rw [hi] at hhas
    clear hi hs hno
    go_enter Try.func23, Try.ntmps23
    go_wp2_with (first | (go_at_call 33; refine hhas.mono ?_; rintro e w' ⟨rfl, rfl⟩) | (go_at_call 34; refine hwid.mono ?_; rintro e w' ⟨rfl, rfl⟩))
    go_ret2
    exact ⟨rfl, rfl⟩
  · have hi' : inN n a size = false := by simpa using hi
    rw [hi'] at hhas
    clear hi hi' hno hwid
    go_enter Try.func23, Try.ntmps23
    go_wp2_with (go_at_call 33; refine hhas.mono ?_; rintro e w' ⟨rfl, rfl⟩)
    go_ret2
    exact ⟨rfl, rfl⟩
set_option maxRecDepth 100000 in
set_option maxHeartbeats 2000000 in
theorem rstore_no (h : RefAt O B b n m f w) (a : Nat) (ha : a < 18446744073709551616) (size : Int) (h1 : -9223372036854775808 ≤ size) (h2 : size ≤ 9223372036854775807) (hno : isSize size = false ∨ inN n a size = false) (x : Int) :
    Calls Try.prog 22 #[.pointer (some ⟨b, 0, none⟩), .int .u64 a, .int .i64 size, .int .u64 x] w fun e w' => e = .returned (.bool false) ∧ w = w' := by
  have hhas := rhas_is h a ha size h1 h2
  have hwid := width_is size w
  by_cases hi : inN n a size = true
  · have hs : isSize size = false := by
      rcases hno with e | e
      · exact e
      · rw [hi] at e; cases e
    rw [hs] at hwid
    rw [hi] at hhas
    clear hi hs hno
    go_enter Try.func22, Try.ntmps22
    go_wp2_with (first | (go_at_call 33; refine hhas.mono ?_; rintro e w' ⟨rfl, rfl⟩) | (go_at_call 34; refine hwid.mono ?_; rintro e w' ⟨rfl, rfl⟩))
    go_ret
    exact ⟨rfl, rfl⟩
  · have hi' : inN n a size = false := by simpa using hi
    rw [hi'] at hhas
    clear hi hi' hno hwid
    go_enter Try.func22, Try.ntmps22
    go_wp2_with (go_at_call 33; refine hhas.mono ?_; rintro e w' ⟨rfl, rfl⟩)
    go_ret
    exact ⟨rfl, rfl⟩
set_option maxRecDepth 100000 in
set_option maxHeartbeats 2000000 in
theorem rstore_yes (h : RefAt O B b n m f w) (a : Nat) (size : Int) (hs : isSize size = true) (hi : inN n a size = true) (x : Nat) (hx : x < 18446744073709551616) :
    Calls Try.prog 22 #[.pointer (some ⟨b, 0, none⟩), .int .u64 a, .int .i64 size, .int .u64 x] w fun e w' => e = .returned (.bool true) ∧ RefAt O B b n m (putN f a size.toNat x) w' ∧ Kept O w w' := by
  obtain ⟨k, rfl, hk1, hk8, hbits⟩ := isSize_cases hs
  have hin := inN_iff.1 hi
  have hhas := rhas_is h a (by obtain ⟨g, cap, cur, h⟩ := h; have := h.top; omega) k (by omega) (by omega)
  rw [hi] at hhas
  have hwid := width_is (k : Int) w
  rw [hs] at hwid
  have e0 : ((k : Int)).toNat = k := rfl
  rw [e0]
  have HI := Lib.hid hi
  have HS := Lib.hid hs
  clear hi hs hbits e0
  go_enter Try.func22, Try.ntmps22
  go_wp2_with (first | (go_at_call 33; refine hhas.mono ?_; rintro e w' ⟨rfl, rfl⟩) | (go_at_call 34; refine hwid.mono ?_; rintro e w' ⟨rfl, rfl⟩))
  clear hhas hwid
  go_loopw [3, 10] (fun y i wr => ∃ j : Nat, j ≤ k ∧ y = .int .u64 (x / 256 ^ j : Nat) ∧ i = .int .i64 j ∧ RefAt O B b n m (putN f a j x) wr ∧ Kept O w wr) (fun _ i _ => (k - (intOf i).toNat))
  case atStart => exact ⟨0, Nat.zero_le _, by simp, rfl, by rw [putN_zero]; exact h, Kept.refl _ _⟩
  case round =>
    obtain ⟨j, hj, rfl, rfl, ⟨g, cap, cur, hr⟩, hkr⟩ := hrel
    by_cases hlt : j < k
    · have htop := hr.top
      have hcap := hr.fit
      obtain ⟨c0, c1⟩ := hr.cells
      have hat : a + j < n * 65536 := by omega
      obtain ⟨hb, hf⟩ := hr.byte (a + j) hat
      have hset := hr.set (a + j) hat (UInt8.ofNat (x / 256 ^ j))
      rw [← putN_succ] at hset
      have hval : ((UInt8.ofNat (x / 256 ^ j)).toNat : Int) = ((x / 256 ^ j : Nat) : Int) % 256 := by
        rw [show (UInt8.ofNat (x / 256 ^ j)).toNat = x / 256 ^ j % 256 by simp]
        simp
      rw [hval] at hset
      have ha24 : (a : Int) ≤ 16777216 := by omega
      have hj8 : (j : Int) ≤ 8 := by omega
      have q2 := (wrap_at a j n hat htop).2.1
      obtain ⟨y, hy⟩ : ∃ y : Nat, x / 256 ^ j = y := ⟨_, rfl⟩
      have hy2 : y < 18446744073709551616 := by rw [← hy]; exact Nat.lt_of_le_of_lt (Nat.div_le_self _ _) hx
      have hys : x / 256 ^ (j + 1) = y / 256 := by rw [Nat.pow_succ, ← Nat.div_div_eq_div_mul, hy]
      rw [hy] at hset
      rw [hy]
      have HY := Lib.hid hy
      have HYS := Lib.hid hys
      have HV := Lib.hid hval
      clear hy hys hval
      go_wp2
      go_roundw
      case rel => exact ⟨j + 1, by omega, by rw [HYS.out]; go_num, by go_num, ⟨_, _, _, hset⟩, hkr.setCell hr.og _ _⟩
      case measure => simp [intOf]; omega
    · go_wp2
      go_ret
      have e : j = k := by omega
      subst e
      exact ⟨rfl, ⟨g, cap, cur, hr⟩, hkr⟩
end Go.Proofs.Ytaihmcengecmiaa
