/-
  Package mem: a number is stored. A contract that the proofs call; no statement is proved here.
-/
import Derived.Test.YtaihmcengecmiaaMemLoad
import Derived.StillTailTactics
namespace Go.Proofs.Ytaihmcengecmiaa
open Go.RowKit Go.Maps
set_option linter.unusedVariables false
set_option linter.unusedSimpArgs false
variable {O O' : Nat → Prop} {B b n most : Nat} {f : Nat → UInt8} {v : Value} {mb : Nat} {ps : List Nat} {w w' w'' : World}

theorem setCell_size (w : World) (a : Addr) (v : Value) : (w.setCell a v).heap.size = w.heap.size := by simp [World.setCell]
theorem Kept.setCell (h : Kept O w w') {p : Nat} (hp : O p) (j : Nat) (u : Value) : Kept O w (w'.setCell ⟨p, j, none⟩ u) :=
  h.trans (O' := O) ⟨rfl, rfl, rfl, by rw [setCell_size]; exact Nat.le_refl _, fun k hk hn => Below.heap_setCell _ _ _ _ (fun e => hn (by rw [e]; exact hp))⟩ (fun k hk _ => hk)
theorem Kept.drew (h : Kept O w w') : Kept O w w'.drew := ⟨h.os, h.tape, h.output, h.size, h.block⟩
theorem MemIs.drew (h : MemIs O B b n most f v mb ps w) : MemIs O B b n most f v mb ps w.drew := ⟨h.box, h.row, h.szs, h.pgs, h.one, h.le, h.top, h.zero, h.ob, h.om, h.op, h.ov, h.low⟩
/-- A block whose elements are of another type is another block. -/
theorem MemIs.page_ne (h : MemIs O B b n most f v mb ps w) {p : Nat} (hp : p ∈ ps) : p ≠ b ∧ p ≠ mb ∧ ∀ g, v.ownBlock = some g → p ≠ g := by
  obtain ⟨k, hk⟩ := List.mem_iff_getElem?.1 hp
  obtain ⟨cs, hc, _⟩ := h.pgs k p hk
  refine ⟨fun e => ?_, fun e => ?_, fun g hg e => ?_⟩
  · subst e
    have := hc.symm.trans h.box
    simp at this
  · subst e
    obtain ⟨es, c, hm, _⟩ := h.szs
    have := hc.symm.trans hm
    simp at this
  · subst e
    rcases h.row.2 with ⟨rfl, _⟩ | ⟨g', cap, cur, rfl, _, hg', _⟩
    · cases hg
    · have e : g' = p := Option.some.inj hg
      subst e
      have := hc.symm.trans hg'
      simp at this
/-- A byte is set. -/
theorem MemIs.set (h : MemIs O B b n most f v mb ps w) (a : Nat) (ha : a < n * 65536) (p : Nat) (hp : ps[a / 65536]? = some p) (c : UInt8) :
    MemIs O B b n most (fun i => if i = a then c else f i) v mb ps (w.setCell ⟨p, a % 65536, none⟩ (.int .u8 (c.toNat : Int))) := by
  have hm := List.mem_of_getElem? hp
  obtain ⟨n1, n2, n3⟩ := h.page_ne hm
  have hb : ∀ k, k ≠ p → (w.setCell ⟨p, a % 65536, none⟩ (.int .u8 (c.toNat : Int))).heap[k]? = w.heap[k]? := fun k hk => Below.heap_setCell _ _ _ _ hk
  refine ⟨(hb b (Ne.symm n1)).trans h.box, ⟨h.row.1, ?_⟩, h.szs.same (hb mb (Ne.symm n2)), fun k q hq => ?_, h.one, h.le, h.top, fun i hi => by rw [if_neg (by omega)]; exact h.zero i hi, h.ob, h.om, h.op, h.ov, fun k hO => ⟨(h.low k hO).1, by rw [setCell_size]; exact (h.low k hO).2⟩⟩
  · rcases h.row.2 with hn | ⟨g, cap, cur, hv, hB, hg, rest⟩
    · exact .inl hn
    · exact .inr ⟨g, cap, cur, hv, hB, (hb g (Ne.symm (n3 g (by rw [hv]; rfl)))).trans hg, rest⟩
  · obtain ⟨cs, hc, hs, hcs⟩ := h.pgs k q hq
    by_cases e : k = a / 65536
    · subst e
      obtain rfl : p = q := Option.some.inj (hp.symm.trans hq)
      refine ⟨cs.setIfInBounds (a % 65536) (.int .u8 (c.toNat : Int)), heap_setCell_same w p (a % 65536) _ _ _ hc, by simpa using hs, fun i hi => ?_⟩
      rw [Array.getElem?_setIfInBounds]
      dsimp only
      by_cases e2 : a % 65536 = i
      · rw [if_pos e2, if_pos (by omega), if_pos (by omega)]
      · rw [if_neg e2, if_neg (by omega)]
        exact hcs i hi
    · have hne : q ≠ p := fun e2 => e (h.one _ _ q hq (by rw [e2]; exact hp))
      refine ⟨cs, (hb q hne).trans hc, hs, fun i hi => ?_⟩
      dsimp only
      rw [if_neg (by omega)]
      exact hcs i hi
set_option maxRecDepth 100000 in
set_option maxHeartbeats 2000000 in
theorem store_yes (h : MemIs O B b n most f v mb ps w) (a : Nat) (size : Int) (hs : isSize size = true) (hi : inN n a size = true) (x : Nat) (hx : x < 18446744073709551616) :
    Calls Try.prog 15 #[.pointer (some ⟨b, 0, none⟩), .int .u64 a, .int .i64 size, .int .u64 x] w fun e w' => e = .returned (.bool true) ∧ MemIs O B b n most (putN f a size.toNat x) v mb ps w' ∧ Kept O w w' := by
  obtain ⟨k, rfl, hk1, hk8, hbits⟩ := isSize_cases hs
  have hle := h.le
  have htop := h.top
  have hin := inN_iff.1 hi
  obtain ⟨c0, c1, c2⟩ := h.cells
  have hlook := sizes_look h.szs k (by omega) (by omega)
  rw [hbits, hs] at hlook
  have hhas := has_is ⟨v, mb, ps, h⟩ a (by omega) k (by omega) (by omega)
  rw [hi] at hhas
  have e0 : ((k : Int)).toNat = k := rfl
  rw [e0]
  have HI := Lib.hid hi
  have HS := Lib.hid hs
  clear hi hs hbits e0
  go_enter Try.func15, Try.ntmps15
  go_wp2_with (go_at_call 26; refine hhas.mono ?_; rintro e w' ⟨rfl, rfl⟩)
  clear hhas hlook c0 c1 c2
  go_loopw [1, 11] (fun p s wr => ∃ j : Nat, j ≤ k ∧ p = .int .u64 (a + j : Nat) ∧ s = .int .i64 (8 * j : Nat) ∧ MemIs O B b n most (putN f a j x) v mb ps wr ∧ Kept O w wr) (fun _ s _ => (8 * k - (intOf s).toNat))
  case atStart => exact ⟨0, Nat.zero_le _, rfl, rfl, by rw [putN_zero]; exact h, Kept.refl _ _⟩
  case round =>
    obtain ⟨j, hj, rfl, rfl, hr, hkr⟩ := hrel
    by_cases hlt : j < k
    · obtain ⟨p, hp, hb, hf⟩ := hr.byte (a + j) (by omega)
      have hcell := cell_is hr.drew (a + j) (by omega) p hp
      rw [Int.natCast_add] at hcell
      go_wp2
      go_still_tail 8, (by kernel_rfl)
      still_call (hcell.mono fun e w' ⟨h1, h2⟩ => ⟨h1, h2.symm⟩)
      repeat still_step
      refine wpStill_nil ?_
      change wpList _ _ _ _ _ wr.drew
      go_wp2
      have hset := (hr.set (a + j) (by omega) p hp (UInt8.ofNat (x / 256 ^ j))).drew
      have e1 : ((UInt8.ofNat (x / 256 ^ j)).toNat : Int) = (x : Int) / 2 ^ (8 * j) % 256 := by
        rw [show (UInt8.ofNat (x / 256 ^ j)).toNat = x / 256 ^ j % 256 by simp, show (256 : Nat) ^ j = 2 ^ (8 * j) by rw [Nat.pow_mul]]
        simp
      rw [e1, ← putN_succ] at hset
      go_roundw
      case rel => exact ⟨j + 1, by omega, by rw [Int.natCast_add, Int.natCast_add]; rfl, by go_num, hset, (hkr.setCell (hr.op p (List.mem_of_getElem? hp)) _ _).drew⟩
      case measure => simp [intOf]; omega
    · go_wp2
      go_ret
      have e : j = k := by omega
      subst e
      exact ⟨rfl, hr, hkr⟩
set_option maxRecDepth 100000 in
set_option maxHeartbeats 2000000 in
theorem store_no (h : MemAt O B b n most f w) (a : Nat) (ha : a < 18446744073709551616) (size : Int) (h1 : -9223372036854775808 ≤ size) (h2 : size ≤ 9223372036854775807) (hno : isSize size = false ∨ inN n a size = false) (x : Int) :
    Calls Try.prog 15 #[.pointer (some ⟨b, 0, none⟩), .int .u64 a, .int .i64 size, .int .u64 x] w fun e w' => e = .returned (.bool false) ∧ w = w' := by
  have hhas := has_is h a ha size h1 h2
  obtain ⟨v, mb, ps, h⟩ := h
  obtain ⟨c0, c1, c2⟩ := h.cells
  have hlook := sizes_look h.szs size h1 h2
  clear h
  by_cases hs : isSize size = true
  · have hi : inN n a size = false := by
      rcases hno with e | e
      · rw [hs] at e; cases e
      · exact e
    rw [hs] at hlook
    rw [hi] at hhas
    clear hi hs hno
    go_enter Try.func15, Try.ntmps15
    go_wp2_with (go_at_call 26; refine hhas.mono ?_; rintro e w' ⟨rfl, rfl⟩)
    go_ret
    exact ⟨rfl, rfl⟩
  · have hs' : isSize size = false := by simpa using hs
    rw [hs'] at hlook
    clear hs hs' hno hhas
    go_enter Try.func15, Try.ntmps15
    go_wp2
    go_ret
    exact ⟨rfl, rfl⟩
end Go.Proofs.Ytaihmcengecmiaa
