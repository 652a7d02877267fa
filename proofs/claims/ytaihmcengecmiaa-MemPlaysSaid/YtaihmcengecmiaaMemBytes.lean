/-
  Package mem: bytes are read as a text. Contracts that the proofs call; no statement is proved here.
-/
import Derived.Test.YtaihmcengecmiaaMemBld
import Derived.Shelf.Strings.BuilderF
import Derived.Deep.LoopGhost
namespace Go.Proofs.Ytaihmcengecmiaa
open Go.RowKit Go.Maps
set_option linter.unusedVariables false
set_option linter.unusedSimpArgs false
variable {O O' : Nat → Prop} {B b n most : Nat} {f : Nat → UInt8} {v : Value} {mb : Nat} {ps : List Nat} {w w' w'' : World}

theorem bld_says (B b : Nat) (l : List UInt8) (w : World) (h : Bld B b l w) (hB : B ≤ w.heap.size) :
    Calls Try.prog 32 #[.pointer (some ⟨b, 0, none⟩)] w fun e w' => e = .returned (.string ⟨l.toArray⟩) ∧ Below B w w' := by
  by_cases h0 : l = []
  · subst h0
    exact (Any.Builder_String_empty_f lays8_169 extra8 B b w (.inr (Lib.BuilderAtF.of h)) hB).mono fun e w' ⟨h1, _, h2⟩ => ⟨h1, h2⟩
  · exact bld_string B b l w h h0
set_option maxRecDepth 100000 in
set_option maxHeartbeats 2000000 in
theorem bytes_yes (h : MemAt O B b n most f w) (a : Nat) (size : Nat) (hi : inN n a (size : Int) = true) :
    Calls Try.prog 18 #[.pointer (some ⟨b, 0, none⟩), .int .u64 a, .int .i64 size] w fun e w' => e = .returned (.tuple #[.string ⟨(txtN f a size).toArray⟩, .bool true]) ∧ Below w.heap.size w w' := by
  have hin := inN_iff.1 hi
  have hle := h.le
  have hhas := has_is h a (by omega) size (by omega) (by omega)
  rw [hi] at hhas
  clear hi
  obtain ⟨v, mb, ps, hm0⟩ := h
  have hgrow := bld_grow w.heap.size w.heap.size size (w.alloc (.cells #[.pointer none, .slice none 0 0] 66)) (Nat.le_refl _) (heap_alloc_new _ _) (by simp) (by omega)
  go_enter Try.func18, Try.ntmps18
  go_wp2_with (first | (go_at_call 26; refine hhas.mono ?_; rintro e w' ⟨rfl, rfl⟩) | (go_at_call 29; refine hgrow.mono ?_; rintro e w1 ⟨rfl, hb, hb1⟩))
  have hb0 : Below w.heap.size w w1 := ((Below.refl _ _).alloc (Nat.le_refl _) _).trans hb1
  clear hhas hgrow hb1
  go_loopg [] size (fun gg wr => gg ≤ size ∧ Bld w.heap.size w.heap.size (txtN f a (size - gg)) wr ∧ Below w.heap.size w wr)
  case atStart => exact ⟨Nat.le_refl _, by rw [Nat.sub_self]; exact hb, hb0⟩
  case round =>
    obtain ⟨hg, hB, hbr⟩ := hrel
    have hlen := bld_len w.heap.size w.heap.size _ wr (.inl hB)
    rw [txtN_len] at hlen
    have hsz := hbr.size
    have hm := hm0.kept (Kept.of_below hbr (fun _ => False)) (fun _ _ e => e)
    by_cases hlt : 0 < gk
    · obtain ⟨k, hk⟩ : ∃ k, k = size - gk := ⟨_, rfl⟩
      rw [← hk] at hlen hB
      have hks : k + gk = size := by omega
      have hkp : (a + k) / 65536 < ps.length := by rw [hm.len]; omega
      obtain ⟨p, hp⟩ : ∃ p, ps[(a + k) / 65536]? = some p := ⟨_, List.getElem?_eq_getElem hkp⟩
      obtain ⟨cs, hc, hcs, hcc⟩ := hm.pgs _ _ hp
      have hpl : p < w.heap.size := (hm0.low p (hm0.op p (List.mem_of_getElem? hp))).2
      have hpart := part_is hm (a + k) (by omega) gk (by omega) p hp
      obtain ⟨d, hd⟩ : ∃ d, d = min gk (65536 - (a + k) % 65536) := ⟨_, rfl⟩
      have hd1 : 1 ≤ d ∧ d ≤ gk ∧ (a + k) % 65536 + d ≤ 65536 := by omega
      rw [← hd, Int.natCast_add] at hpart
      have hwr := bld_write w.heap.size w.heap.size _ (txtN f (a + k) d) wr hB p ((a + k) % 65536) (65536 - (a + k) % 65536) hpl (fun j hj => by
        rw [txtN_len] at hj
        have h1 := hcc ((a + k) % 65536 + j) (by omega)
        rw [show (a + k) / 65536 * 65536 + ((a + k) % 65536 + j) = a + k + j by omega] at h1
        rw [List.getD_eq_getElem?_getD, txtN_at _ _ _ _ hj]
        simp only [World.cell?, hc]
        simpa using h1) (by rw [txtN_len, txtN_len]; omega) hsz
      rw [txtN_len, ← txtN_add] at hwr
      have q1 : IntKind.u64.wrap (k : Int) = k := by rw [IntKind.wrap_u64]; omega
      have q2 : IntKind.u64.wrap ((a : Int) + k) = a + k := by rw [IntKind.wrap_u64]; omega
      have q3 : (size : Int) - k = gk := by omega
      have q4 : (k : Int) < size := by omega
      have HK := Lib.hid hk
      have HKS := Lib.hid hks
      have HD := Lib.hid hd
      clear hk hks hd hc hcs hcc hp hkp
      go_wp2_with (first | (go_at_call 30; refine hlen.mono ?_; rintro e w' ⟨rfl, rfl⟩) | (go_at_call 27; refine hpart.mono ?_; rintro e w' ⟨rfl, rfl⟩) | (go_at_call 31; refine hwr.mono ?_; rintro e w2 ⟨rfl, hB2, hb2⟩))
      clear q1 q2 q3 q4
      have hks := HKS.out
      go_roundg (gk - d)
      case rel => exact ⟨by omega, by rw [show size - (gk - d) = k + d by omega]; exact hB2, hbr.trans (hb2.mono (Nat.le_refl _))⟩
      case measure => omega
    · have hg0 : gk = 0 := by omega
      subst hg0
      rw [Nat.sub_zero] at hlen hB
      have hstr := bld_says w.heap.size w.heap.size _ wr hB hsz
      go_wp2_with (first | (go_at_call 30; refine hlen.mono ?_; rintro e w' ⟨rfl, rfl⟩) | (go_at_call 32; refine hstr.mono ?_; rintro e w2 ⟨rfl, hb2⟩))
      go_ret2
      exact ⟨rfl, hbr.trans hb2⟩
set_option maxRecDepth 100000 in
set_option maxHeartbeats 2000000 in
theorem bytes_no (h : MemAt O B b n most f w) (a : Nat) (ha : a < 18446744073709551616) (size : Int) (h1 : -9223372036854775808 ≤ size) (h2 : size ≤ 9223372036854775807) (hi : inN n a size = false) :
    Calls Try.prog 18 #[.pointer (some ⟨b, 0, none⟩), .int .u64 a, .int .i64 size] w fun e w' => e = .returned (.tuple #[.string ⟨#[]⟩, .bool false]) ∧ w = w' := by
  have hhas := has_is h a ha size h1 h2
  rw [hi] at hhas
  clear hi
  go_enter Try.func18, Try.ntmps18
  go_wp2_with (go_at_call 26; refine hhas.mono ?_; rintro e w' ⟨rfl, rfl⟩)
  go_ret2
  exact ⟨rfl, rfl⟩
end Go.Proofs.Ytaihmcengecmiaa
