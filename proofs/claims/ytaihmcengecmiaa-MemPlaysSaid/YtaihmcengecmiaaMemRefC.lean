/-
  The document's own memory: bytes read and written, grown, made. Contracts that the proofs call; no statement is proved here.
-/
import Derived.Test.YtaihmcengecmiaaMemRefB
import Derived.Laws.IdiomStrings
namespace Go.Proofs.Ytaihmcengecmiaa
open Go.RowKit Go.Maps
set_option linter.unusedVariables false
set_option linter.unusedSimpArgs false
variable {O O' : Nat → Prop} {B b n : Nat} {m : Int} {f : Nat → UInt8} {g cap : Nat} {cur : Array Value} {w w' w'' : World}

theorem RefAt.top (h : RefAt O B b n m f w) : n ≤ 256 := by
  obtain ⟨g, cap, cur, h⟩ := h
  exact h.top
set_option maxRecDepth 100000 in
set_option maxHeartbeats 2000000 in
theorem rbytes_no (h : RefAt O B b n m f w) (a : Nat) (ha : a < 18446744073709551616) (size : Int) (h1 : -9223372036854775808 ≤ size) (h2 : size ≤ 9223372036854775807) (hi : inN n a size = false) :
    Calls Try.prog 25 #[.pointer (some ⟨b, 0, none⟩), .int .u64 a, .int .i64 size] w fun e w' => e = .returned (.tuple #[.string ⟨#[]⟩, .bool false]) ∧ w = w' := by
  have hhas := rhas_is h a ha size h1 h2
  rw [hi] at hhas
  clear hi
  go_enter Try.func25, Try.ntmps25
  go_wp2_with (go_at_call 33; refine hhas.mono ?_; rintro e w' ⟨rfl, rfl⟩)
  go_ret2
  exact ⟨rfl, rfl⟩
set_option maxRecDepth 100000 in
set_option maxHeartbeats 2000000 in
theorem rwrite_no (h : RefAt O B b n m f w) (a : Nat) (ha : a < 18446744073709551616) (s : ByteArray) (hss : s.size < 9223372036854775808) (hi : inN n a (s.size : Int) = false) :
    Calls Try.prog 24 #[.pointer (some ⟨b, 0, none⟩), .int .u64 a, .string s] w fun e w' => e = .returned (.bool false) ∧ w = w' := by
  have hhas := rhas_is h a ha s.size (by omega) (by omega)
  rw [hi] at hhas
  clear hi
  go_enter Try.func24, Try.ntmps24
  go_wp2_with (go_at_call 33; refine hhas.mono ?_; rintro e w' ⟨rfl, rfl⟩)
  go_ret
  exact ⟨rfl, rfl⟩
set_option maxRecDepth 100000 in
set_option maxHeartbeats 2000000 in
theorem rbytes_yes (h : RefAt O B b n m f w) (a : Nat) (size : Nat) (hi : inN n a (size : Int) = true) :
    Calls Try.prog 25 #[.pointer (some ⟨b, 0, none⟩), .int .u64 a, .int .i64 size] w fun e w' => e = .returned (.tuple #[.string ⟨(txtN f a size).toArray⟩, .bool true]) ∧ w = w' := by
  have htop := h.top
  have hin := inN_iff.1 hi
  have hhas := rhas_is h a (by omega) size (by omega) (by omega)
  rw [hi] at hhas
  clear hi
  obtain ⟨g, cap, cur, h⟩ := h
  obtain ⟨c0, c1⟩ := h.cells
  have hcap := h.fit
  have hconv := run_convert_bytes_back (P := Try.prog) w 38 9 5 ⟨g, a, none⟩ (cap - a) (txtN f a size) Try.underlying38 Try.underlying5 Try.underlying9 (fun j hj => by
    rw [txtN_len] at hj
    have e : (⟨g, a, none⟩ : Addr).add j = ⟨g, a + j, none⟩ := by
      unfold Addr.add; split
      · rename_i h0; rw [h0, Nat.add_zero]
      · simp
    rw [e, (h.byte (a + j) (by omega)).1]
    have := txtN_at f a size j hj
    rw [List.getElem?_eq_getElem (by rw [txtN_len]; exact hj)] at this
    rw [Option.some.inj this])
  rw [txtN_len] at hconv
  have ha24 : (a : Int) ≤ 16777216 := by omega
  have hs24 : (size : Int) ≤ 16777216 := by omega
  have q1 : ((a : Int) + size).toNat = a + size := by omega
  have q2 : a + size ≤ cap := by omega
  have q3 : (a : Int) + size ≤ cap := by omega
  have q4 : a + size - a = size := by omega
  by_cases hca : cap = a
  · have hs0 : size = 0 := by omega
    subst hs0
    have hconv0 := run_convert_bytes_back (P := Try.prog) w 38 9 5 ⟨g, 0, none⟩ (cap - a) [] Try.underlying38 Try.underlying5 Try.underlying9 (fun j hj => by simp at hj)
    clear hconv
    subst hca
    rw [List.length_nil, Nat.sub_self] at hconv0
    go_enter Try.func25, Try.ntmps25
    go_wp2_with (go_at_call 33; refine hhas.mono ?_; rintro e w' ⟨rfl, rfl⟩)
    go_ret2
    exact ⟨rfl, rfl⟩
  · go_enter Try.func25, Try.ntmps25
    go_wp2_with (go_at_call 33; refine hhas.mono ?_; rintro e w' ⟨rfl, rfl⟩)
    go_ret2
    exact ⟨rfl, rfl⟩
theorem RefIs.drew (h : RefIs O B b n m f g cap cur w) : RefIs O B b n m f g cap cur w.drew := ⟨h.box, h.row, h.size, h.fit, h.capm, h.at', h.zero, h.top, h.ob, h.og, h.low⟩
theorem putS_snoc (f : Nat → UInt8) (a : Nat) (l : List UInt8) (j : Nat) (hj : j < l.length) : putS f a (l.take (j + 1)) = fun i => if i = a + j then l[j] else putS f a (l.take j) i := by
  funext i
  unfold putS
  simp only [List.length_take]
  by_cases h : i = a + j
  · subst h
    rw [if_pos (by omega), if_pos rfl, List.getD_eq_getElem?_getD, List.getElem?_take, if_pos (by omega), Nat.add_sub_cancel_left, List.getElem?_eq_getElem hj]
    rfl
  · rw [if_neg h]
    by_cases h2 : a ≤ i ∧ i < a + min j l.length
    · rw [if_pos h2, if_pos (by omega), List.getD_eq_getElem?_getD, List.getD_eq_getElem?_getD, List.getElem?_take, List.getElem?_take, if_pos (by omega), if_pos (by omega)]
    · rw [if_neg h2, if_neg (by omega)]
set_option maxRecDepth 100000 in
set_option maxHeartbeats 2000000 in
theorem rwrite_yes (h : RefAt O B b n m f w) (a : Nat) (s : ByteArray) (hss : s.size < 9223372036854775808) (hi : inN n a (s.size : Int) = true) :
    Calls Try.prog 24 #[.pointer (some ⟨b, 0, none⟩), .int .u64 a, .string s] w fun e w' => e = .returned (.bool true) ∧ RefAt O B b n m (putS f a s.data.toList) w' ∧ Kept O w w' := by
  have htop := h.top
  have hin := inN_iff.1 hi
  have hhas := rhas_is h a (by omega) s.size (by omega) (by omega)
  rw [hi] at hhas
  have HI := Lib.hid hi
  clear hi
  go_enter Try.func24, Try.ntmps24
  go_wp2_with (go_at_call 33; refine hhas.mono ?_; rintro e w' ⟨rfl, rfl⟩)
  clear hhas
  go_loopw [8] (fun i wr => ∃ j : Nat, j ≤ s.size ∧ i = .int .i64 j ∧ RefAt O B b n m (putS f a (s.data.toList.take j)) wr ∧ Kept O w wr) (fun i _ => (s.size - (intOf i).toNat))
  case atStart => exact ⟨0, Nat.zero_le _, rfl, by rw [List.take_zero, putS_nil]; exact h, Kept.refl _ _⟩
  case round =>
    obtain ⟨j, hj, rfl, ⟨g, cap, cur, hr⟩, hkr⟩ := hrel
    by_cases hlt : j < s.size
    · have hcap := hr.fit
      obtain ⟨c0, c1⟩ := hr.cells
      have hat : a + j < n * 65536 := by omega
      obtain ⟨hb, hf⟩ := hr.byte (a + j) hat
      have hjl : j < s.data.toList.length := by rw [data_len]; exact hlt
      have hset := hr.set (a + j) hat s.data.toList[j]
      rw [← putS_snoc _ _ _ _ hjl] at hset
      have ha24 : (a : Int) ≤ 16777216 := by omega
      have hj24 : (j : Int) ≤ 16777216 := by omega
      have q2 := (wrap_at a j n hat htop).2.1
      go_wp2
      go_region
      go_wp2
      go_roundw
      case rel => exact ⟨j + 1, by omega, by go_num, ⟨_, _, _, RefIs.drew hset⟩, (hkr.setCell hr.og _ _).drew⟩
      case measure => simp [intOf]; omega
    · go_wp2
      go_ret
      have e : j = s.size := by omega
      subst e
      rw [List.take_of_length_le (by rw [data_len]; exact Nat.le_refl _)] at hr
      exact ⟨rfl, ⟨g, cap, cur, hr⟩, hkr⟩
set_option maxRecDepth 100000 in
set_option maxHeartbeats 2000000 in
theorem rgrow_no (h : RefAt O B b n m f w) (hm : -1 ≤ m ∧ m ≤ 9223372036854775807) (k : Nat) (hk : k ≤ 4) (hno : 256 < n + k ∨ m ≠ -1 ∧ m < n + k) :
    Calls Try.prog 21 #[.pointer (some ⟨b, 0, none⟩), .int .u32 k] w fun e w' => e = .returned (.int .i32 (-1)) ∧ w = w' := by
  have htop := h.top
  have hpg := rpages_is h
  obtain ⟨g, cap, cur, h⟩ := h
  obtain ⟨c0, c1⟩ := h.cells
  obtain ⟨m0, m1⟩ := hm
  clear h
  by_cases g1 : 256 < n + k
  · clear hno
    go_enter Try.func21, Try.ntmps21
    go_wp2_with (go_at_call 13; refine hpg.mono ?_; rintro e w' ⟨rfl, rfl⟩)
    go_ret
    exact ⟨rfl, rfl⟩
  · obtain ⟨g2, g3⟩ : m ≠ -1 ∧ m < n + k := hno.resolve_left g1
    have q1 : (m != -1) = true := by simp [bne, g2]
    have q2 : (m == -1) = false := beq_eq_false_iff_ne.2 g2
    clear hno
    go_enter Try.func21, Try.ntmps21
    go_wp2_with (go_at_call 13; refine hpg.mono ?_; rintro e w' ⟨rfl, rfl⟩)
    go_ret
    exact ⟨rfl, rfl⟩
set_option maxRecDepth 100000 in
set_option maxHeartbeats 2000000 in
theorem rgrow_yes (h : RefAt O B b n m f w) (hm : -1 ≤ m ∧ m ≤ 9223372036854775807) (hB : B ≤ w.heap.size) (k : Nat) (hk : k ≤ 4) (h1 : n + k ≤ 256) (h2 : m = -1 ∨ (n + k : Nat) ≤ m) :
    Calls Try.prog 21 #[.pointer (some ⟨b, 0, none⟩), .int .u32 k] w fun e w' => e = .returned (.int .i32 n) ∧ (∃ O', RefAt O' B b (n + k) m f w' ∧ Kept O w w' ∧ ∀ x, O' x → O x ∨ w.heap.size ≤ x) := by
  have htop := h.top
  have hpg := rpages_is h
  obtain ⟨g, cap, cur, h⟩ := h
  obtain ⟨c0, c1⟩ := h.cells
  have m0 := hm.1
  clear hm
  obtain ⟨i0, hi, hz0, hz1, hz2⟩ := info_parts (P := Try.prog) (e := 5) (z := .int .u8 0) (size := 1) (bytes := 1) (by kernel_rfl)
  obtain ⟨g', cap', cur', w1, hrun, hg', hsz', hle', hcm', hold, hnew, hor, hgrow⟩ := append_zeros (P := Try.prog) w 38 3 38 5 i0 Try.underlying38 Try.underlying3 hi hz0 hz1 hz2 g (n * 65536) cap (k * 65536) cur h.row h.size h.fit h.capm (by omega)
  have e1 : ((k * 65536 : Nat) : Int) = (k : Int) * 65536 := by omega
  have e2 : n * 65536 + k * 65536 = (n + k) * 65536 := (Nat.add_mul n k 65536).symm
  have HC := Lib.hid hcm'
  clear hcm'
  rw [e1] at hrun
  have hbl := in_heap h.box
  have hb1 : w1.heap[b]? = w.heap[b]? := hgrow.block b hbl (fun e => h.ne (Option.some.inj e).symm)
  have d0 : w1.cell? ⟨b, 0, none⟩ = some (.slice (some ⟨g, 0, none⟩) (n * 65536) cap) := (World.cell?_of_block (w := w) hb1).trans c0
  have f0 : w1.frozen? ⟨b, 0, none⟩ = false := by rw [World.frozen?_of_block (w := w) hb1]; simp [World.frozen?, h.box]
  have hfin : ∃ O', RefAt O' B b (n + k) m f (w1.setCell ⟨b, 0, none⟩ (.slice (some ⟨g', 0, none⟩) (n * 65536 + k * 65536) cap')) ∧ Kept O w (w1.setCell ⟨b, 0, none⟩ (.slice (some ⟨g', 0, none⟩) (n * 65536 + k * 65536) cap')) ∧ ∀ x, O' x → O x ∨ w.heap.size ≤ x := by
    rw [e2]
    rw [e2] at hle' hnew
    have hgb : g' ≠ b := by rcases hor with e | e; exact e ▸ h.ne; omega
    have hg'l := in_heap hg'
    have hsz1 := hgrow.size
    refine ⟨fun x => O x ∨ x = g', ⟨g', cap', cur', ⟨?_, (Below.heap_setCell _ _ _ _ hgb).trans hg', hsz', hle', HC.out, fun i hi => ?_, fun i hi => h.zero i (Nat.le_trans (Nat.mul_le_mul_right _ (Nat.le_add_right n k)) hi), h1, .inl h.ob, .inr rfl, fun x hx => ?_⟩⟩, ?_, fun x hx => ?_⟩
    · rw [heap_setCell_same w1 b 0 _ _ _ (hb1.trans h.box)]
      rfl
    · by_cases hin : i < n * 65536
      · rw [hold i hin]
        exact h.at' i hin
      · rw [hnew i (Nat.le_of_not_lt hin) hi, h.zero i (Nat.le_of_not_lt hin)]
        rfl
    · rw [setCell_size]
      rcases hx with e | e
      · have := h.low x e
        omega
      · rcases hor with e2 | e2
        · have := h.low g h.og
          omega
        · omega
    · exact Kept.setCell ⟨hgrow.os, hgrow.tape, hgrow.output, hgrow.size, fun x hx hn => hgrow.block x hx (fun e => hn (by rw [Option.some.inj e]; exact h.og))⟩ h.ob 0 _
    · rcases hx with e | e
      · exact .inl e
      · rcases hor with e2 | e2
        · exact .inl (by rw [e, e2]; exact h.og)
        · exact .inr (by omega)
  have HF := Lib.hid hfin
  clear hfin
  obtain ⟨N, hN⟩ : ∃ N, N = n * 65536 + k * 65536 := ⟨_, rfl⟩
  rw [← hN] at hrun HF
  clear hN hle'
  have g1 : ¬ 256 < n + k := by omega
  have HR := Lib.hid hrun
  clear h hrun hold hnew hor hgrow hb1 hg' e1 e2
  rcases h2 with g2 | g2
  · subst g2
    go_enter Try.func21, Try.ntmps21
    go_wp2_with (first | (go_at_call 13; refine hpg.mono ?_; rintro e w' ⟨rfl, rfl⟩) | (at_builtin; refine wpList_append_run rfl (.tmp 34) (.tmp 37) 38 3 rfl _ _ _ rfl rfl HR.out ?_))
    go_wp2
    go_ret
    exact ⟨rfl, HF.out⟩
  · have g3 : ¬ m = -1 := by omega
    have q1 : (m != -1) = true := by simp [bne, g3]
    have q2 : (m == -1) = false := beq_eq_false_iff_ne.2 g3
    have q3 : ¬ m < (n : Int) + k := by omega
    go_enter Try.func21, Try.ntmps21
    go_wp2_with (first | (go_at_call 13; refine hpg.mono ?_; rintro e w' ⟨rfl, rfl⟩) | (at_builtin; refine wpList_append_run rfl (.tmp 34) (.tmp 37) 38 3 rfl _ _ _ rfl rfl HR.out ?_))
    go_wp2
    go_ret
    exact ⟨rfl, HF.out⟩
end Go.Proofs.Ytaihmcengecmiaa
