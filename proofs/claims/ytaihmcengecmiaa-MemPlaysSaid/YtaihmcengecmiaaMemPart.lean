/-
  Package mem: a part of a page; a text is written. Contracts that the proofs call; no statement is proved here.
-/
import Derived.Test.YtaihmcengecmiaaMemGrow
import Derived.Lib.BufferWrite
import Derived.Deep.QuietTactic
import Derived.BigQuiet
import Derived.Lib.Strings
namespace Go.Proofs.Ytaihmcengecmiaa
open Go.RowKit Go.Maps
set_option linter.unusedVariables false
set_option linter.unusedSimpArgs false
variable {O O' : Nat → Prop} {B b n most : Nat} {f : Nat → UInt8} {v : Value} {mb : Nat} {ps : List Nat} {w w' w'' : World}

/-- One page holds something else. -/
theorem MemIs.page (h : MemIs O B b n most f v mb ps w) {k p : Nat} (hp : ps[k]? = some p) {w' : World} (hsz : w'.heap.size = w.heap.size) (hoth : ∀ q, q ≠ p → w'.heap[q]? = w.heap[q]?) {cs' : Array Value} (hc' : w'.heap[p]? = some (.cells cs' 74 (0, 0))) (hs' : cs'.size = 65536)
    {f' : Nat → UInt8} (hf : ∀ i, i / 65536 ≠ k → f' i = f i) (hcs' : ∀ i, i < 65536 → cs'[i]? = some (.int .u8 ((f' (k * 65536 + i)).toNat : Int))) : MemIs O B b n most f' v mb ps w' := by
  have hm := List.mem_of_getElem? hp
  obtain ⟨n1, n2, n3⟩ := h.page_ne hm
  have hkn : k < n := by rw [← h.len]; exact (List.getElem?_eq_some_iff.1 hp).1
  refine ⟨(hoth b (Ne.symm n1)).trans h.box, ⟨h.row.1, ?_⟩, h.szs.same (hoth mb (Ne.symm n2)), fun k2 q hq => ?_, h.one, h.le, h.top, fun i hi => by rw [hf i (by omega)]; exact h.zero i hi, h.ob, h.om, h.op, h.ov, fun k hO => ⟨(h.low k hO).1, by rw [hsz]; exact (h.low k hO).2⟩⟩
  · rcases h.row.2 with hn | ⟨g, cap, cur, hv, hB, hg, rest⟩
    · exact .inl hn
    · exact .inr ⟨g, cap, cur, hv, hB, (hoth g (Ne.symm (n3 g (by rw [hv]; rfl)))).trans hg, rest⟩
  · by_cases e : k2 = k
    · subst e
      obtain rfl : p = q := Option.some.inj (hp.symm.trans hq)
      exact ⟨cs', hc', hs', hcs'⟩
    · have hne : q ≠ p := fun e2 => e (h.one _ _ q hq (by rw [e2]; exact hp))
      obtain ⟨cs, hc, hs, hcs⟩ := h.pgs k2 q hq
      refine ⟨cs, (hoth q hne).trans hc, hs, fun i hi => ?_⟩
      rw [hf _ (by omega)]
      exact hcs i hi
theorem putS_nil (f : Nat → UInt8) (a : Nat) : putS f a [] = f := by
  funext i
  unfold putS
  rw [if_neg (by rw [List.length_nil]; omega)]
theorem putS_add (f : Nat → UInt8) (a : Nat) (l m : List UInt8) : putS (putS f a l) (a + l.length) m = putS f a (l ++ m) := by
  funext i
  unfold putS
  simp only [List.length_append]
  by_cases h1 : a + l.length ≤ i ∧ i < a + l.length + m.length
  · rw [if_pos h1, if_pos (by omega)]
    rw [List.getD_eq_getElem?_getD, List.getD_eq_getElem?_getD, List.getElem?_append_right (by omega)]
    congr 2
    omega
  · rw [if_neg h1]
    by_cases h2 : a ≤ i ∧ i < a + l.length
    · rw [if_pos h2, if_pos (by omega), List.getD_eq_getElem?_getD, List.getD_eq_getElem?_getD, List.getElem?_append_left (by omega)]
    · rw [if_neg h2, if_neg (by omega)]
theorem setRow_size (w : World) (g : Nat) (x : Array Value) : (w.setRow g x).heap.size = w.heap.size := by simp [World.setRow]
/-- A text stands in one page. -/
theorem MemIs.splice (h : MemIs O B b n most f v mb ps w) (a p : Nat) (hp : ps[a / 65536]? = some p) (l : List UInt8) (hl : a % 65536 + l.length ≤ 65536) {cs : Array Value} (hc : w.heap[p]? = some (.cells cs 74 (0, 0))) (hs : cs.size = 65536)
    (hcs : ∀ i, i < 65536 → cs[i]? = some (.int .u8 ((f (a / 65536 * 65536 + i)).toNat : Int))) :
    MemIs O B b n most (putS f a l) v mb ps (w.setRow p (cs.toList.take (a % 65536) ++ Lib.byteCells l ++ cs.toList.drop (a % 65536 + l.length)).toArray) := by
  have hlen : (Lib.byteCells l).length = l.length := Lib.byteCells_length l
  have hcl : cs.toList.length = 65536 := by simpa using hs
  refine h.page hp (setRow_size _ _ _) (fun q hq => setRow_other w p q _ hq) (setRow_heap w p cs _ _ _ hc) ?_ (fun i hi => ?_) (fun i hi => ?_)
  · simp [hlen, hs]
    omega
  · unfold putS
    rw [if_neg (by omega)]
  · have hh := hcs i hi
    rw [← Array.getElem?_toList] at hh
    simp only [List.getElem?_toArray]
    unfold putS
    by_cases h1 : i < a % 65536
    · rw [List.append_assoc, List.getElem?_append_left (by rw [List.length_take]; omega), List.getElem?_take, if_pos h1, if_neg (by omega)]
      exact hh
    · by_cases h2 : i < a % 65536 + l.length
      · rw [List.getElem?_append_left (by rw [List.length_append, List.length_take, hlen]; omega), List.getElem?_append_right (by rw [List.length_take]; omega), if_pos (by omega)]
        rw [List.length_take, Nat.min_eq_left (by omega)]
        have hk : i - a % 65536 < l.length := by omega
        rw [show a / 65536 * 65536 + i - a = i - a % 65536 by omega]
        simp [Lib.byteCells, List.getElem?_map, List.getElem?_eq_getElem hk, List.getD_eq_getElem?_getD]
      · rw [List.getElem?_append_right (by rw [List.length_append, List.length_take, hlen]; omega), if_neg (by omega), List.length_append, List.length_take, hlen, Nat.min_eq_left (by omega), List.getElem?_drop]
        rw [show a % 65536 + l.length + (i - (a % 65536 + l.length)) = i by omega]
        exact hh
/-- A text is copied into a page, as much as there is room for. -/
theorem run_copy_page {P : Program} (w : World) (dT sT ty elem : TypeId) (g o dLen dCap : Nat) (s : ByteArray) (cur : Array Value) (t : TypeId)
    (hu : P.underlying dT = some (.slice elem)) (hs : (P.info? elem).map (·.size) = some 1) (hg : w.heap[g]? = some (.cells cur t (0, 0))) (hle : dLen ≤ s.size) (hfit : o + dLen ≤ cur.size) :
    (Builtin.copy_ #[dT, sT] ty #[.slice (some ⟨g, o, none⟩) dLen dCap, .string s]).run P w =
      .ok (goInt dLen) (w.setRow g (cur.toList.take o ++ Lib.byteCells (s.data.toList.take dLen) ++ cur.toList.drop (o + dLen)).toArray) := by
  have hsz : s.data.toList.length = s.size := by rw [Array.length_toList]; rfl
  have hlen : (Lib.byteCells (s.data.toList.take dLen)).length = dLen := by rw [Lib.byteCells_length, List.length_take]; omega
  have hst := run_storeCells_at P g o t (Lib.byteCells (s.data.toList.take dLen)) 0 cur w hg (by rw [hlen]; simpa using hfit) (Lib.byteCells_one _)
  have hmin : Nat.min s.size dLen = dLen := Nat.min_eq_right hle
  have htk : List.take dLen (List.map (fun b : UInt8 => Value.int IntKind.u8 (b.toNat : Int)) s.data.toList) = Lib.byteCells (s.data.toList.take dLen) := by
    rw [← List.map_take]
    rfl
  rw [hlen] at hst
  simp only [Nat.add_zero] at hst
  cases hq : P.info? elem with
  | none => simp [hq] at hs
  | some i =>
    simp [Builtin.copy_, run_underlying hu, Builtin.lenOf, Builtin.firstCells, sizeOf, typeInfo, hq, hmin]
    rw [htk, hst]
    simp [Result.andThen]
theorem slice_page (p o : Nat) (ho : o < 65536) (w : World) : (Instr.sliceAt 74 (.pointer (some ⟨p, 0, none⟩)) (some (.int .u64 (o : Int))) none none).run Try.prog w = .ok (.slice (some ⟨p, o, none⟩) (65536 - o) (65536 - o)) w := by
  have e1 : ((o : Int)).toNat = o := rfl
  have e2 : (o : Int) ≤ 65536 := by omega
  have e3 : ¬ (65536 = o) := by omega
  simp [Instr.sliceAt, run_underlying Try.underlying74, Instr.sureAddr, Instr.sliceBounds, Instr.sliceBound, asIntOf, sizeOf, Try.typeInfo5, e2, e3, Result.andThen, Try.t5, Addr.add]
  rw [if_pos (by omega : o ≤ 65536)]
  simp only [if_neg e3]
  by_cases h0 : o = 0
  · rw [if_pos h0, h0]
  · rw [if_neg h0]
set_option maxRecDepth 100000 in
set_option maxHeartbeats 2000000 in
theorem part_is (h : MemIs O B b n most f v mb ps w) (a : Nat) (ha : a < n * 65536) (size : Nat) (hsz : size < 9223372036854775808) (p : Nat) (hp : ps[a / 65536]? = some p) :
    Calls Try.prog 27 #[.pointer (some ⟨b, 0, none⟩), .int .u64 a, .int .i64 size] w fun e w' => e = .returned (.slice (some ⟨p, a % 65536, none⟩) (min size (65536 - a % 65536)) (65536 - a % 65536)) ∧ w = w' := by
  obtain ⟨c0, c1, c2⟩ := h.cells
  obtain ⟨q, cap, rfl, hcap, hps⟩ := h.slice
  obtain ⟨g, rfl, hg⟩ := hps _ _ hp
  have hle := h.le
  have htop := h.top
  clear h hps hp
  have k1 : a / 65536 < n := by omega
  unfold pgV at hg
  have e1 : ((a : Int) / 65536).toNat = a / 65536 := by omega
  have e2 : ((a : Int) % 65536).toNat = a % 65536 := by omega
  by_cases hm : size ≤ 65536 - a % 65536
  · have e3 : min size (65536 - a % 65536) = size := Nat.min_eq_left hm
    rw [e3]
    have hsl := slice_page p (a % 65536) (by omega)
    rw [show ((a % 65536 : Nat) : Int) = (a : Int) % 65536 by omega] at hsl
    have HE := Lib.hid e3
    clear e3
    go_enter Try.func27, Try.ntmps27
    go_wp2
    go_ret
    exact ⟨rfl, rfl⟩
  · have e3 : min size (65536 - a % 65536) = 65536 - a % 65536 := Nat.min_eq_right (by omega)
    rw [e3]
    have hsl := slice_page p (a % 65536) (by omega)
    rw [show ((a % 65536 : Nat) : Int) = (a : Int) % 65536 by omega] at hsl
    have HE := Lib.hid e3
    clear e3
    go_enter Try.func27, Try.ntmps27
    go_wp2
    go_ret
    exact ⟨rfl, rfl⟩
def lenOf : Value → Nat
  | .string s => s.size
  | _ => 0
theorem data_len (s : ByteArray) : s.data.toList.length = s.size := by rw [Array.length_toList]; rfl
theorem drop_data (s : ByteArray) (j : Nat) : (s.extract j s.size).data.toList = s.data.toList.drop j := by
  rw [ByteArray.data_extract, Array.toList_extract, List.extract_eq_take_drop, List.take_of_length_le]
  rw [List.length_drop, data_len]
  exact Nat.le_refl _
theorem bytes_ext {s t : ByteArray} (h : s.data.toList = t.data.toList) : s = t := by
  obtain ⟨⟨l⟩⟩ := s
  obtain ⟨⟨m⟩⟩ := t
  simp only at h
  rw [h]
theorem extract_extract (s : ByteArray) (j d : Nat) : (s.extract j s.size).extract d (s.extract j s.size).size = s.extract (j + d) s.size := by
  apply bytes_ext
  rw [drop_data, drop_data, drop_data, List.drop_drop]
theorem isEmpty_yes {s : ByteArray} (h : s.size = 0) : s.toList.isEmpty = true := by
  rw [ByteArray.toList_eq, List.isEmpty_iff_length_eq_zero, data_len, h]
theorem isEmpty_no {s : ByteArray} (h : 1 ≤ s.size) : s.toList.isEmpty = false := by
  rw [ByteArray.toList_eq, List.isEmpty_eq_false_iff]
  intro e
  have := data_len s
  rw [e] at this
  simp at this
  omega
theorem Kept.drewN (h : Kept O w w') (k : Nat) : Kept O w (w'.drewN k) := ⟨h.os, h.tape, h.output, h.size, h.block⟩
theorem MemIs.drewN (h : MemIs O B b n most f v mb ps w) (k : Nat) : MemIs O B b n most f v mb ps (w.drewN k) := ⟨h.box, h.row, h.szs, h.pgs, h.one, h.le, h.top, h.zero, h.ob, h.om, h.op, h.ov, h.low⟩
theorem Kept.setRow (h : Kept O w w') {p : Nat} (hp : O p) (x : Array Value) : Kept O w (w'.setRow p x) :=
  h.trans (O' := O) ⟨rfl, rfl, rfl, by rw [setRow_size]; exact Nat.le_refl _, fun k hk hn => setRow_other _ _ _ _ (fun e => hn (by rw [e]; exact hp))⟩ (fun k hk _ => hk)
set_option maxRecDepth 100000 in
set_option maxHeartbeats 2000000 in
theorem write_yes (h : MemIs O B b n most f v mb ps w) (a : Nat) (s : ByteArray) (hss : s.size < 9223372036854775808) (hi : inN n a (s.size : Int) = true) :
    Calls Try.prog 14 #[.pointer (some ⟨b, 0, none⟩), .int .u64 a, .string s] w fun e w' => e = .returned (.bool true) ∧ MemIs O B b n most (putS f a s.data.toList) v mb ps w' ∧ Kept O w w' := by
  have hle := h.le
  have htop := h.top
  have hin := inN_iff.1 hi
  have hhas := has_is ⟨v, mb, ps, h⟩ a (by omega) s.size (by omega) (by omega)
  rw [hi] at hhas
  have HI := Lib.hid hi
  clear hi
  go_enter Try.func14, Try.ntmps14
  go_wp2_with (go_at_call 26; refine hhas.mono ?_; rintro e w' ⟨rfl, rfl⟩)
  clear hhas
  go_loopw [1, 2, 7] (fun p x _ wr => ∃ j : Nat, j ≤ s.size ∧ p = .int .u64 (a + j : Nat) ∧ x = .string (s.extract j s.size) ∧ MemIs O B b n most (putS f a (s.data.toList.take j)) v mb ps wr ∧ Kept O w wr) (fun _ x _ _ => lenOf x)
  case atStart => exact ⟨0, Nat.zero_le _, rfl, by simp, by rw [List.take_zero, putS_nil]; exact h, Kept.refl _ _⟩
  case round =>
    obtain ⟨j, hj, rfl, rfl, hr, hkr⟩ := hrel
    have hst := Lib.hid (fun d => extract_extract s j d)
    have hdd := Lib.hid (drop_data s j)
    have hts : (s.extract j s.size).size = s.size - j := by simp [ByteArray.size_extract]
    generalize s.extract j s.size = t at *
    by_cases hlt : j < s.size
    · have ht1 : 1 ≤ t.size := by omega
      have ht2 : a + j + t.size ≤ n * 65536 := by omega
      have hk : (a + j) / 65536 < ps.length := by rw [hr.len]; omega
      obtain ⟨p, hp⟩ : ∃ p, ps[(a + j) / 65536]? = some p := ⟨_, List.getElem?_eq_getElem hk⟩
      obtain ⟨cs, hc, hcs, hcc⟩ := hr.pgs _ _ hp
      have hpart := part_is hr (a + j) (by omega) t.size (by omega) p hp
      obtain ⟨d, hd⟩ : ∃ d, d = min t.size (65536 - (a + j) % 65536) := ⟨_, rfl⟩
      have hd1 : 1 ≤ d ∧ d ≤ t.size ∧ (a + j) % 65536 + d ≤ 65536 := by omega
      rw [← hd, Int.natCast_add] at hpart
      have hcopy := run_copy_page (P := Try.prog) wr 38 9 3 5 p ((a + j) % 65536) d (65536 - (a + j) % 65536) t cs _ Try.underlying38 (by kernel_rfl) hc hd1.2.1 (by omega)
      have hspl := hr.splice (a + j) p hp (t.data.toList.take d) (by rw [List.length_take]; omega) hc hcs hcc
      have htl : (t.data.toList.take d).length = d := by rw [List.length_take, Array.length_toList]; show min d t.size = d; omega
      have hjd : j + d ≤ s.size := by omega
      rw [List.append_assoc] at hspl
      have HTS := Lib.hid hts
      have HD := Lib.hid hd
      have HTL := Lib.hid htl
      have hop := hr.op p (List.mem_of_getElem? hp)
      clear hts hd htl hk hc hcs hcc hp
      have g1 : (t.toList.isEmpty) = false := isEmpty_no ht1
      have q1 : IntKind.u64.wrap (d : Int) = d := by rw [IntKind.wrap_u64]; omega
      have q2 : IntKind.u64.wrap ((a : Int) + j + d) = a + j + d := by rw [IntKind.wrap_u64]; omega
      have q3 : (0 : Int) ≤ d := by omega
      have q4 : (d : Int) ≤ t.size := by omega
      go_wp2_with (go_at_call 27; refine hpart.mono ?_; rintro e w' ⟨rfl, rfl⟩)
      go_quiet (fail)
      go_wp2
      have hfin := (hspl.drewN nq)
      go_roundw
      case rel =>
        refine ⟨j + d, hjd, by rw [Int.natCast_add, Int.natCast_add, Int.add_assoc], by rw [hst.out], ?_, (hkr.setRow hop _).drewN _⟩
        have e1 := putS_add f a (s.data.toList.take j) (t.data.toList.take d)
        rw [List.length_take, data_len, Nat.min_eq_left hj, hdd.out, ← List.take_add] at e1
        rw [← e1, ← hdd.out]
        rw [HTL.out] at hfin
        exact hfin
      case measure =>
        clear q1 q2
        show (t.extract d t.size).size < t.size
        rw [ByteArray.size_extract]
        omega
    · have e : j = s.size := by omega
      have g1 : t.toList.isEmpty = true := isEmpty_yes (by omega)
      clear hst hdd hts
      go_wp2
      go_ret
      subst e
      rw [List.take_of_length_le (by rw [data_len]; exact Nat.le_refl _)] at hr
      exact ⟨rfl, hr, hkr⟩
set_option maxRecDepth 100000 in
set_option maxHeartbeats 2000000 in
theorem write_no (h : MemAt O B b n most f w) (a : Nat) (ha : a < 18446744073709551616) (s : ByteArray) (hss : s.size < 9223372036854775808) (hi : inN n a (s.size : Int) = false) :
    Calls Try.prog 14 #[.pointer (some ⟨b, 0, none⟩), .int .u64 a, .string s] w fun e w' => e = .returned (.bool false) ∧ w = w' := by
  have hhas := has_is h a ha s.size (by omega) (by omega)
  rw [hi] at hhas
  clear hi
  go_enter Try.func14, Try.ntmps14
  go_wp2_with (go_at_call 26; refine hhas.mono ?_; rintro e w' ⟨rfl, rfl⟩)
  go_ret
  exact ⟨rfl, rfl⟩
end Go.Proofs.Ytaihmcengecmiaa
