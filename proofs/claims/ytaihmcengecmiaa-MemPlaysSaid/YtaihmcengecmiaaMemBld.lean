/-
  strings.Builder in this program: the library's contracts laid (Grow, Len, String), and Write, walked. Contracts that the proofs call; no statement is proved here.
-/
import Derived.Test.YtaihmcengecmiaaMemPart
import Derived.Shelf.Strings.OnBuilder
import Derived.Shelf.Strings.Builder2Cap
namespace Go.Proofs.Ytaihmcengecmiaa
open Go.RowKit Go.Maps
set_option linter.unusedVariables false
set_option linter.unusedSimpArgs false
variable {O O' : Nat → Prop} {B b n most : Nat} {f : Nat → UInt8} {v : Value} {mb : Nat} {ps : List Nat} {w w' w'' : World}

def lays8_ren : Go.Shelf.Ren := ⟨fun | 165 => 29 | 169 => 32 | 170 => 30 | 240 => 35 | 241 => 36 | 276 => 37 | 277 => 38 | n => n, fun | 0 => 0 | 3 => 3 | 4 => 4 | 5 => 5 | 9 => 9 | 20 => 20 | 37 => 38 | 70 => 64 | 72 => 66 | 127 => 62 | 164 => 76 | n => n, fun n => n⟩
theorem lays8_165 : Go.Proofs.Lays.n165 Try.prog lays8_ren := {
  mixed := by kernel_rfl,
  f165 := Try.func29.trans (congrArg some (by kernel_rfl)),
  f240 := Try.func35.trans (congrArg some (by kernel_rfl)),
  f241 := Try.func36.trans (congrArg some (by kernel_rfl)),
  f276 := Try.func37.trans (congrArg some (by kernel_rfl)),
  f277 := Try.func38.trans (congrArg some (by kernel_rfl)),
  t0 := Try.underlying0,
  a0 := Try.isAgg0,
  z0 := Try.sizeOf0,
  v0 := Try.zeroValue0,
  t3 := Try.underlying3,
  a3 := Try.isAgg3,
  z3 := Try.sizeOf3,
  v3 := Try.zeroValue3,
  t4 := Try.underlying4,
  a4 := Try.isAgg4,
  z4 := Try.sizeOf4,
  v4 := Try.zeroValue4,
  t9 := Try.underlying9,
  a9 := Try.isAgg9,
  z9 := Try.sizeOf9,
  v9 := Try.zeroValue9,
  t20 := Try.underlying20,
  a20 := Try.isAgg20,
  z20 := Try.sizeOf20,
  v20 := Try.zeroValue20,
  t37 := Try.underlying38,
  a37 := Try.isAgg38,
  z37 := Try.sizeOf38,
  v37 := Try.zeroValue38,
  t70 := Try.underlying64,
  a70 := Try.isAgg64,
  z70 := Try.sizeOf64,
  v70 := Try.zeroValue64,
  t72 := Try.underlying66,
  a72 := Try.isAgg66,
  z72 := Try.sizeOf66,
  v72 := Try.zeroValue66,
  t164 := Try.underlying76,
  a164 := Try.isAgg76,
  z164 := Try.sizeOf76,
  v164 := Try.zeroValue76 }
theorem lays8_169 : Go.Proofs.Lays.n169 Try.prog lays8_ren := {
  mixed := by kernel_rfl,
  f169 := Try.func32.trans (congrArg some (by kernel_rfl)),
  t0 := Try.underlying0,
  a0 := Try.isAgg0,
  z0 := Try.sizeOf0,
  v0 := Try.zeroValue0,
  t3 := Try.underlying3,
  a3 := Try.isAgg3,
  z3 := Try.sizeOf3,
  v3 := Try.zeroValue3,
  t9 := Try.underlying9,
  a9 := Try.isAgg9,
  z9 := Try.sizeOf9,
  v9 := Try.zeroValue9,
  t37 := Try.underlying38,
  a37 := Try.isAgg38,
  z37 := Try.sizeOf38,
  v37 := Try.zeroValue38,
  t70 := Try.underlying64,
  a70 := Try.isAgg64,
  z70 := Try.sizeOf64,
  v70 := Try.zeroValue64,
  t72 := Try.underlying66,
  a72 := Try.isAgg66,
  z72 := Try.sizeOf66,
  v72 := Try.zeroValue66,
  t127 := Try.underlying62,
  a127 := Try.isAgg62,
  z127 := Try.sizeOf62,
  v127 := Try.zeroValue62 }
theorem lays8_170 : Go.Proofs.Lays.n170 Try.prog lays8_ren := {
  mixed := by kernel_rfl,
  f170 := Try.func30.trans (congrArg some (by kernel_rfl)),
  t0 := Try.underlying0,
  a0 := Try.isAgg0,
  z0 := Try.sizeOf0,
  v0 := Try.zeroValue0,
  t3 := Try.underlying3,
  a3 := Try.isAgg3,
  z3 := Try.sizeOf3,
  v3 := Try.zeroValue3,
  t37 := Try.underlying38,
  a37 := Try.isAgg38,
  z37 := Try.sizeOf38,
  v37 := Try.zeroValue38,
  t70 := Try.underlying64,
  a70 := Try.isAgg64,
  z70 := Try.sizeOf64,
  v70 := Try.zeroValue64,
  t72 := Try.underlying66,
  a72 := Try.isAgg66,
  z72 := Try.sizeOf66,
  v72 := Try.zeroValue66 }
theorem lays8_240 : Go.Proofs.Lays.n240 Try.prog lays8_ren := {
  mixed := by kernel_rfl,
  f240 := Try.func35.trans (congrArg some (by kernel_rfl)),
  f276 := Try.func37.trans (congrArg some (by kernel_rfl)),
  t0 := Try.underlying0,
  a0 := Try.isAgg0,
  z0 := Try.sizeOf0,
  v0 := Try.zeroValue0,
  t4 := Try.underlying4,
  a4 := Try.isAgg4,
  z4 := Try.sizeOf4,
  v4 := Try.zeroValue4,
  t9 := Try.underlying9,
  a9 := Try.isAgg9,
  z9 := Try.sizeOf9,
  v9 := Try.zeroValue9,
  t20 := Try.underlying20,
  a20 := Try.isAgg20,
  z20 := Try.sizeOf20,
  v20 := Try.zeroValue20,
  t70 := Try.underlying64,
  a70 := Try.isAgg64,
  z70 := Try.sizeOf64,
  v70 := Try.zeroValue64,
  t72 := Try.underlying66,
  a72 := Try.isAgg66,
  z72 := Try.sizeOf66,
  v72 := Try.zeroValue66,
  t164 := Try.underlying76,
  a164 := Try.isAgg76,
  z164 := Try.sizeOf76,
  v164 := Try.zeroValue76 }
theorem extra8 : Builder.Extra Try.prog lays8_ren := {
  sizeBuilder := by kernel_rfl,
  liesBuilder := by kernel_rfl,
  t5 := Try.underlying5,
  a5 := Try.isAgg5,
  z5 := Try.sizeOf5,
  v5 := Try.zeroValue5,
  infoByte := by kernel_rfl,
  cellsByte := by kernel_rfl,
  sizeByte := by kernel_rfl,
  neB5 := by decide }
/-- A builder of the call's own that holds these bytes. -/
abbrev Bld (B b : Nat) (l : List UInt8) (w : World) : Prop := Lib.BuilderAt 66 5 B b (.pointer (some ⟨b, 0, none⟩)) (Lib.byteCells l) w
theorem bld_len (B b : Nat) (l : List UInt8) (w : World) (h : Bld B b l w ∨ Lib.IsBuilder 66 5 B b (Lib.byteCells l) w) : Calls Try.prog 30 #[.pointer (some ⟨b, 0, none⟩)] w fun e w' => e = .returned (.int .i64 l.length) ∧ w = w' := by
  have h' : Lib.IsBuilder 66 5 B b (Lib.byteCells l) w := h.elim Or.inr id
  refine (Any.Builder_Len lays8_170 B b _ w h').mono ?_
  rintro e w' ⟨rfl, rfl⟩
  rw [Lib.byteCells_length]
  exact ⟨rfl, rfl⟩
theorem bld_grow (B b n : Nat) (w : World) (hB : B ≤ b) (hbk : w.heap[b]? = some (.cells #[.pointer none, .slice none 0 0] 66 (0, 0))) (hBw : B ≤ w.heap.size) (hn : n ≤ 281474976710656) :
    Calls Try.prog 29 #[.pointer (some ⟨b, 0, none⟩), .int .i64 n] w fun e w' => e = .returned (.tuple #[]) ∧ Bld B b [] w' ∧ Below B w w' :=
  (Any.Builder_Grow_fresh lays8_165 extra8 B b n w hB hbk hBw hn).mono fun e w' h => h
theorem bld_string (B b : Nat) (l : List UInt8) (w : World) (h : Bld B b l w) (h0 : l ≠ []) :
    Calls Try.prog 32 #[.pointer (some ⟨b, 0, none⟩)] w fun e w' => e = .returned (.string ⟨l.toArray⟩) ∧ Below B w w' :=
  (Any.Builder_String lays8_169 extra8 B b l w (.inr h) h0).mono fun e w' h => h
set_option maxRecDepth 100000 in
set_option maxHeartbeats 2000000 in
/-- Bytes that stand in some older block are written behind. -/
theorem bld_write (B b : Nat) (l m : List UInt8) (w : World) (h : Bld B b l w) (g o c : Nat) (hg : g < B) (hm : ∀ j, j < m.length → w.cell? ⟨g, o + j, none⟩ = some (.int .u8 ((m.getD j 0).toNat : Int))) (hlen : l.length + m.length ≤ 140737488355328) (hBw : B ≤ w.heap.size) :
    Calls Try.prog 31 #[.pointer (some ⟨b, 0, none⟩), .slice (some ⟨g, o, none⟩) m.length c] w fun e w' => e = .returned (.tuple #[.int .i64 m.length, .nilIface]) ∧ Bld B b (l ++ m) w' ∧ Below B w w' := by
  have cc := Any.Builder_copyCheck lays8_240 extra8.toX72 B b _ w (.inr h)
  obtain ⟨i0, hi, hz0, hz1, hz2⟩ := info_parts (P := Try.prog) (e := 5) (z := .int .u8 0) (size := 1) (bytes := 1) (by kernel_rfl)
  go_enter Try.func31, Try.ntmps31
  go_wp2_with (go_at_call 35; refine cc.mono ?_)
  rintro e w1 ⟨rfl, h1, hb1⟩
  obtain ⟨hB, v, hbk, hown, hne⟩ := h1
  rw [Lib.byteCells_length] at hown
  have hbk : w1.heap[b]? = some (.cells #[.pointer (some ⟨b, 0, none⟩), v] 66 (0, 0)) := hbk
  have hown : w1.ownsRow B 5 1 v l.length (Lib.byteCells l) := hown
  have c0 : w1.cell? ⟨b, 0, none⟩ = some (.pointer (some ⟨b, 0, none⟩)) := by rw [Lib.cell_of_heap hbk]; rfl
  have c1 : w1.cell? ⟨b, 1, none⟩ = some v := by rw [Lib.cell_of_heap hbk]; rfl
  have hnews : ∀ (j : Nat) u, (Lib.byteCells m)[j]? = some u → w1.cell? ((⟨g, o, none⟩ : Addr).add j) = some u := by
    intro j u hu
    have hj : j < m.length := by
      have := (List.getElem?_eq_some_iff.1 hu).1
      rwa [Lib.byteCells_length] at this
    have e : (⟨g, o, none⟩ : Addr).add j = ⟨g, o + j, none⟩ := by
      unfold Addr.add; split
      · rename_i h0; rw [h0, Nat.add_zero]
      · simp
    rw [e, hb1.cell (p := ⟨g, o + j, none⟩) hg, hm j hj, ← hu]
    simp [Lib.byteCells, List.getD_eq_getElem?_getD, List.getElem?_eq_getElem hj]
  have hsz := hb1.size
  go_wp2_with (at_builtin; refine wpList_append_own_at _ rfl (.tmp 12) (.tmp 13) 38 rfl B 5 i0 (.int .u8 0) 1 1 Try.underlying38 hi hz0 hz1 hz2 rfl (by decide) v l.length (Lib.byteCells l) rfl hown ⟨g, o, none⟩ m.length c (Lib.byteCells m) rfl (by rw [Lib.byteCells_length, Nat.mul_one]) hnews (Lib.byteCells_one m) (by unfold maxLen; omega) (by omega) (by omega) ?_)
  intro v' w2 hown' hgrow _ _
  have hlt : b < w1.heap.size := in_heap hbk
  have hb2 : w2.heap[b]? = some (.cells #[.pointer (some ⟨b, 0, none⟩), v] 66 (0, 0)) := by
    rw [hgrow.block b hlt (fun e => hne e.symm)]
    exact hbk
  have d0 : w2.cell? ⟨b, 0, none⟩ = some (.pointer (some ⟨b, 0, none⟩)) := by rw [Lib.cell_of_heap hb2]; rfl
  have d1 : w2.cell? ⟨b, 1, none⟩ = some v := by rw [Lib.cell_of_heap hb2]; rfl
  have f1 : w2.frozen? ⟨b, 1, none⟩ = false := Lib.frozen_of_heap hb2 1
  obtain ⟨ao, cap, rfl⟩ := own_any hown'
  clear hnews hm cc
  go_wp2
  go_ret2
  refine ⟨rfl, ?_, ?_⟩
  · exact Lib.BuilderAt.put (T := 66) (e := 5) hB hb2 (bs' := Lib.byteCells (l ++ m)) (by rw [Lib.byteCells_append, List.length_append, Lib.byteCells_length, Lib.byteCells_length]; exact hown') extra8.neB5
  · exact (hb1.grown hgrow (by omega) (fun k hk => (hown.lt k hk).1)).setCell (p := ⟨b, 1, none⟩) hB _
end Go.Proofs.Ytaihmcengecmiaa
