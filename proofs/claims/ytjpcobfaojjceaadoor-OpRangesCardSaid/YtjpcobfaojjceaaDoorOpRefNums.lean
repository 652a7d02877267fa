/-
  The document's own list of instructions, its numbers: walked. A contract that the proofs call; no statement is proved here.
-/
import Derived.Test.YtjpcobfaojjceaaDoorOpRefRows
import Derived.Test.YtjpcobfaojjceaaDoorOpTab
namespace Go.Proofs.YtjpcobfaojjceaaDoor
open Go.RowKit

theorem below_size {w w' : World} {B : Nat} (h : Below B w w') : w.heap.size ≤ w'.heap.size := h.size
/-- A row of names lies in a block. -/
def NamesAt (w : World) (bk : Nat) (ns : List ByteArray) : Prop := ∀ j (hj : j < ns.length), w.cell? ⟨bk, j, none⟩ = some (.string ns[j])
theorem NamesAt.alloc {w : World} {bk : Nat} {ns : List ByteArray} (h : NamesAt w bk ns) (hb : bk < w.heap.size) (o : Obj) : NamesAt (w.alloc o) bk ns := fun j hj => by
  rw [World.cell?_alloc_lt w o _ hb]; exact h j hj
theorem NamesAt.grown {w w' : World} {bk : Nat} {ns : List ByteArray} {row : Option Nat} (h : NamesAt w bk ns) (hb : bk < w.heap.size) (hg : w.grownBy w' row) (hn : row ≠ some bk) : NamesAt w' bk ns := fun j hj => by
  rw [World.cell?_of_block (w := w) (hg.block bk hb (fun e => hn e.symm))]; exact h j hj
theorem own_lt {w : World} {base : Nat} {e : TypeId} {size : Nat} {v : Value} {n : Nat} {xs : List Value} (h : w.ownsRow base e size v n xs) : v.ownBlock ≠ some w.heap.size := by
  intro hv
  rcases h.2 with ⟨rfl, _⟩ | ⟨g, cap, cur, rfl, _, hg, _⟩
  · cases hv
  · simp only [Value.ownBlock, Option.some.injEq] at hv
    subst hv
    simp at hg
theorem names_small : (∀ n ∈ testNames, n.size ≤ 10) ∧ (∀ n ∈ opNames, n.size ≤ 10) := by decide +kernel
theorem testNames_len : testNames.length = 10 := rfl
theorem opNames_len : opNames.length = 18 := rfl

set_option maxRecDepth 100000 in
set_option maxHeartbeats 4000000 in
theorem ref_numbers (pre t : ByteArray) (zero ops : Int) (hp : pre.size ≤ 10) (ht : t.size ≤ 10) (hz : 0 ≤ zero) (hz' : zero ≤ 1000) (ho : 0 ≤ ops) (ho' : ops ≤ 1000) (w : World) :
    Calls Tryd.prog 32 #[.string pre, .string t, .int .i64 zero, .int .i64 ops] w fun e w' =>
      ∃ v, e = .returned v ∧ w'.ownsRow w.heap.size 50 5 v 29 (cellsOf (numbersOf pre t zero ops)) ∧ Below w.heap.size w w' := by
  obtain ⟨i0, hi, hz0, hz1, hz2⟩ := info_parts infoRow
  obtain ⟨B, hBd⟩ : ∃ B, B = w.heap.size := ⟨_, rfl⟩
  rw [← hBd]
  have HBd := Lib.hid hBd
  have hBs : B ≤ w.heap.size := by omega
  clear hBd
  go_enter Tryd.func32, Tryd.ntmps32
  go_wp2_with (at_builtin; refine wpList_append_own_at _ rfl (.tmp 15) (.tmp 22) 47 rfl B 50 i0 (.agg #[.int .i64 0, .string ⟨#[]⟩, .int .i64 0, .string ⟨#[]⟩, .string ⟨#[]⟩]) 5 64 Tryd.underlying47 hi hz0 hz1 hz2 rfl (by decide) (.slice none 0 0) 0 [] rfl (World.ownsRow_nil _ _ _ _) ⟨w.heap.size, 0, none⟩ 1 1 (Rw.cells ⟨zero, pre ++ ⟨#[101, 113, 122]⟩, 0, t, ⟨#[127]⟩⟩) rfl rfl (row_new _ _ _) (row_one _) (by unfold maxLen; omega) (by omega) (by simp; omega) ?_)
  intro v1 w1 hown1 hgrow1 _ _
  have hB1 : Below B w w1 := (((Below.refl B w).alloc hBs _)).grown hgrow1 (by simp; omega) (by intro k hk; cases hk)
  have hown1' : w1.ownsRow B 50 5 v1 1 (cellsOf [⟨zero, pre ++ ⟨#[101, 113, 122]⟩, 0, t, ⟨#[127]⟩⟩]) := by rw [cellsOf_one]; exact hown1
  clear hown1
  have hs1 := below_size hB1
  have hbs1 : B ≤ w1.heap.size := Nat.le_trans hBs hs1
  have ho1 : v1.ownBlock ≠ some w1.heap.size := own_lt hown1'
  clear hgrow1
  have hN1 : NamesAt (w1.alloc (.cells (testNames.map Value.string).toArray 9)) w1.heap.size testNames := names_cell w1 testNames _
  have hO1 := hown1'.alloc (.cells (testNames.map Value.string).toArray 9)
  have hX1 := hB1.alloc hbs1 (.cells (testNames.map Value.string).toArray 9)
  have hz1' : w1.heap.size < (w1.alloc (.cells (testNames.map Value.string).toArray 9)).heap.size := by simp
  go_wp2
  go_loopw [9, 11] (fun v i wr => ∃ k : Nat, k ≤ 10 ∧ i = .int .i64 k ∧ wr.ownsRow B 50 5 v (1 + k) (cellsOf (⟨zero, pre ++ ⟨#[101, 113, 122]⟩, 0, t, ⟨#[127]⟩⟩ :: rowsFrom (zero + 1) 0 (t ++ t) ⟨#[127]⟩ ((testNames.map (pre ++ ·)).take k))) ∧ Below B w wr ∧ NamesAt wr w1.heap.size testNames ∧ v.ownBlock ≠ some w1.heap.size ∧ w1.heap.size < wr.heap.size)
    (fun _ i _ => 10 - (intOf i).toNat)
  case atStart => exact ⟨0, by omega, rfl, hO1, hX1, hN1, ho1, hz1'⟩
  case round =>
    obtain ⟨k, hk, rfl, hown, hB, hN, hvb, hws⟩ := hrel
    have hs := Nat.le_trans hBs hB.size
    by_cases hlt : k < 10
    · have hlt' : k < testNames.length := hlt
      have hcx : wr.cell? ⟨w1.heap.size, k, none⟩ = some (.string testNames[k]) := hN k hlt'
      have hsm := names_small.1 testNames[k] (List.getElem_mem hlt')
      obtain ⟨nm, hnm⟩ : ∃ nm, nm = testNames[k] := ⟨_, rfl⟩
      rw [← hnm] at hcx hsm
      have hstep := rowsFrom_step (code := zero + 1) (shape := 0) (p := t ++ t) (r := ⟨#[127]⟩) (ns := testNames.map (pre ++ ·)) (k := k) (by simpa using hlt')
      simp only [List.getElem_map, ← hnm] at hstep
      have HS := Lib.hid hstep
      clear hstep hnm
      go_wp2_with (at_builtin; refine wpList_append_own_at _ rfl (.tmp 31) (.tmp 47) 47 rfl B 50 i0 (.agg #[.int .i64 0, .string ⟨#[]⟩, .int .i64 0, .string ⟨#[]⟩, .string ⟨#[]⟩]) 5 64 Tryd.underlying47 hi hz0 hz1 hz2 rfl (by decide) u9 (1 + k) _ rfl (hown.alloc _) ⟨wr.heap.size, 0, none⟩ 1 1 (Rw.cells ⟨zero + 1 + k, pre ++ nm, 0, t ++ t, ⟨#[127]⟩⟩) rfl rfl (row_new _ _ _) (row_one _) (by unfold maxLen; omega) (by omega) (by simp; omega) ?_)
      intro v' w2 hown' hgrow _ hloc
      have hown2 := hown'
      rw [← cellsOf_one, ← cellsOf_append, List.cons_append, ← HS.out] at hown2
      have hN2 := (hN.alloc hws (.cells (Rw.cells ⟨zero + 1 + k, pre ++ nm, 0, t ++ t, ⟨#[127]⟩⟩).toArray 50)).grown (by simp; omega) hgrow hvb
      have hB2 := (hB.alloc hs _).grown hgrow (by simp; omega) (own_base hown)
      have hv2 : v'.ownBlock ≠ some w1.heap.size := by
        rcases hloc with h | h
        · rw [h]; exact hvb
        · rw [h]; simp; omega
      have hws2 : w1.heap.size < w2.heap.size := Nat.lt_of_lt_of_le (by simp; omega) hgrow.size
      clear hgrow hown hB hcx hown' hN hvb hloc
      go_wp2
      go_roundw
      case rel => exact ⟨k + 1, by omega, by go_num, hown2, hB2, hN2, hv2, hws2⟩
      case measure => simp [intOf]; omega
    · have hk10 : k = 10 := by omega
      rw [hk10, List.take_of_length_le (by simp [testNames_len])] at hown
      clear hk10
      obtain ⟨X, hX⟩ : ∃ X, X = (⟨zero, pre ++ ⟨#[101, 113, 122]⟩, 0, t, ⟨#[127]⟩⟩ :: rowsFrom (zero + 1) 0 (t ++ t) ⟨#[127]⟩ (testNames.map (pre ++ ·)) : List Rw) := ⟨_, rfl⟩
      rw [← hX] at hown
      have HX := Lib.hid hX
      clear hX hN hN1 hO1 hX1 hz1' ho1 hvb hown1' hB1
      have hv2 : u9.ownBlock ≠ some wr.heap.size := own_lt hown
      have hN2 : NamesAt (wr.alloc (.cells (opNames.map Value.string).toArray 9)) wr.heap.size opNames := names_cell wr opNames _
      have hO2 := hown.alloc (.cells (opNames.map Value.string).toArray 9)
      have hX2 := hB.alloc hs (.cells (opNames.map Value.string).toArray 9)
      have hz2' : wr.heap.size < (wr.alloc (.cells (opNames.map Value.string).toArray 9)).heap.size := by simp
      go_wp2
      generalize wr.heap.size = b2 at hv2 hN2 hz2' ⊢
      clear hown hB
      go_loopw [9, 13] (fun v i wq => ∃ k : Nat, k ≤ 18 ∧ i = .int .i64 k ∧ wq.ownsRow B 50 5 v (11 + k) (cellsOf (X ++ opsFrom pre t ops 0 (opNames.take k))) ∧ Below B w wq ∧ NamesAt wq b2 opNames ∧ v.ownBlock ≠ some b2 ∧ b2 < wq.heap.size)
        (fun _ i _ => 18 - (intOf i).toNat)
      case atStart => exact ⟨0, by omega, rfl, by simp only [List.take_zero, opsFrom, List.append_nil]; exact hO2, hX2, hN2, hv2, hz2'⟩
      case round =>
        obtain ⟨k, hk, rfl, hown, hB, hN, hvb, hws⟩ := hrel
        have hs := Nat.le_trans hBs hB.size
        by_cases hlt : k < 18
        · have hlt' : k < opNames.length := hlt
          have hcx : wr.cell? ⟨b2, k, none⟩ = some (.string opNames[k]) := hN k hlt'
          have hsm := names_small.2 opNames[k] (List.getElem_mem hlt')
          obtain ⟨nm, hnm⟩ : ∃ nm, nm = opNames[k] := ⟨_, rfl⟩
          rw [← hnm] at hcx hsm
          have hstep := opsFrom_step (pre := pre) (t := t) (code := ops) (ns := opNames) (k := k) hlt'
          rw [← hnm] at hstep
          clear hnm
          by_cases h3 : k < 3
          · rw [if_pos h3] at hstep
            have HS := Lib.hid hstep
            clear hstep
            go_wp2_with (at_builtin; refine wpList_append_own_at _ rfl (.tmp 62) (.tmp 76) 47 rfl B 50 i0 (.agg #[.int .i64 0, .string ⟨#[]⟩, .int .i64 0, .string ⟨#[]⟩, .string ⟨#[]⟩]) 5 64 Tryd.underlying47 hi hz0 hz1 hz2 rfl (by decide) u9 (11 + k) _ rfl (hown.alloc _) ⟨wr.heap.size, 0, none⟩ 1 1 (Rw.cells ⟨ops + k, pre ++ nm, 0, t, t⟩) rfl rfl (row_new _ _ _) (row_one _) (by unfold maxLen; omega) (by omega) (by simp; omega) ?_)
            intro v' w2 hown' hgrow _ hloc
            have hown2 := hown'
            rw [← cellsOf_one, ← cellsOf_append, List.append_assoc, ← HS.out] at hown2
            have hN2 := (hN.alloc hws (.cells (Rw.cells ⟨ops + k, pre ++ nm, 0, t, t⟩).toArray 50)).grown (by simp; omega) hgrow hvb
            have hB2 := (hB.alloc hs _).grown hgrow (by simp; omega) (own_base hown)
            have hv2 : v'.ownBlock ≠ some b2 := by
              rcases hloc with h | h
              · rw [h]; exact hvb
              · rw [h]; simp; omega
            have hws2 : b2 < w2.heap.size := Nat.lt_of_lt_of_le (by simp; omega) hgrow.size
            clear hgrow hown hB hcx hown' hN hvb hloc
            go_wp2
            go_roundw
            case rel => exact ⟨k + 1, by omega, by go_num, hown2, hB2, hN2, hv2, hws2⟩
            case measure => simp [intOf]; omega
          · rw [if_neg h3] at hstep
            have HS := Lib.hid hstep
            clear hstep
            go_wp2_with (at_builtin; refine wpList_append_own_at _ rfl (.tmp 62) (.tmp 76) 47 rfl B 50 i0 (.agg #[.int .i64 0, .string ⟨#[]⟩, .int .i64 0, .string ⟨#[]⟩, .string ⟨#[]⟩]) 5 64 Tryd.underlying47 hi hz0 hz1 hz2 rfl (by decide) u9 (11 + k) _ rfl (hown.alloc _) ⟨wr.heap.size, 0, none⟩ 1 1 (Rw.cells ⟨ops + k, pre ++ nm, 0, t ++ t, t⟩) rfl rfl (row_new _ _ _) (row_one _) (by unfold maxLen; omega) (by omega) (by simp; omega) ?_)
            intro v' w2 hown' hgrow _ hloc
            have hown2 := hown'
            rw [← cellsOf_one, ← cellsOf_append, List.append_assoc, ← HS.out] at hown2
            have hN2 := (hN.alloc hws (.cells (Rw.cells ⟨ops + k, pre ++ nm, 0, (t ++ t), t⟩).toArray 50)).grown (by simp; omega) hgrow hvb
            have hB2 := (hB.alloc hs _).grown hgrow (by simp; omega) (own_base hown)
            have hv2 : v'.ownBlock ≠ some b2 := by
              rcases hloc with h | h
              · rw [h]; exact hvb
              · rw [h]; simp; omega
            have hws2 : b2 < w2.heap.size := Nat.lt_of_lt_of_le (by simp; omega) hgrow.size
            clear hgrow hown hB hcx hown' hN hvb hloc
            go_wp2
            go_roundw
            case rel => exact ⟨k + 1, by omega, by go_num, hown2, hB2, hN2, hv2, hws2⟩
            case measure => simp [intOf]; omega
        · obtain rfl : k = 18 := by omega
          rw [List.take_of_length_le (by simp [opNames_len])] at hown
          have hfin : (cellsOf (X ++ opsFrom pre t ops 0 opNames)) = cellsOf (numbersOf pre t zero ops) := by rw [HX.out]; rfl
          rw [hfin] at hown
          go_wp2
          go_ret
          exact ⟨_, rfl, hown, hB⟩
end Go.Proofs.YtjpcobfaojjceaaDoor
