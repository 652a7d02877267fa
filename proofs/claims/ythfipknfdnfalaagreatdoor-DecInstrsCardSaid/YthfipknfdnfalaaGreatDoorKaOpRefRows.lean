/-
  The document's own list of instructions, its rows: walked. Contracts that the proofs call; no statement is proved here.
-/
import Derived.Test.YthfipknfdnfalaaGreatDoorKaOpSpec
import Derived.WalkKit
import Derived.WalkSpells
import Derived.WalkLawsBesides
import Derived.Lib.Hide
import Derived.Maps.AppendAt
namespace Go.Proofs.YthfipknfdnfalaaGreatDoor
open Go.RowKit
theorem row_new (w : World) (arr : Array Value) (e : TypeId) : ∀ j u, arr.toList[j]? = some u → (w.alloc (.cells arr e)).cell? ((⟨w.heap.size, 0, none⟩ : Addr).add j) = some u := by
  intro j u h
  have e1 : ((⟨w.heap.size, 0, none⟩ : Addr).add j) = ⟨w.heap.size, j, none⟩ := by
    unfold Addr.add; split
    · rename_i h0; subst h0; rfl
    · simp
  rw [e1, World.cell?_alloc_new w arr e j]
  simpa using h
theorem own_base {w : World} {base : Nat} {e : TypeId} {size : Nat} {v : Value} {n : Nat} {xs : List Value} (h : w.ownsRow base e size v n xs) : ∀ g, v.ownBlock = some g → base ≤ g := by
  intro g hg
  rcases h.2 with ⟨rfl, _⟩ | ⟨g', cap, cur, rfl, hb, _⟩
  · cases hg
  · simp only [Value.ownBlock, Option.some.injEq] at hg
    subst hg; exact hb
theorem row_one (r : Rw) : ∀ u ∈ r.cells, u.oneCell' = true := by
  intro u hu
  simp only [Rw.cells, List.mem_cons, List.not_mem_nil, or_false] at hu
  rcases hu with rfl | rfl | rfl | rfl | rfl <;> rfl
theorem infoRow : (Tryz.prog.info? 251).map (fun i => (i.zero, i.size, i.bytes)) = some (some (.agg #[.int .i64 0, .string ⟨#[]⟩, .int .i64 0, .string ⟨#[]⟩, .string ⟨#[]⟩]), 5, 64) := by kernel_rfl
set_option maxRecDepth 100000 in
set_option maxHeartbeats 2000000 in
theorem ref_rows (code shape : Int) (p r : ByteArray) (ns : List ByteArray) (bk cap : Nat) (hc0 : 0 ≤ code) (hc1 : code ≤ 1000) (hn : ns.length ≤ 100) (w : World) (hbk : bk < w.heap.size)
    (hcell : ∀ j (hj : j < ns.length), w.cell? ⟨bk, j, none⟩ = some (.string ns[j])) :
    Calls Tryz.prog 279 #[.int .i64 code, .int .i64 shape, .string p, .string r, .slice (some ⟨bk, 0, none⟩) ns.length cap] w fun e w' =>
      ∃ v, e = .returned v ∧ w'.ownsRow w.heap.size 251 5 v ns.length (cellsOf (rowsFrom code shape p r ns)) ∧ Below w.heap.size w w' := by
  obtain ⟨i0, hi, hz0, hz1, hz2⟩ := info_parts infoRow
  obtain ⟨L, hL⟩ : ∃ L, L = ns.length := ⟨_, rfl⟩
  rw [← hL] at hn ⊢
  have HL := Lib.hid hL
  clear hL
  go_enter Tryz.func279, Tryz.ntmps279
  go_wp2
  go_loopw [11, 12] (fun v i wr => ∃ k : Nat, k ≤ L ∧ i = .int .i64 k ∧ wr.ownsRow w.heap.size 251 5 v k (cellsOf (rowsFrom code shape p r (ns.take k))) ∧ Below w.heap.size w wr)
    (fun _ i _ => L - (intOf i).toNat)
  case atStart => exact ⟨0, by omega, rfl, World.ownsRow_nil _ _ _ _, Below.refl _ _⟩
  case round =>
    obtain ⟨k, hk, rfl, hown, hB⟩ := hrel
    by_cases hlt : k < L
    · have hlt' : k < ns.length := by have := HL.out; omega
      have hcx : wr.cell? ⟨bk, k, none⟩ = some (.string ns[k]) := (hB.cell hbk).trans (hcell k hlt')
      obtain ⟨nm, hnm⟩ : ∃ nm, nm = ns[k] := ⟨_, rfl⟩
      rw [← hnm] at hcx
      have HN : Hid (nm = ns[k]) := Lib.hid hnm
      clear hnm
      have hs := hB.size
      have hstep := rowsFrom_step (code := code) (shape := shape) (p := p) (r := r) hlt'
      rw [← HN.out] at hstep
      have HS := Lib.hid hstep
      clear hstep
      go_wp2_with (at_builtin; refine wpList_append_own_at _ rfl (.tmp 19) (.tmp 32) 248 rfl w.heap.size 251 i0 (.agg #[.int .i64 0, .string ⟨#[]⟩, .int .i64 0, .string ⟨#[]⟩, .string ⟨#[]⟩]) 5 64 Tryz.underlying248 hi hz0 hz1 hz2 rfl (by decide) u11 k _ rfl (hown.alloc _) ⟨wr.heap.size, 0, none⟩ 1 1 (Rw.cells ⟨code + k, nm, shape, p, r⟩) rfl rfl (row_new _ _ _) (row_one _) (by unfold maxLen; omega) (by omega) (by simp; omega) ?_)
      intro v' w1 hown' hgrow _ _
      have hB2 := (hB.alloc hs _).grown hgrow (by simp; omega) (own_base hown)
      rw [← cellsOf_one, ← cellsOf_append, ← HS.out] at hown'
      clear hgrow hown hB hcx
      go_wp2
      go_roundw
      case rel => exact ⟨k + 1, by omega, by go_num, hown', hB2⟩
      case measure => simp [intOf]; omega
    · obtain rfl : k = L := by omega
      rw [HL.out, List.take_length] at hown
      go_wp2
      go_ret
      exact ⟨_, rfl, by rw [HL.out]; exact hown, hB⟩
theorem own_slice {w : World} {base : Nat} {e : TypeId} {size : Nat} {v : Value} {n : Nat} {xs : List Value} (h : w.ownsRow base e size v n xs) (hn : n ≠ 0) :
    ∃ g cap, v = .slice (some ⟨g, 0, none⟩) n cap ∧ base ≤ g ∧ ∀ j u, xs[j]? = some u → w.cell? ((⟨g, 0, none⟩ : Addr).add j) = some u := by
  rcases h.2 with ⟨_, h0⟩ | ⟨g, cap, cur, rfl, hb, hg, hnc, hcm, hcs, ht⟩
  · exact absurd h0 hn
  · refine ⟨g, cap, rfl, hb, fun j u hu => ?_⟩
    rw [← ht] at hu
    have hu2 : cur[j]? = some u := by
      rw [List.getElem?_take] at hu
      split at hu
      · simpa using hu
      · cases hu
    have e1 : ((⟨g, 0, none⟩ : Addr).add j) = ⟨g, j, none⟩ := by
      unfold Addr.add; split
      · rename_i h0; subst h0; rfl
      · simp
    rw [e1]
    simp [World.cell?, hg, hu2]
theorem names_cell (w : World) (ns : List ByteArray) (e : TypeId) : ∀ j (hj : j < ns.length), (w.alloc (.cells (ns.map Value.string).toArray e)).cell? ⟨w.heap.size, j, none⟩ = some (.string ns[j]) := by
  intro j hj
  rw [World.cell?_alloc_new]
  simp [hj]
theorem ref_rows_at (code shape : Int) (p r : ByteArray) (ns : List ByteArray) (bk m cap : Nat) (hm : ns.length = m) (hc0 : 0 ≤ code) (hc1 : code ≤ 1000) (hn : ns.length ≤ 100) (hne : ns.length ≠ 0) (w : World) (hbk : bk < w.heap.size)
    (hcell : ∀ j (hj : j < ns.length), w.cell? ⟨bk, j, none⟩ = some (.string ns[j])) :
    Calls Tryz.prog 279 #[.int .i64 code, .int .i64 shape, .string p, .string r, .slice (some ⟨bk, 0, none⟩) m cap] w fun e w' =>
      ∃ g c, e = .returned (.slice (some ⟨g, 0, none⟩) m c) ∧ (∀ j u, (cellsOf (rowsFrom code shape p r ns))[j]? = some u → w'.cell? ((⟨g, 0, none⟩ : Addr).add j) = some u) ∧ Below w.heap.size w w' := by
  subst hm
  refine (ref_rows code shape p r ns bk cap hc0 hc1 hn w hbk hcell).mono ?_
  rintro e w' ⟨v, rfl, hown, hb⟩
  obtain ⟨g, c, rfl, _, hc⟩ := own_slice hown hne
  exact ⟨g, c, rfl, hc, hb⟩
end Go.Proofs.YthfipknfdnfalaaGreatDoor
namespace Go.Proofs.YthfipknfdnfalaaGreatDoor
open Go.RowKit
theorem below_size {w w' : World} {B : Nat} (h : Below B w w') : w.heap.size ≤ w'.heap.size := h.size
def NamesAt (w : World) (bk : Nat) (ns : List ByteArray) : Prop := ∀ j (hj : j < ns.length), w.cell? ⟨bk, j, none⟩ = some (.string ns[j])
theorem NamesAt.alloc {w : World} {bk : Nat} {ns : List ByteArray} (h : NamesAt w bk ns) (hb : bk < w.heap.size) (o : Obj) : NamesAt (w.alloc o) bk ns := fun j hj => by
  rw [World.cell?_alloc_lt w o _ hb]; exact h j hj
theorem NamesAt.grown {w w' : World} {bk : Nat} {ns : List ByteArray} {row : Option Nat} (h : NamesAt w bk ns) (hb : bk < w.heap.size) (hg : w.grownBy w' row) (hn : row ≠ some bk) : NamesAt w' bk ns := fun j hj => by
  rw [World.cell?_of_block (w := w) (hg.block bk hb (fun e => hn e.symm))]; exact h j hj
theorem own_lt {w : World} {base : Nat} {e : TypeId} {size : Nat} {v : Value} {n : Nat} {xs : List Value} (h : w.ownsRow base e size v n xs) : v.ownBlock ≠ some w.heap.size := by
  intro hv
  rcases h.2 with ⟨rfl, _⟩ | ⟨g, cap, cur, rfl, _, hg, _⟩
  · cases hv
  · simp only [Value.ownBlock, Option.some.injEq] at hv
    subst hv
    simp at hg
theorem names_small : (∀ n ∈ testNames, n.size ≤ 10) ∧ (∀ n ∈ opNames, n.size ≤ 10) := by decide +kernel
theorem testNames_len : testNames.length = 10 := rfl
theorem opNames_len : opNames.length = 18 := rfl
set_option maxRecDepth 100000 in
set_option maxHeartbeats 4000000 in
theorem ref_numbers (pre t : ByteArray) (zero ops : Int) (hp : pre.size ≤ 10) (ht : t.size ≤ 10) (hz : 0 ≤ zero) (hz' : zero ≤ 1000) (ho : 0 ≤ ops) (ho' : ops ≤ 1000) (w : World) :
    Calls Tryz.prog 280 #[.string pre, .string t, .int .i64 zero, .int .i64 ops] w fun e w' =>
      ∃ v, e = .returned v ∧ w'.ownsRow w.heap.size 251 5 v 29 (cellsOf (numbersOf pre t zero ops)) ∧ Below w.heap.size w w' := by
  obtain ⟨i0, hi, hz0, hz1, hz2⟩ := info_parts infoRow
  obtain ⟨B, hBd⟩ : ∃ B, B = w.heap.size := ⟨_, rfl⟩
  rw [← hBd]
  have HBd := Lib.hid hBd
  have hBs : B ≤ w.heap.size := by omega
  clear hBd
  go_enter Tryz.func280, Tryz.ntmps280
  go_wp2_with (at_builtin; refine wpList_append_own_at _ rfl (.tmp 15) (.tmp 22) 248 rfl B 251 i0 (.agg #[.int .i64 0, .string ⟨#[]⟩, .int .i64 0, .string ⟨#[]⟩, .string ⟨#[]⟩]) 5 64 Tryz.underlying248 hi hz0 hz1 hz2 rfl (by decide) (.slice none 0 0) 0 [] rfl (World.ownsRow_nil _ _ _ _) ⟨w.heap.size, 0, none⟩ 1 1 (Rw.cells ⟨zero, pre ++ ⟨#[101, 113, 122]⟩, 0, t, ⟨#[127]⟩⟩) rfl rfl (row_new _ _ _) (row_one _) (by unfold maxLen; omega) (by omega) (by simp; omega) ?_)
  intro v1 w1 hown1 hgrow1 _ _
  have hB1 : Below B w w1 := (((Below.refl B w).alloc hBs _)).grown hgrow1 (by simp; omega) (by intro k hk; cases hk)
  have hown1' : w1.ownsRow B 251 5 v1 1 (cellsOf [⟨zero, pre ++ ⟨#[101, 113, 122]⟩, 0, t, ⟨#[127]⟩⟩]) := by rw [cellsOf_one]; exact hown1
  clear hown1
  have hs1 := below_size hB1
  have hbs1 : B ≤ w1.heap.size := Nat.le_trans hBs hs1
  have ho1 : v1.ownBlock ≠ some w1.heap.size := own_lt hown1'
  clear hgrow1
  have hN1 : NamesAt (w1.alloc (.cells (testNames.map Value.string).toArray 9)) w1.heap.size testNames := names_cell w1 testNames _
  have hO1 := hown1'.alloc (.cells (testNames.map Value.string).toArray 9)
  have hX1 := hB1.alloc hbs1 (.cells (testNames.map Value.string).toArray 9)
  have hz1' : w1.heap.size < (w1.alloc (.cells (testNames.map Value.string).toArray 9)).heap.size := by simp
  go_wp2
  go_loopw [9, 11] (fun v i wr => ∃ k : Nat, k ≤ 10 ∧ i = .int .i64 k ∧ wr.ownsRow B 251 5 v (1 + k) (cellsOf (⟨zero, pre ++ ⟨#[101, 113, 122]⟩, 0, t, ⟨#[127]⟩⟩ :: rowsFrom (zero + 1) 0 (t ++ t) ⟨#[127]⟩ ((testNames.map (pre ++ ·)).take k))) ∧ Below B w wr ∧ NamesAt wr w1.heap.size testNames ∧ v.ownBlock ≠ some w1.heap.size ∧ w1.heap.size < wr.heap.size)
    (fun _ i _ => 10 - (intOf i).toNat)
  case atStart => exact ⟨0, by omega, rfl, hO1, hX1, hN1, ho1, hz1'⟩
  case round =>
    obtain ⟨k, hk, rfl, hown, hB, hN, hvb, hws⟩ := hrel
    have hs := Nat.le_trans hBs hB.size
    by_cases hlt : k < 10
    · have hlt' : k < testNames.length := hlt
      have hcx : wr.cell? ⟨w1.heap.size, k, none⟩ = some (.string testNames[k]) := hN k hlt'
      have hsm := names_small.1 testNames[k] (List.getElem_mem hlt')
      obtain ⟨nm, hnm⟩ : ∃ nm, nm = testNames[k] := ⟨_, rfl⟩
      rw [← hnm] at hcx hsm
      have hstep := rowsFrom_step (code := zero + 1) (shape := 0) (p := t ++ t) (r := ⟨#[127]⟩) (ns := testNames.map (pre ++ ·)) (k := k) (by simpa using hlt')
      simp only [List.getElem_map, ← hnm] at hstep
      have HS := Lib.hid hstep
      clear hstep hnm
      go_wp2_with (at_builtin; refine wpList_append_own_at _ rfl (.tmp 31) (.tmp 47) 248 rfl B 251 i0 (.agg #[.int .i64 0, .string ⟨#[]⟩, .int .i64 0, .string ⟨#[]⟩, .string ⟨#[]⟩]) 5 64 Tryz.underlying248 hi hz0 hz1 hz2 rfl (by decide) u9 (1 + k) _ rfl (hown.alloc _) ⟨wr.heap.size, 0, none⟩ 1 1 (Rw.cells ⟨zero + 1 + k, pre ++ nm, 0, t ++ t, ⟨#[127]⟩⟩) rfl rfl (row_new _ _ _) (row_one _) (by unfold maxLen; omega) (by omega) (by simp; omega) ?_)
      intro v' w2 hown' hgrow _ hloc
      have hown2 := hown'
      rw [← cellsOf_one, ← cellsOf_append, List.cons_append, ← HS.out] at hown2
      have hN2 := (hN.alloc hws (.cells (Rw.cells ⟨zero + 1 + k, pre ++ nm, 0, t ++ t, ⟨#[127]⟩⟩).toArray 251)).grown (by simp; omega) hgrow hvb
      have hB2 := (hB.alloc hs _).grown hgrow (by simp; omega) (own_base hown)
      have hv2 : v'.ownBlock ≠ some w1.heap.size := by
        rcases hloc with h | h
        · rw [h]; exact hvb
        · rw [h]; simp; omega
      have hws2 : w1.heap.size < w2.heap.size := Nat.lt_of_lt_of_le (by simp; omega) hgrow.size
      clear hgrow hown hB hcx hown' hN hvb hloc
      go_wp2
      go_roundw
      case rel => exact ⟨k + 1, by omega, by go_num, hown2, hB2, hN2, hv2, hws2⟩
      case measure => simp [intOf]; omega
    · have hk10 : k = 10 := by omega
      rw [hk10, List.take_of_length_le (by simp [testNames_len])] at hown
      clear hk10
      obtain ⟨X, hX⟩ : ∃ X, X = (⟨zero, pre ++ ⟨#[101, 113, 122]⟩, 0, t, ⟨#[127]⟩⟩ :: rowsFrom (zero + 1) 0 (t ++ t) ⟨#[127]⟩ (testNames.map (pre ++ ·)) : List Rw) := ⟨_, rfl⟩
      rw [← hX] at hown
      have HX := Lib.hid hX
      clear hX hN hN1 hO1 hX1 hz1' ho1 hvb hown1' hB1
      have hv2 : u9.ownBlock ≠ some wr.heap.size := own_lt hown
      have hN2 : NamesAt (wr.alloc (.cells (opNames.map Value.string).toArray 9)) wr.heap.size opNames := names_cell wr opNames _
      have hO2 := hown.alloc (.cells (opNames.map Value.string).toArray 9)
      have hX2 := hB.alloc hs (.cells (opNames.map Value.string).toArray 9)
      have hz2' : wr.heap.size < (wr.alloc (.cells (opNames.map Value.string).toArray 9)).heap.size := by simp
      go_wp2
      generalize wr.heap.size = b2 at hv2 hN2 hz2' ⊢
      clear hown hB
      go_loopw [9, 13] (fun v i wq => ∃ k : Nat, k ≤ 18 ∧ i = .int .i64 k ∧ wq.ownsRow B 251 5 v (11 + k) (cellsOf (X ++ opsFrom pre t ops 0 (opNames.take k))) ∧ Below B w wq ∧ NamesAt wq b2 opNames ∧ v.ownBlock ≠ some b2 ∧ b2 < wq.heap.size)
        (fun _ i _ => 18 - (intOf i).toNat)
      case atStart => exact ⟨0, by omega, rfl, by simp only [List.take_zero, opsFrom, List.append_nil]; exact hO2, hX2, hN2, hv2, hz2'⟩
      case round =>
        obtain ⟨k, hk, rfl, hown, hB, hN, hvb, hws⟩ := hrel
        have hs := Nat.le_trans hBs hB.size
        by_cases hlt : k < 18
        · have hlt' : k < opNames.length := hlt
          have hcx : wr.cell? ⟨b2, k, none⟩ = some (.string opNames[k]) := hN k hlt'
          have hsm := names_small.2 opNames[k] (List.getElem_mem hlt')
          obtain ⟨nm, hnm⟩ : ∃ nm, nm = opNames[k] := ⟨_, rfl⟩
          rw [← hnm] at hcx hsm
          have hstep := opsFrom_step (pre := pre) (t := t) (code := ops) (ns := opNames) (k := k) hlt'
          rw [← hnm] at hstep
          clear hnm
          by_cases h3 : k < 3
          · rw [if_pos h3] at hstep
            have HS := Lib.hid hstep
            clear hstep
            go_wp2_with (at_builtin; refine wpList_append_own_at _ rfl (.tmp 62) (.tmp 76) 248 rfl B 251 i0 (.agg #[.int .i64 0, .string ⟨#[]⟩, .int .i64 0, .string ⟨#[]⟩, .string ⟨#[]⟩]) 5 64 Tryz.underlying248 hi hz0 hz1 hz2 rfl (by decide) u9 (11 + k) _ rfl (hown.alloc _) ⟨wr.heap.size, 0, none⟩ 1 1 (Rw.cells ⟨ops + k, pre ++ nm, 0, t, t⟩) rfl rfl (row_new _ _ _) (row_one _) (by unfold maxLen; omega) (by omega) (by simp; omega) ?_)
            intro v' w2 hown' hgrow _ hloc
            have hown2 := hown'
            rw [← cellsOf_one, ← cellsOf_append, List.append_assoc, ← HS.out] at hown2
            have hN2 := (hN.alloc hws (.cells (Rw.cells ⟨ops + k, pre ++ nm, 0, t, t⟩).toArray 251)).grown (by simp; omega) hgrow hvb
            have hB2 := (hB.alloc hs _).grown hgrow (by simp; omega) (own_base hown)
            have hv2 : v'.ownBlock ≠ some b2 := by
              rcases hloc with h | h
              · rw [h]; exact hvb
              · rw [h]; simp; omega
            have hws2 : b2 < w2.heap.size := Nat.lt_of_lt_of_le (by simp; omega) hgrow.size
            clear hgrow hown hB hcx hown' hN hvb hloc
            go_wp2
            go_roundw
            case rel => exact ⟨k + 1, by omega, by go_num, hown2, hB2, hN2, hv2, hws2⟩
            case measure => simp [intOf]; omega
          · rw [if_neg h3] at hstep
            have HS := Lib.hid hstep
            clear hstep
            go_wp2_with (at_builtin; refine wpList_append_own_at _ rfl (.tmp 62) (.tmp 76) 248 rfl B 251 i0 (.agg #[.int .i64 0, .string ⟨#[]⟩, .int .i64 0, .string ⟨#[]⟩, .string ⟨#[]⟩]) 5 64 Tryz.underlying248 hi hz0 hz1 hz2 rfl (by decide) u9 (11 + k) _ rfl (hown.alloc _) ⟨wr.heap.size, 0, none⟩ 1 1 (Rw.cells ⟨ops + k, pre ++ nm, 0, t ++ t, t⟩) rfl rfl (row_new _ _ _) (row_one _) (by unfold maxLen; omega) (by omega) (by simp; omega) ?_)
            intro v' w2 hown' hgrow _ hloc
            have hown2 := hown'
            rw [← cellsOf_one, ← cellsOf_append, List.append_assoc, ← HS.out] at hown2
            have hN2 := (hN.alloc hws (.cells (Rw.cells ⟨ops + k, pre ++ nm, 0, (t ++ t), t⟩).toArray 251)).grown (by simp; omega) hgrow hvb
            have hB2 := (hB.alloc hs _).grown hgrow (by simp; omega) (own_base hown)
            have hv2 : v'.ownBlock ≠ some b2 := by
              rcases hloc with h | h
              · rw [h]; exact hvb
              · rw [h]; simp; omega
            have hws2 : b2 < w2.heap.size := Nat.lt_of_lt_of_le (by simp; omega) hgrow.size
            clear hgrow hown hB hcx hown' hN hvb hloc
            go_wp2
            go_roundw
            case rel => exact ⟨k + 1, by omega, by go_num, hown2, hB2, hN2, hv2, hws2⟩
            case measure => simp [intOf]; omega
        · obtain rfl : k = 18 := by omega
          rw [List.take_of_length_le (by simp [opNames_len])] at hown
          have hfin : (cellsOf (X ++ opsFrom pre t ops 0 opNames)) = cellsOf (numbersOf pre t zero ops) := by rw [HX.out]; rfl
          rw [hfin] at hown
          go_wp2
          go_ret
          exact ⟨_, rfl, hown, hB⟩
end Go.Proofs.YthfipknfdnfalaaGreatDoor
namespace Go.Proofs.YthfipknfdnfalaaGreatDoor
open Go.RowKit
theorem own_below {w w' : World} {base : Nat} {e : TypeId} {size : Nat} {v : Value} {n : Nat} {xs : List Value} (h : w.ownsRow base e size v n xs) (hb : Below w.heap.size w w') : w'.ownsRow base e size v n xs := by
  obtain ⟨hl, h | ⟨g, cap, cur, hv, hbg, hg, hnc, hcm, hcs, ht⟩⟩ := h
  · exact ⟨hl, .inl h⟩
  · refine ⟨hl, .inr ⟨g, cap, cur, hv, hbg, ?_, hnc, hcm, hcs, ht⟩⟩
    have hlt : g < w.heap.size := by
      refine Nat.lt_of_not_le fun hge => ?_
      have : w.heap[g]? = none := by simp; omega
      rw [this] at hg; cases hg
    rw [hb.block g hlt]; exact hg
theorem cells_one (l : List Rw) : ∀ u ∈ cellsOf l, u.oneCell' = true := by
  intro u hu
  obtain ⟨r, _, hr⟩ := List.mem_flatMap.1 hu
  exact row_one r u hr
theorem seg_below {w wX w' w2 : World} {B : Nat} {o : Obj} {e : TypeId} {v : Value} {n : Nat} {xs : List Value} (hBs : B ≤ wX.heap.size) (hB : Below B w wX) (hb : Below (wX.alloc o).heap.size (wX.alloc o) w') (hown : wX.ownsRow B e 5 v n xs) (hg : w'.grownBy w2 v.ownBlock) : Below B w w2 ∧ B ≤ w2.heap.size := by
  have h1 := hB.alloc hBs o
  have hz : B ≤ (wX.alloc o).heap.size := Nat.le_trans hBs (by simp)
  have h2 := h1.trans (hb.mono hz)
  have hz2 := Nat.le_trans hz hb.size
  exact ⟨h2.grown hg hz2 (own_base hown), Nat.le_trans hz2 hg.size⟩
theorem seg_below0 {w wX w' w2 : World} {B : Nat} {e : TypeId} {v : Value} {n : Nat} {xs : List Value} (hBs : B ≤ wX.heap.size) (hB : Below B w wX) (hb : Below wX.heap.size wX w') (hown : wX.ownsRow B e 5 v n xs) (hg : w'.grownBy w2 v.ownBlock) : Below B w w2 ∧ B ≤ w2.heap.size := by
  have h2 := hB.trans (hb.mono hBs)
  have hz2 := Nat.le_trans hBs hb.size
  exact ⟨h2.grown hg hz2 (own_base hown), Nat.le_trans hz2 hg.size⟩
theorem ref_numbers_at (pre t : ByteArray) (zero ops : Int) (hp : pre.size ≤ 10) (ht : t.size ≤ 10) (hz : 0 ≤ zero) (hz' : zero ≤ 1000) (ho : 0 ≤ ops) (ho' : ops ≤ 1000) (w : World) :
    Calls Tryz.prog 280 #[.string pre, .string t, .int .i64 zero, .int .i64 ops] w fun e w' =>
      ∃ g c, e = .returned (.slice (some ⟨g, 0, none⟩) 29 c) ∧ (∀ j u, (cellsOf (numbersOf pre t zero ops))[j]? = some u → w'.cell? ((⟨g, 0, none⟩ : Addr).add j) = some u) ∧ Below w.heap.size w w' := by
  refine (ref_numbers pre t zero ops hp ht hz hz' ho ho' w).mono ?_
  rintro e w' ⟨v, rfl, hown, hb⟩
  obtain ⟨g, c, rfl, _, hc⟩ := own_slice hown (by decide)
  exact ⟨g, c, rfl, hc, hb⟩
set_option maxRecDepth 100000 in
set_option maxHeartbeats 8000000 in
theorem ref_all (w : World) :
    Calls Tryz.prog 204 #[] w fun e w' => ∃ v, e = .returned v ∧ w'.ownsRow w.heap.size 251 5 v 103 (cellsOf allRows) ∧ Below w.heap.size w w' := by
  obtain ⟨i0, hi, hz0, hz1, hz2⟩ := info_parts infoRow
  obtain ⟨B, hBd⟩ : ∃ B, B = w.heap.size := ⟨_, rfl⟩
  have HBd := Lib.hid hBd
  have hs0 : B ≤ w.heap.size := by omega
  rw [← hBd]
  clear hBd
  have hB0 : Below B w w := Below.refl _ _
  have hown0 : w.ownsRow B 251 5 (.slice none 0 0) 0 (cellsOf []) := World.ownsRow_nil _ _ _ _
  go_enter Tryz.func204, Tryz.ntmps204
  go_wp2_with (go_at_call 279; refine (ref_rows_at 0 0 ⟨#[]⟩ ⟨#[]⟩ [⟨#[117, 110, 114, 101, 97, 99, 104, 97, 98, 108, 101]⟩, ⟨#[110, 111, 112]⟩] w.heap.size 2 2 rfl (by decide) (by decide) (by decide) (by decide) _ (by simp) (names_cell w [⟨#[117, 110, 114, 101, 97, 99, 104, 97, 98, 108, 101]⟩, ⟨#[110, 111, 112]⟩] _)).mono ?_)
  rintro e y0 ⟨g0, c0, rfl, hc0, hb0⟩
  have ho0 := own_below (hown0.alloc _) hb0
  have hd0 : ∀ j u, (cellsOf part0)[j]? = some u → y0.cell? ((⟨g0, 0, none⟩ : Addr).add j) = some u := hc0
  go_wp2_with (at_builtin; refine wpList_append_own_at _ rfl (.tmp 2) (.tmp 4) 248 rfl B 251 i0 (.agg #[.int .i64 0, .string ⟨#[]⟩, .int .i64 0, .string ⟨#[]⟩, .string ⟨#[]⟩]) 5 64 Tryz.underlying248 hi hz0 hz1 hz2 rfl (by decide) (.slice none 0 0) 0 _ rfl ho0 ⟨g0, 0, none⟩ 2 c0 (cellsOf part0) rfl (by rw [cellsOf_len]; rfl) hd0 (cells_one _) (by unfold maxLen; omega) (by omega) (Nat.le_trans (Nat.le_trans hs0 (by simp)) hb0.size) ?_)
  intro v0 x0 hn0 hg0 _ _
  obtain ⟨hB1, hs1⟩ := seg_below hs0 hB0 hb0 hown0 hg0
  rw [← cellsOf_append] at hn0
  have hown1 := hn0
  clear hn0 hg0 ho0 hc0 hd0 hb0 hown0 hB0 hs0
  go_wp2_with (go_at_call 279; refine (ref_rows_at 2 1 ⟨#[]⟩ ⟨#[]⟩ [⟨#[98, 108, 111, 99, 107]⟩, ⟨#[108, 111, 111, 112]⟩, ⟨#[105, 102]⟩] x0.heap.size 3 3 rfl (by decide) (by decide) (by decide) (by decide) _ (by simp) (names_cell x0 [⟨#[98, 108, 111, 99, 107]⟩, ⟨#[108, 111, 111, 112]⟩, ⟨#[105, 102]⟩] _)).mono ?_)
  rintro e y1 ⟨g1, c1, rfl, hc1, hb1⟩
  have ho1 := own_below (hown1.alloc _) hb1
  have hd1 : ∀ j u, (cellsOf part1)[j]? = some u → y1.cell? ((⟨g1, 0, none⟩ : Addr).add j) = some u := hc1
  go_wp2_with (at_builtin; refine wpList_append_own_at _ rfl (.tmp 6) (.tmp 8) 248 rfl B 251 i0 (.agg #[.int .i64 0, .string ⟨#[]⟩, .int .i64 0, .string ⟨#[]⟩, .string ⟨#[]⟩]) 5 64 Tryz.underlying248 hi hz0 hz1 hz2 rfl (by decide) v0 2 _ rfl ho1 ⟨g1, 0, none⟩ 3 c1 (cellsOf part1) rfl (by rw [cellsOf_len]; rfl) hd1 (cells_one _) (by unfold maxLen; omega) (by omega) (Nat.le_trans (Nat.le_trans hs1 (by simp)) hb1.size) ?_)
  intro v1 x1 hn1 hg1 _ _
  obtain ⟨hB2, hs2⟩ := seg_below hs1 hB1 hb1 hown1 hg1
  rw [← cellsOf_append] at hn1
  have hown2 := hn1
  clear hn1 hg1 ho1 hc1 hd1 hb1 hown1 hB1 hs1
  go_wp2_with (go_at_call 279; refine (ref_rows_at 5 0 ⟨#[]⟩ ⟨#[]⟩ [⟨#[101, 108, 115, 101]⟩] x1.heap.size 1 1 rfl (by decide) (by decide) (by decide) (by decide) _ (by simp) (names_cell x1 [⟨#[101, 108, 115, 101]⟩] _)).mono ?_)
  rintro e y2 ⟨g2, c2, rfl, hc2, hb2⟩
  have ho2 := own_below (hown2.alloc _) hb2
  have hd2 : ∀ j u, (cellsOf part2)[j]? = some u → y2.cell? ((⟨g2, 0, none⟩ : Addr).add j) = some u := hc2
  go_wp2_with (at_builtin; refine wpList_append_own_at _ rfl (.tmp 10) (.tmp 12) 248 rfl B 251 i0 (.agg #[.int .i64 0, .string ⟨#[]⟩, .int .i64 0, .string ⟨#[]⟩, .string ⟨#[]⟩]) 5 64 Tryz.underlying248 hi hz0 hz1 hz2 rfl (by decide) v1 5 _ rfl ho2 ⟨g2, 0, none⟩ 1 c2 (cellsOf part2) rfl (by rw [cellsOf_len]; rfl) hd2 (cells_one _) (by unfold maxLen; omega) (by omega) (Nat.le_trans (Nat.le_trans hs2 (by simp)) hb2.size) ?_)
  intro v2 x2 hn2 hg2 _ _
  obtain ⟨hB3, hs3⟩ := seg_below hs2 hB2 hb2 hown2 hg2
  rw [← cellsOf_append] at hn2
  have hown3 := hn2
  clear hn2 hg2 ho2 hc2 hd2 hb2 hown2 hB2 hs2
  go_wp2_with (go_at_call 279; refine (ref_rows_at 11 0 ⟨#[]⟩ ⟨#[]⟩ [⟨#[101, 110, 100]⟩] x2.heap.size 1 1 rfl (by decide) (by decide) (by decide) (by decide) _ (by simp) (names_cell x2 [⟨#[101, 110, 100]⟩] _)).mono ?_)
  rintro e y3 ⟨g3, c3, rfl, hc3, hb3⟩
  have ho3 := own_below (hown3.alloc _) hb3
  have hd3 : ∀ j u, (cellsOf part3)[j]? = some u → y3.cell? ((⟨g3, 0, none⟩ : Addr).add j) = some u := hc3
  go_wp2_with (at_builtin; refine wpList_append_own_at _ rfl (.tmp 14) (.tmp 16) 248 rfl B 251 i0 (.agg #[.int .i64 0, .string ⟨#[]⟩, .int .i64 0, .string ⟨#[]⟩, .string ⟨#[]⟩]) 5 64 Tryz.underlying248 hi hz0 hz1 hz2 rfl (by decide) v2 6 _ rfl ho3 ⟨g3, 0, none⟩ 1 c3 (cellsOf part3) rfl (by rw [cellsOf_len]; rfl) hd3 (cells_one _) (by unfold maxLen; omega) (by omega) (Nat.le_trans (Nat.le_trans hs3 (by simp)) hb3.size) ?_)
  intro v3 x3 hn3 hg3 _ _
  obtain ⟨hB4, hs4⟩ := seg_below hs3 hB3 hb3 hown3 hg3
  rw [← cellsOf_append] at hn3
  have hown4 := hn3
  clear hn3 hg3 ho3 hc3 hd3 hb3 hown3 hB3 hs3
  go_wp2_with (go_at_call 279; refine (ref_rows_at 12 2 ⟨#[]⟩ ⟨#[]⟩ [⟨#[98, 114]⟩, ⟨#[98, 114, 95, 105, 102]⟩] x3.heap.size 2 2 rfl (by decide) (by decide) (by decide) (by decide) _ (by simp) (names_cell x3 [⟨#[98, 114]⟩, ⟨#[98, 114, 95, 105, 102]⟩] _)).mono ?_)
  rintro e y4 ⟨g4, c4, rfl, hc4, hb4⟩
  have ho4 := own_below (hown4.alloc _) hb4
  have hd4 : ∀ j u, (cellsOf part4)[j]? = some u → y4.cell? ((⟨g4, 0, none⟩ : Addr).add j) = some u := hc4
  go_wp2_with (at_builtin; refine wpList_append_own_at _ rfl (.tmp 18) (.tmp 20) 248 rfl B 251 i0 (.agg #[.int .i64 0, .string ⟨#[]⟩, .int .i64 0, .string ⟨#[]⟩, .string ⟨#[]⟩]) 5 64 Tryz.underlying248 hi hz0 hz1 hz2 rfl (by decide) v3 7 _ rfl ho4 ⟨g4, 0, none⟩ 2 c4 (cellsOf part4) rfl (by rw [cellsOf_len]; rfl) hd4 (cells_one _) (by unfold maxLen; omega) (by omega) (Nat.le_trans (Nat.le_trans hs4 (by simp)) hb4.size) ?_)
  intro v4 x4 hn4 hg4 _ _
  obtain ⟨hB5, hs5⟩ := seg_below hs4 hB4 hb4 hown4 hg4
  rw [← cellsOf_append] at hn4
  have hown5 := hn4
  clear hn4 hg4 ho4 hc4 hd4 hb4 hown4 hB4 hs4
  go_wp2_with (go_at_call 279; refine (ref_rows_at 14 3 ⟨#[]⟩ ⟨#[]⟩ [⟨#[98, 114, 95, 116, 97, 98, 108, 101]⟩] x4.heap.size 1 1 rfl (by decide) (by decide) (by decide) (by decide) _ (by simp) (names_cell x4 [⟨#[98, 114, 95, 116, 97, 98, 108, 101]⟩] _)).mono ?_)
  rintro e y5 ⟨g5, c5, rfl, hc5, hb5⟩
  have ho5 := own_below (hown5.alloc _) hb5
  have hd5 : ∀ j u, (cellsOf part5)[j]? = some u → y5.cell? ((⟨g5, 0, none⟩ : Addr).add j) = some u := hc5
  go_wp2_with (at_builtin; refine wpList_append_own_at _ rfl (.tmp 22) (.tmp 24) 248 rfl B 251 i0 (.agg #[.int .i64 0, .string ⟨#[]⟩, .int .i64 0, .string ⟨#[]⟩, .string ⟨#[]⟩]) 5 64 Tryz.underlying248 hi hz0 hz1 hz2 rfl (by decide) v4 9 _ rfl ho5 ⟨g5, 0, none⟩ 1 c5 (cellsOf part5) rfl (by rw [cellsOf_len]; rfl) hd5 (cells_one _) (by unfold maxLen; omega) (by omega) (Nat.le_trans (Nat.le_trans hs5 (by simp)) hb5.size) ?_)
  intro v5 x5 hn5 hg5 _ _
  obtain ⟨hB6, hs6⟩ := seg_below hs5 hB5 hb5 hown5 hg5
  rw [← cellsOf_append] at hn5
  have hown6 := hn5
  clear hn5 hg5 ho5 hc5 hd5 hb5 hown5 hB5 hs5
  go_wp2_with (go_at_call 279; refine (ref_rows_at 15 0 ⟨#[]⟩ ⟨#[]⟩ [⟨#[114, 101, 116, 117, 114, 110]⟩] x5.heap.size 1 1 rfl (by decide) (by decide) (by decide) (by decide) _ (by simp) (names_cell x5 [⟨#[114, 101, 116, 117, 114, 110]⟩] _)).mono ?_)
  rintro e y6 ⟨g6, c6, rfl, hc6, hb6⟩
  have ho6 := own_below (hown6.alloc _) hb6
  have hd6 : ∀ j u, (cellsOf part6)[j]? = some u → y6.cell? ((⟨g6, 0, none⟩ : Addr).add j) = some u := hc6
  go_wp2_with (at_builtin; refine wpList_append_own_at _ rfl (.tmp 26) (.tmp 28) 248 rfl B 251 i0 (.agg #[.int .i64 0, .string ⟨#[]⟩, .int .i64 0, .string ⟨#[]⟩, .string ⟨#[]⟩]) 5 64 Tryz.underlying248 hi hz0 hz1 hz2 rfl (by decide) v5 10 _ rfl ho6 ⟨g6, 0, none⟩ 1 c6 (cellsOf part6) rfl (by rw [cellsOf_len]; rfl) hd6 (cells_one _) (by unfold maxLen; omega) (by omega) (Nat.le_trans (Nat.le_trans hs6 (by simp)) hb6.size) ?_)
  intro v6 x6 hn6 hg6 _ _
  obtain ⟨hB7, hs7⟩ := seg_below hs6 hB6 hb6 hown6 hg6
  rw [← cellsOf_append] at hn6
  have hown7 := hn6
  clear hn6 hg6 ho6 hc6 hd6 hb6 hown6 hB6 hs6
  go_wp2_with (go_at_call 279; refine (ref_rows_at 16 4 ⟨#[]⟩ ⟨#[]⟩ [⟨#[99, 97, 108, 108]⟩] x6.heap.size 1 1 rfl (by decide) (by decide) (by decide) (by decide) _ (by simp) (names_cell x6 [⟨#[99, 97, 108, 108]⟩] _)).mono ?_)
  rintro e y7 ⟨g7, c7, rfl, hc7, hb7⟩
  have ho7 := own_below (hown7.alloc _) hb7
  have hd7 : ∀ j u, (cellsOf part7)[j]? = some u → y7.cell? ((⟨g7, 0, none⟩ : Addr).add j) = some u := hc7
  go_wp2_with (at_builtin; refine wpList_append_own_at _ rfl (.tmp 30) (.tmp 32) 248 rfl B 251 i0 (.agg #[.int .i64 0, .string ⟨#[]⟩, .int .i64 0, .string ⟨#[]⟩, .string ⟨#[]⟩]) 5 64 Tryz.underlying248 hi hz0 hz1 hz2 rfl (by decide) v6 11 _ rfl ho7 ⟨g7, 0, none⟩ 1 c7 (cellsOf part7) rfl (by rw [cellsOf_len]; rfl) hd7 (cells_one _) (by unfold maxLen; omega) (by omega) (Nat.le_trans (Nat.le_trans hs7 (by simp)) hb7.size) ?_)
  intro v7 x7 hn7 hg7 _ _
  obtain ⟨hB8, hs8⟩ := seg_below hs7 hB7 hb7 hown7 hg7
  rw [← cellsOf_append] at hn7
  have hown8 := hn7
  clear hn7 hg7 ho7 hc7 hd7 hb7 hown7 hB7 hs7
  go_wp2_with (go_at_call 279; refine (ref_rows_at 26 0 ⟨#[]⟩ ⟨#[]⟩ [⟨#[100, 114, 111, 112]⟩, ⟨#[115, 101, 108, 101, 99, 116]⟩] x7.heap.size 2 2 rfl (by decide) (by decide) (by decide) (by decide) _ (by simp) (names_cell x7 [⟨#[100, 114, 111, 112]⟩, ⟨#[115, 101, 108, 101, 99, 116]⟩] _)).mono ?_)
  rintro e y8 ⟨g8, c8, rfl, hc8, hb8⟩
  have ho8 := own_below (hown8.alloc _) hb8
  have hd8 : ∀ j u, (cellsOf part8)[j]? = some u → y8.cell? ((⟨g8, 0, none⟩ : Addr).add j) = some u := hc8
  go_wp2_with (at_builtin; refine wpList_append_own_at _ rfl (.tmp 34) (.tmp 36) 248 rfl B 251 i0 (.agg #[.int .i64 0, .string ⟨#[]⟩, .int .i64 0, .string ⟨#[]⟩, .string ⟨#[]⟩]) 5 64 Tryz.underlying248 hi hz0 hz1 hz2 rfl (by decide) v7 12 _ rfl ho8 ⟨g8, 0, none⟩ 2 c8 (cellsOf part8) rfl (by rw [cellsOf_len]; rfl) hd8 (cells_one _) (by unfold maxLen; omega) (by omega) (Nat.le_trans (Nat.le_trans hs8 (by simp)) hb8.size) ?_)
  intro v8 x8 hn8 hg8 _ _
  obtain ⟨hB9, hs9⟩ := seg_below hs8 hB8 hb8 hown8 hg8
  rw [← cellsOf_append] at hn8
  have hown9 := hn8
  clear hn8 hg8 ho8 hc8 hd8 hb8 hown8 hB8 hs8
  go_wp2_with (go_at_call 279; refine (ref_rows_at 32 4 ⟨#[]⟩ ⟨#[]⟩ [⟨#[108, 111, 99, 97, 108, 46, 103, 101, 116]⟩, ⟨#[108, 111, 99, 97, 108, 46, 115, 101, 116]⟩, ⟨#[108, 111, 99, 97, 108, 46, 116, 101, 101]⟩, ⟨#[103, 108, 111, 98, 97, 108, 46, 103, 101, 116]⟩, ⟨#[103, 108, 111, 98, 97, 108, 46, 115, 101, 116]⟩] x8.heap.size 5 5 rfl (by decide) (by decide) (by decide) (by decide) _ (by simp) (names_cell x8 [⟨#[108, 111, 99, 97, 108, 46, 103, 101, 116]⟩, ⟨#[108, 111, 99, 97, 108, 46, 115, 101, 116]⟩, ⟨#[108, 111, 99, 97, 108, 46, 116, 101, 101]⟩, ⟨#[103, 108, 111, 98, 97, 108, 46, 103, 101, 116]⟩, ⟨#[103, 108, 111, 98, 97, 108, 46, 115, 101, 116]⟩] _)).mono ?_)
  rintro e y9 ⟨g9, c9, rfl, hc9, hb9⟩
  have ho9 := own_below (hown9.alloc _) hb9
  have hd9 : ∀ j u, (cellsOf part9)[j]? = some u → y9.cell? ((⟨g9, 0, none⟩ : Addr).add j) = some u := hc9
  go_wp2_with (at_builtin; refine wpList_append_own_at _ rfl (.tmp 38) (.tmp 40) 248 rfl B 251 i0 (.agg #[.int .i64 0, .string ⟨#[]⟩, .int .i64 0, .string ⟨#[]⟩, .string ⟨#[]⟩]) 5 64 Tryz.underlying248 hi hz0 hz1 hz2 rfl (by decide) v8 14 _ rfl ho9 ⟨g9, 0, none⟩ 5 c9 (cellsOf part9) rfl (by rw [cellsOf_len]; rfl) hd9 (cells_one _) (by unfold maxLen; omega) (by omega) (Nat.le_trans (Nat.le_trans hs9 (by simp)) hb9.size) ?_)
  intro v9 x9 hn9 hg9 _ _
  obtain ⟨hB10, hs10⟩ := seg_below hs9 hB9 hb9 hown9 hg9
  rw [← cellsOf_append] at hn9
  have hown10 := hn9
  clear hn9 hg9 ho9 hc9 hd9 hb9 hown9 hB9 hs9
  go_wp2_with (go_at_call 279; refine (ref_rows_at 40 5 ⟨#[127]⟩ ⟨#[127]⟩ [⟨#[105, 51, 50, 46, 108, 111, 97, 100]⟩] x9.heap.size 1 1 rfl (by decide) (by decide) (by decide) (by decide) _ (by simp) (names_cell x9 [⟨#[105, 51, 50, 46, 108, 111, 97, 100]⟩] _)).mono ?_)
  rintro e y10 ⟨g10, c10, rfl, hc10, hb10⟩
  have ho10 := own_below (hown10.alloc _) hb10
  have hd10 : ∀ j u, (cellsOf part10)[j]? = some u → y10.cell? ((⟨g10, 0, none⟩ : Addr).add j) = some u := hc10
  go_wp2_with (at_builtin; refine wpList_append_own_at _ rfl (.tmp 42) (.tmp 44) 248 rfl B 251 i0 (.agg #[.int .i64 0, .string ⟨#[]⟩, .int .i64 0, .string ⟨#[]⟩, .string ⟨#[]⟩]) 5 64 Tryz.underlying248 hi hz0 hz1 hz2 rfl (by decide) v9 19 _ rfl ho10 ⟨g10, 0, none⟩ 1 c10 (cellsOf part10) rfl (by rw [cellsOf_len]; rfl) hd10 (cells_one _) (by unfold maxLen; omega) (by omega) (Nat.le_trans (Nat.le_trans hs10 (by simp)) hb10.size) ?_)
  intro v10 x10 hn10 hg10 _ _
  obtain ⟨hB11, hs11⟩ := seg_below hs10 hB10 hb10 hown10 hg10
  rw [← cellsOf_append] at hn10
  have hown11 := hn10
  clear hn10 hg10 ho10 hc10 hd10 hb10 hown10 hB10 hs10
  go_wp2_with (go_at_call 279; refine (ref_rows_at 41 5 ⟨#[127]⟩ ⟨#[126]⟩ [⟨#[105, 54, 52, 46, 108, 111, 97, 100]⟩] x10.heap.size 1 1 rfl (by decide) (by decide) (by decide) (by decide) _ (by simp) (names_cell x10 [⟨#[105, 54, 52, 46, 108, 111, 97, 100]⟩] _)).mono ?_)
  rintro e y11 ⟨g11, c11, rfl, hc11, hb11⟩
  have ho11 := own_below (hown11.alloc _) hb11
  have hd11 : ∀ j u, (cellsOf part11)[j]? = some u → y11.cell? ((⟨g11, 0, none⟩ : Addr).add j) = some u := hc11
  go_wp2_with (at_builtin; refine wpList_append_own_at _ rfl (.tmp 46) (.tmp 48) 248 rfl B 251 i0 (.agg #[.int .i64 0, .string ⟨#[]⟩, .int .i64 0, .string ⟨#[]⟩, .string ⟨#[]⟩]) 5 64 Tryz.underlying248 hi hz0 hz1 hz2 rfl (by decide) v10 20 _ rfl ho11 ⟨g11, 0, none⟩ 1 c11 (cellsOf part11) rfl (by rw [cellsOf_len]; rfl) hd11 (cells_one _) (by unfold maxLen; omega) (by omega) (Nat.le_trans (Nat.le_trans hs11 (by simp)) hb11.size) ?_)
  intro v11 x11 hn11 hg11 _ _
  obtain ⟨hB12, hs12⟩ := seg_below hs11 hB11 hb11 hown11 hg11
  rw [← cellsOf_append] at hn11
  have hown12 := hn11
  clear hn11 hg11 ho11 hc11 hd11 hb11 hown11 hB11 hs11
  go_wp2_with (go_at_call 279; refine (ref_rows_at 44 5 ⟨#[127]⟩ ⟨#[127]⟩ [⟨#[105, 51, 50, 46, 108, 111, 97, 100, 56, 95, 115]⟩, ⟨#[105, 51, 50, 46, 108, 111, 97, 100, 56, 95, 117]⟩, ⟨#[105, 51, 50, 46, 108, 111, 97, 100, 49, 54, 95, 115]⟩, ⟨#[105, 51, 50, 46, 108, 111, 97, 100, 49, 54, 95, 117]⟩] x11.heap.size 4 4 rfl (by decide) (by decide) (by decide) (by decide) _ (by simp) (names_cell x11 [⟨#[105, 51, 50, 46, 108, 111, 97, 100, 56, 95, 115]⟩, ⟨#[105, 51, 50, 46, 108, 111, 97, 100, 56, 95, 117]⟩, ⟨#[105, 51, 50, 46, 108, 111, 97, 100, 49, 54, 95, 115]⟩, ⟨#[105, 51, 50, 46, 108, 111, 97, 100, 49, 54, 95, 117]⟩] _)).mono ?_)
  rintro e y12 ⟨g12, c12, rfl, hc12, hb12⟩
  have ho12 := own_below (hown12.alloc _) hb12
  have hd12 : ∀ j u, (cellsOf part12)[j]? = some u → y12.cell? ((⟨g12, 0, none⟩ : Addr).add j) = some u := hc12
  go_wp2_with (at_builtin; refine wpList_append_own_at _ rfl (.tmp 50) (.tmp 52) 248 rfl B 251 i0 (.agg #[.int .i64 0, .string ⟨#[]⟩, .int .i64 0, .string ⟨#[]⟩, .string ⟨#[]⟩]) 5 64 Tryz.underlying248 hi hz0 hz1 hz2 rfl (by decide) v11 21 _ rfl ho12 ⟨g12, 0, none⟩ 4 c12 (cellsOf part12) rfl (by rw [cellsOf_len]; rfl) hd12 (cells_one _) (by unfold maxLen; omega) (by omega) (Nat.le_trans (Nat.le_trans hs12 (by simp)) hb12.size) ?_)
  intro v12 x12 hn12 hg12 _ _
  obtain ⟨hB13, hs13⟩ := seg_below hs12 hB12 hb12 hown12 hg12
  rw [← cellsOf_append] at hn12
  have hown13 := hn12
  clear hn12 hg12 ho12 hc12 hd12 hb12 hown12 hB12 hs12
  go_wp2_with (go_at_call 279; refine (ref_rows_at 48 5 ⟨#[127]⟩ ⟨#[126]⟩ [⟨#[105, 54, 52, 46, 108, 111, 97, 100, 56, 95, 115]⟩, ⟨#[105, 54, 52, 46, 108, 111, 97, 100, 56, 95, 117]⟩, ⟨#[105, 54, 52, 46, 108, 111, 97, 100, 49, 54, 95, 115]⟩, ⟨#[105, 54, 52, 46, 108, 111, 97, 100, 49, 54, 95, 117]⟩, ⟨#[105, 54, 52, 46, 108, 111, 97, 100, 51, 50, 95, 115]⟩, ⟨#[105, 54, 52, 46, 108, 111, 97, 100, 51, 50, 95, 117]⟩] x12.heap.size 6 6 rfl (by decide) (by decide) (by decide) (by decide) _ (by simp) (names_cell x12 [⟨#[105, 54, 52, 46, 108, 111, 97, 100, 56, 95, 115]⟩, ⟨#[105, 54, 52, 46, 108, 111, 97, 100, 56, 95, 117]⟩, ⟨#[105, 54, 52, 46, 108, 111, 97, 100, 49, 54, 95, 115]⟩, ⟨#[105, 54, 52, 46, 108, 111, 97, 100, 49, 54, 95, 117]⟩, ⟨#[105, 54, 52, 46, 108, 111, 97, 100, 51, 50, 95, 115]⟩, ⟨#[105, 54, 52, 46, 108, 111, 97, 100, 51, 50, 95, 117]⟩] _)).mono ?_)
  rintro e y13 ⟨g13, c13, rfl, hc13, hb13⟩
  have ho13 := own_below (hown13.alloc _) hb13
  have hd13 : ∀ j u, (cellsOf part13)[j]? = some u → y13.cell? ((⟨g13, 0, none⟩ : Addr).add j) = some u := hc13
  go_wp2_with (at_builtin; refine wpList_append_own_at _ rfl (.tmp 54) (.tmp 56) 248 rfl B 251 i0 (.agg #[.int .i64 0, .string ⟨#[]⟩, .int .i64 0, .string ⟨#[]⟩, .string ⟨#[]⟩]) 5 64 Tryz.underlying248 hi hz0 hz1 hz2 rfl (by decide) v12 25 _ rfl ho13 ⟨g13, 0, none⟩ 6 c13 (cellsOf part13) rfl (by rw [cellsOf_len]; rfl) hd13 (cells_one _) (by unfold maxLen; omega) (by omega) (Nat.le_trans (Nat.le_trans hs13 (by simp)) hb13.size) ?_)
  intro v13 x13 hn13 hg13 _ _
  obtain ⟨hB14, hs14⟩ := seg_below hs13 hB13 hb13 hown13 hg13
  rw [← cellsOf_append] at hn13
  have hown14 := hn13
  clear hn13 hg13 ho13 hc13 hd13 hb13 hown13 hB13 hs13
  go_wp2_with (go_at_call 279; refine (ref_rows_at 54 5 ⟨#[127, 127]⟩ ⟨#[]⟩ [⟨#[105, 51, 50, 46, 115, 116, 111, 114, 101]⟩] x13.heap.size 1 1 rfl (by decide) (by decide) (by decide) (by decide) _ (by simp) (names_cell x13 [⟨#[105, 51, 50, 46, 115, 116, 111, 114, 101]⟩] _)).mono ?_)
  rintro e y14 ⟨g14, c14, rfl, hc14, hb14⟩
  have ho14 := own_below (hown14.alloc _) hb14
  have hd14 : ∀ j u, (cellsOf part14)[j]? = some u → y14.cell? ((⟨g14, 0, none⟩ : Addr).add j) = some u := hc14
  go_wp2_with (at_builtin; refine wpList_append_own_at _ rfl (.tmp 58) (.tmp 60) 248 rfl B 251 i0 (.agg #[.int .i64 0, .string ⟨#[]⟩, .int .i64 0, .string ⟨#[]⟩, .string ⟨#[]⟩]) 5 64 Tryz.underlying248 hi hz0 hz1 hz2 rfl (by decide) v13 31 _ rfl ho14 ⟨g14, 0, none⟩ 1 c14 (cellsOf part14) rfl (by rw [cellsOf_len]; rfl) hd14 (cells_one _) (by unfold maxLen; omega) (by omega) (Nat.le_trans (Nat.le_trans hs14 (by simp)) hb14.size) ?_)
  intro v14 x14 hn14 hg14 _ _
  obtain ⟨hB15, hs15⟩ := seg_below hs14 hB14 hb14 hown14 hg14
  rw [← cellsOf_append] at hn14
  have hown15 := hn14
  clear hn14 hg14 ho14 hc14 hd14 hb14 hown14 hB14 hs14
  go_wp2_with (go_at_call 279; refine (ref_rows_at 55 5 ⟨#[127, 126]⟩ ⟨#[]⟩ [⟨#[105, 54, 52, 46, 115, 116, 111, 114, 101]⟩] x14.heap.size 1 1 rfl (by decide) (by decide) (by decide) (by decide) _ (by simp) (names_cell x14 [⟨#[105, 54, 52, 46, 115, 116, 111, 114, 101]⟩] _)).mono ?_)
  rintro e y15 ⟨g15, c15, rfl, hc15, hb15⟩
  have ho15 := own_below (hown15.alloc _) hb15
  have hd15 : ∀ j u, (cellsOf part15)[j]? = some u → y15.cell? ((⟨g15, 0, none⟩ : Addr).add j) = some u := hc15
  go_wp2_with (at_builtin; refine wpList_append_own_at _ rfl (.tmp 62) (.tmp 64) 248 rfl B 251 i0 (.agg #[.int .i64 0, .string ⟨#[]⟩, .int .i64 0, .string ⟨#[]⟩, .string ⟨#[]⟩]) 5 64 Tryz.underlying248 hi hz0 hz1 hz2 rfl (by decide) v14 32 _ rfl ho15 ⟨g15, 0, none⟩ 1 c15 (cellsOf part15) rfl (by rw [cellsOf_len]; rfl) hd15 (cells_one _) (by unfold maxLen; omega) (by omega) (Nat.le_trans (Nat.le_trans hs15 (by simp)) hb15.size) ?_)
  intro v15 x15 hn15 hg15 _ _
  obtain ⟨hB16, hs16⟩ := seg_below hs15 hB15 hb15 hown15 hg15
  rw [← cellsOf_append] at hn15
  have hown16 := hn15
  clear hn15 hg15 ho15 hc15 hd15 hb15 hown15 hB15 hs15
  go_wp2_with (go_at_call 279; refine (ref_rows_at 58 5 ⟨#[127, 127]⟩ ⟨#[]⟩ [⟨#[105, 51, 50, 46, 115, 116, 111, 114, 101, 56]⟩, ⟨#[105, 51, 50, 46, 115, 116, 111, 114, 101, 49, 54]⟩] x15.heap.size 2 2 rfl (by decide) (by decide) (by decide) (by decide) _ (by simp) (names_cell x15 [⟨#[105, 51, 50, 46, 115, 116, 111, 114, 101, 56]⟩, ⟨#[105, 51, 50, 46, 115, 116, 111, 114, 101, 49, 54]⟩] _)).mono ?_)
  rintro e y16 ⟨g16, c16, rfl, hc16, hb16⟩
  have ho16 := own_below (hown16.alloc _) hb16
  have hd16 : ∀ j u, (cellsOf part16)[j]? = some u → y16.cell? ((⟨g16, 0, none⟩ : Addr).add j) = some u := hc16
  go_wp2_with (at_builtin; refine wpList_append_own_at _ rfl (.tmp 66) (.tmp 68) 248 rfl B 251 i0 (.agg #[.int .i64 0, .string ⟨#[]⟩, .int .i64 0, .string ⟨#[]⟩, .string ⟨#[]⟩]) 5 64 Tryz.underlying248 hi hz0 hz1 hz2 rfl (by decide) v15 33 _ rfl ho16 ⟨g16, 0, none⟩ 2 c16 (cellsOf part16) rfl (by rw [cellsOf_len]; rfl) hd16 (cells_one _) (by unfold maxLen; omega) (by omega) (Nat.le_trans (Nat.le_trans hs16 (by simp)) hb16.size) ?_)
  intro v16 x16 hn16 hg16 _ _
  obtain ⟨hB17, hs17⟩ := seg_below hs16 hB16 hb16 hown16 hg16
  rw [← cellsOf_append] at hn16
  have hown17 := hn16
  clear hn16 hg16 ho16 hc16 hd16 hb16 hown16 hB16 hs16
  go_wp2_with (go_at_call 279; refine (ref_rows_at 60 5 ⟨#[127, 126]⟩ ⟨#[]⟩ [⟨#[105, 54, 52, 46, 115, 116, 111, 114, 101, 56]⟩, ⟨#[105, 54, 52, 46, 115, 116, 111, 114, 101, 49, 54]⟩, ⟨#[105, 54, 52, 46, 115, 116, 111, 114, 101, 51, 50]⟩] x16.heap.size 3 3 rfl (by decide) (by decide) (by decide) (by decide) _ (by simp) (names_cell x16 [⟨#[105, 54, 52, 46, 115, 116, 111, 114, 101, 56]⟩, ⟨#[105, 54, 52, 46, 115, 116, 111, 114, 101, 49, 54]⟩, ⟨#[105, 54, 52, 46, 115, 116, 111, 114, 101, 51, 50]⟩] _)).mono ?_)
  rintro e y17 ⟨g17, c17, rfl, hc17, hb17⟩
  have ho17 := own_below (hown17.alloc _) hb17
  have hd17 : ∀ j u, (cellsOf part17)[j]? = some u → y17.cell? ((⟨g17, 0, none⟩ : Addr).add j) = some u := hc17
  go_wp2_with (at_builtin; refine wpList_append_own_at _ rfl (.tmp 70) (.tmp 72) 248 rfl B 251 i0 (.agg #[.int .i64 0, .string ⟨#[]⟩, .int .i64 0, .string ⟨#[]⟩, .string ⟨#[]⟩]) 5 64 Tryz.underlying248 hi hz0 hz1 hz2 rfl (by decide) v16 35 _ rfl ho17 ⟨g17, 0, none⟩ 3 c17 (cellsOf part17) rfl (by rw [cellsOf_len]; rfl) hd17 (cells_one _) (by unfold maxLen; omega) (by omega) (Nat.le_trans (Nat.le_trans hs17 (by simp)) hb17.size) ?_)
  intro v17 x17 hn17 hg17 _ _
  obtain ⟨hB18, hs18⟩ := seg_below hs17 hB17 hb17 hown17 hg17
  rw [← cellsOf_append] at hn17
  have hown18 := hn17
  clear hn17 hg17 ho17 hc17 hd17 hb17 hown17 hB17 hs17
  go_wp2_with (go_at_call 279; refine (ref_rows_at 63 6 ⟨#[]⟩ ⟨#[127]⟩ [⟨#[109, 101, 109, 111, 114, 121, 46, 115, 105, 122, 101]⟩] x17.heap.size 1 1 rfl (by decide) (by decide) (by decide) (by decide) _ (by simp) (names_cell x17 [⟨#[109, 101, 109, 111, 114, 121, 46, 115, 105, 122, 101]⟩] _)).mono ?_)
  rintro e y18 ⟨g18, c18, rfl, hc18, hb18⟩
  have ho18 := own_below (hown18.alloc _) hb18
  have hd18 : ∀ j u, (cellsOf part18)[j]? = some u → y18.cell? ((⟨g18, 0, none⟩ : Addr).add j) = some u := hc18
  go_wp2_with (at_builtin; refine wpList_append_own_at _ rfl (.tmp 74) (.tmp 76) 248 rfl B 251 i0 (.agg #[.int .i64 0, .string ⟨#[]⟩, .int .i64 0, .string ⟨#[]⟩, .string ⟨#[]⟩]) 5 64 Tryz.underlying248 hi hz0 hz1 hz2 rfl (by decide) v17 38 _ rfl ho18 ⟨g18, 0, none⟩ 1 c18 (cellsOf part18) rfl (by rw [cellsOf_len]; rfl) hd18 (cells_one _) (by unfold maxLen; omega) (by omega) (Nat.le_trans (Nat.le_trans hs18 (by simp)) hb18.size) ?_)
  intro v18 x18 hn18 hg18 _ _
  obtain ⟨hB19, hs19⟩ := seg_below hs18 hB18 hb18 hown18 hg18
  rw [← cellsOf_append] at hn18
  have hown19 := hn18
  clear hn18 hg18 ho18 hc18 hd18 hb18 hown18 hB18 hs18
  go_wp2_with (go_at_call 279; refine (ref_rows_at 64 6 ⟨#[127]⟩ ⟨#[127]⟩ [⟨#[109, 101, 109, 111, 114, 121, 46, 103, 114, 111, 119]⟩] x18.heap.size 1 1 rfl (by decide) (by decide) (by decide) (by decide) _ (by simp) (names_cell x18 [⟨#[109, 101, 109, 111, 114, 121, 46, 103, 114, 111, 119]⟩] _)).mono ?_)
  rintro e y19 ⟨g19, c19, rfl, hc19, hb19⟩
  have ho19 := own_below (hown19.alloc _) hb19
  have hd19 : ∀ j u, (cellsOf part19)[j]? = some u → y19.cell? ((⟨g19, 0, none⟩ : Addr).add j) = some u := hc19
  go_wp2_with (at_builtin; refine wpList_append_own_at _ rfl (.tmp 78) (.tmp 80) 248 rfl B 251 i0 (.agg #[.int .i64 0, .string ⟨#[]⟩, .int .i64 0, .string ⟨#[]⟩, .string ⟨#[]⟩]) 5 64 Tryz.underlying248 hi hz0 hz1 hz2 rfl (by decide) v18 39 _ rfl ho19 ⟨g19, 0, none⟩ 1 c19 (cellsOf part19) rfl (by rw [cellsOf_len]; rfl) hd19 (cells_one _) (by unfold maxLen; omega) (by omega) (Nat.le_trans (Nat.le_trans hs19 (by simp)) hb19.size) ?_)
  intro v19 x19 hn19 hg19 _ _
  obtain ⟨hB20, hs20⟩ := seg_below hs19 hB19 hb19 hown19 hg19
  rw [← cellsOf_append] at hn19
  have hown20 := hn19
  clear hn19 hg19 ho19 hc19 hd19 hb19 hown19 hB19 hs19
  go_wp2_with (go_at_call 279; refine (ref_rows_at 65 7 ⟨#[]⟩ ⟨#[127]⟩ [⟨#[105, 51, 50, 46, 99, 111, 110, 115, 116]⟩] x19.heap.size 1 1 rfl (by decide) (by decide) (by decide) (by decide) _ (by simp) (names_cell x19 [⟨#[105, 51, 50, 46, 99, 111, 110, 115, 116]⟩] _)).mono ?_)
  rintro e y20 ⟨g20, c20, rfl, hc20, hb20⟩
  have ho20 := own_below (hown20.alloc _) hb20
  have hd20 : ∀ j u, (cellsOf part20)[j]? = some u → y20.cell? ((⟨g20, 0, none⟩ : Addr).add j) = some u := hc20
  go_wp2_with (at_builtin; refine wpList_append_own_at _ rfl (.tmp 82) (.tmp 84) 248 rfl B 251 i0 (.agg #[.int .i64 0, .string ⟨#[]⟩, .int .i64 0, .string ⟨#[]⟩, .string ⟨#[]⟩]) 5 64 Tryz.underlying248 hi hz0 hz1 hz2 rfl (by decide) v19 40 _ rfl ho20 ⟨g20, 0, none⟩ 1 c20 (cellsOf part20) rfl (by rw [cellsOf_len]; rfl) hd20 (cells_one _) (by unfold maxLen; omega) (by omega) (Nat.le_trans (Nat.le_trans hs20 (by simp)) hb20.size) ?_)
  intro v20 x20 hn20 hg20 _ _
  obtain ⟨hB21, hs21⟩ := seg_below hs20 hB20 hb20 hown20 hg20
  rw [← cellsOf_append] at hn20
  have hown21 := hn20
  clear hn20 hg20 ho20 hc20 hd20 hb20 hown20 hB20 hs20
  go_wp2_with (go_at_call 279; refine (ref_rows_at 66 7 ⟨#[]⟩ ⟨#[126]⟩ [⟨#[105, 54, 52, 46, 99, 111, 110, 115, 116]⟩] x20.heap.size 1 1 rfl (by decide) (by decide) (by decide) (by decide) _ (by simp) (names_cell x20 [⟨#[105, 54, 52, 46, 99, 111, 110, 115, 116]⟩] _)).mono ?_)
  rintro e y21 ⟨g21, c21, rfl, hc21, hb21⟩
  have ho21 := own_below (hown21.alloc _) hb21
  have hd21 : ∀ j u, (cellsOf part21)[j]? = some u → y21.cell? ((⟨g21, 0, none⟩ : Addr).add j) = some u := hc21
  go_wp2_with (at_builtin; refine wpList_append_own_at _ rfl (.tmp 86) (.tmp 88) 248 rfl B 251 i0 (.agg #[.int .i64 0, .string ⟨#[]⟩, .int .i64 0, .string ⟨#[]⟩, .string ⟨#[]⟩]) 5 64 Tryz.underlying248 hi hz0 hz1 hz2 rfl (by decide) v20 41 _ rfl ho21 ⟨g21, 0, none⟩ 1 c21 (cellsOf part21) rfl (by rw [cellsOf_len]; rfl) hd21 (cells_one _) (by unfold maxLen; omega) (by omega) (Nat.le_trans (Nat.le_trans hs21 (by simp)) hb21.size) ?_)
  intro v21 x21 hn21 hg21 _ _
  obtain ⟨hB22, hs22⟩ := seg_below hs21 hB21 hb21 hown21 hg21
  rw [← cellsOf_append] at hn21
  have hown22 := hn21
  clear hn21 hg21 ho21 hc21 hd21 hb21 hown21 hB21 hs21
  go_wp2_with (go_at_call 280; refine (ref_numbers_at ⟨#[105, 51, 50, 46]⟩ ⟨#[127]⟩ 69 103 (by decide) (by decide) (by decide) (by decide) (by decide) (by decide) _).mono ?_)
  rintro e y22 ⟨g22, c22, rfl, hc22, hb22⟩
  have ho22 := own_below hown22 hb22
  have hd22 : ∀ j u, (cellsOf part22)[j]? = some u → y22.cell? ((⟨g22, 0, none⟩ : Addr).add j) = some u := hc22
  go_wp2_with (at_builtin; refine wpList_append_own_at _ rfl (.tmp 90) (.tmp 91) 248 rfl B 251 i0 (.agg #[.int .i64 0, .string ⟨#[]⟩, .int .i64 0, .string ⟨#[]⟩, .string ⟨#[]⟩]) 5 64 Tryz.underlying248 hi hz0 hz1 hz2 rfl (by decide) v21 42 _ rfl ho22 ⟨g22, 0, none⟩ 29 c22 (cellsOf part22) rfl (by rw [cellsOf_len]; rfl) hd22 (cells_one _) (by unfold maxLen; omega) (by omega) (Nat.le_trans (Nat.le_trans hs22 (Nat.le_refl _)) hb22.size) ?_)
  intro v22 x22 hn22 hg22 _ _
  obtain ⟨hB23, hs23⟩ := seg_below0 hs22 hB22 hb22 hown22 hg22
  rw [← cellsOf_append] at hn22
  have hown23 := hn22
  clear hn22 hg22 ho22 hc22 hd22 hb22 hown22 hB22 hs22
  go_wp2_with (go_at_call 280; refine (ref_numbers_at ⟨#[105, 54, 52, 46]⟩ ⟨#[126]⟩ 80 121 (by decide) (by decide) (by decide) (by decide) (by decide) (by decide) _).mono ?_)
  rintro e y23 ⟨g23, c23, rfl, hc23, hb23⟩
  have ho23 := own_below hown23 hb23
  have hd23 : ∀ j u, (cellsOf part23)[j]? = some u → y23.cell? ((⟨g23, 0, none⟩ : Addr).add j) = some u := hc23
  go_wp2_with (at_builtin; refine wpList_append_own_at _ rfl (.tmp 93) (.tmp 94) 248 rfl B 251 i0 (.agg #[.int .i64 0, .string ⟨#[]⟩, .int .i64 0, .string ⟨#[]⟩, .string ⟨#[]⟩]) 5 64 Tryz.underlying248 hi hz0 hz1 hz2 rfl (by decide) v22 71 _ rfl ho23 ⟨g23, 0, none⟩ 29 c23 (cellsOf part23) rfl (by rw [cellsOf_len]; rfl) hd23 (cells_one _) (by unfold maxLen; omega) (by omega) (Nat.le_trans (Nat.le_trans hs23 (Nat.le_refl _)) hb23.size) ?_)
  intro v23 x23 hn23 hg23 _ _
  obtain ⟨hB24, hs24⟩ := seg_below0 hs23 hB23 hb23 hown23 hg23
  rw [← cellsOf_append] at hn23
  have hown24 := hn23
  clear hn23 hg23 ho23 hc23 hd23 hb23 hown23 hB23 hs23
  go_wp2_with (go_at_call 279; refine (ref_rows_at 167 0 ⟨#[126]⟩ ⟨#[127]⟩ [⟨#[105, 51, 50, 46, 119, 114, 97, 112, 95, 105, 54, 52]⟩] x23.heap.size 1 1 rfl (by decide) (by decide) (by decide) (by decide) _ (by simp) (names_cell x23 [⟨#[105, 51, 50, 46, 119, 114, 97, 112, 95, 105, 54, 52]⟩] _)).mono ?_)
  rintro e y24 ⟨g24, c24, rfl, hc24, hb24⟩
  have ho24 := own_below (hown24.alloc _) hb24
  have hd24 : ∀ j u, (cellsOf part24)[j]? = some u → y24.cell? ((⟨g24, 0, none⟩ : Addr).add j) = some u := hc24
  go_wp2_with (at_builtin; refine wpList_append_own_at _ rfl (.tmp 96) (.tmp 98) 248 rfl B 251 i0 (.agg #[.int .i64 0, .string ⟨#[]⟩, .int .i64 0, .string ⟨#[]⟩, .string ⟨#[]⟩]) 5 64 Tryz.underlying248 hi hz0 hz1 hz2 rfl (by decide) v23 100 _ rfl ho24 ⟨g24, 0, none⟩ 1 c24 (cellsOf part24) rfl (by rw [cellsOf_len]; rfl) hd24 (cells_one _) (by unfold maxLen; omega) (by omega) (Nat.le_trans (Nat.le_trans hs24 (by simp)) hb24.size) ?_)
  intro v24 x24 hn24 hg24 _ _
  obtain ⟨hB25, hs25⟩ := seg_below hs24 hB24 hb24 hown24 hg24
  rw [← cellsOf_append] at hn24
  have hown25 := hn24
  clear hn24 hg24 ho24 hc24 hd24 hb24 hown24 hB24 hs24
  go_wp2_with (go_at_call 279; refine (ref_rows_at 172 0 ⟨#[127]⟩ ⟨#[126]⟩ [⟨#[105, 54, 52, 46, 101, 120, 116, 101, 110, 100, 95, 105, 51, 50, 95, 115]⟩, ⟨#[105, 54, 52, 46, 101, 120, 116, 101, 110, 100, 95, 105, 51, 50, 95, 117]⟩] x24.heap.size 2 2 rfl (by decide) (by decide) (by decide) (by decide) _ (by simp) (names_cell x24 [⟨#[105, 54, 52, 46, 101, 120, 116, 101, 110, 100, 95, 105, 51, 50, 95, 115]⟩, ⟨#[105, 54, 52, 46, 101, 120, 116, 101, 110, 100, 95, 105, 51, 50, 95, 117]⟩] _)).mono ?_)
  rintro e y25 ⟨g25, c25, rfl, hc25, hb25⟩
  have ho25 := own_below (hown25.alloc _) hb25
  have hd25 : ∀ j u, (cellsOf part25)[j]? = some u → y25.cell? ((⟨g25, 0, none⟩ : Addr).add j) = some u := hc25
  go_wp2_with (at_builtin; refine wpList_append_own_at _ rfl (.tmp 100) (.tmp 102) 248 rfl B 251 i0 (.agg #[.int .i64 0, .string ⟨#[]⟩, .int .i64 0, .string ⟨#[]⟩, .string ⟨#[]⟩]) 5 64 Tryz.underlying248 hi hz0 hz1 hz2 rfl (by decide) v24 101 _ rfl ho25 ⟨g25, 0, none⟩ 2 c25 (cellsOf part25) rfl (by rw [cellsOf_len]; rfl) hd25 (cells_one _) (by unfold maxLen; omega) (by omega) (Nat.le_trans (Nat.le_trans hs25 (by simp)) hb25.size) ?_)
  intro v25 x25 hn25 hg25 _ _
  obtain ⟨hB26, hs26⟩ := seg_below hs25 hB25 hb25 hown25 hg25
  rw [← cellsOf_append] at hn25
  have hown26 := hn25
  clear hn25 hg25 ho25 hc25 hd25 hb25 hown25 hB25 hs25
  go_wp2
  go_ret
  exact ⟨_, rfl, hown26, hB26⟩
end Go.Proofs.YthfipknfdnfalaaGreatDoor
namespace Go.Proofs.YthfipknfdnfalaaGreatDoor
open Go.RowKit
theorem ret_bool {a b : Bool} (h : a = b) : Ending.returned (.bool b) = .returned (.bool a) := by rw [h]
end Go.Proofs.YthfipknfdnfalaaGreatDoor
namespace Go.Proofs.YthfipknfdnfalaaGreatDoor
open Go.RowKit
def vtype (b : UInt8) : Bool := decide (b.toNat = 127 ∨ b.toNat = 126)
def vtypes (l : List UInt8) (most : Int) : Bool := l.all vtype && decide ((l.length : Int) ≤ most)
def word4 (n : Int) : Bool := decide (0 ≤ n ∧ n < 4294967296)
def small4 (n : Int) : Bool := decide (-2147483648 ≤ n ∧ n < 2147483648)
end Go.Proofs.YthfipknfdnfalaaGreatDoor
