/-
  The document's own list of instructions, its rows: walked. Contracts that the proofs call; no statement is proved here.
-/
import Derived.Test.YtjpcobfaojjceaaDoorOpSpec
import Derived.WalkKit
import Derived.WalkSpells
import Derived.WalkLawsBesides
import Derived.Lib.Hide
import Derived.Maps.AppendAt
namespace Go.Proofs.YtjpcobfaojjceaaDoor
open Go.RowKit

theorem row_new (w : World) (arr : Array Value) (e : TypeId) : ∀ j u, arr.toList[j]? = some u → (w.alloc (.cells arr e)).cell? ((⟨w.heap.size, 0, none⟩ : Addr).add j) = some u := by
  intro j u h
  have e1 : ((⟨w.heap.size, 0, none⟩ : Addr).add j) = ⟨w.heap.size, j, none⟩ := by
    unfold Addr.add; split
    · rename_i h0; subst h0; rfl
    · simp
  rw [e1, World.cell?_alloc_new w arr e j]
  simpa using h
theorem own_base {w : World} {base : Nat} {e : TypeId} {size : Nat} {v : Value} {n : Nat} {xs : List Value} (h : w.ownsRow base e size v n xs) : ∀ g, v.ownBlock = some g → base ≤ g := by
  intro g hg
  rcases h.2 with ⟨rfl, _⟩ | ⟨g', cap, cur, rfl, hb, _⟩
  · cases hg
  · simp only [Value.ownBlock, Option.some.injEq] at hg
    subst hg; exact hb
theorem row_one (r : Rw) : ∀ u ∈ r.cells, u.oneCell' = true := by
  intro u hu
  simp only [Rw.cells, List.mem_cons, List.not_mem_nil, or_false] at hu
  rcases hu with rfl | rfl | rfl | rfl | rfl <;> rfl

theorem infoRow : (Tryd.prog.info? 50).map (fun i => (i.zero, i.size, i.bytes)) = some (some (.agg #[.int .i64 0, .string ⟨#[]⟩, .int .i64 0, .string ⟨#[]⟩, .string ⟨#[]⟩]), 5, 64) := by kernel_rfl

set_option maxRecDepth 100000 in
set_option maxHeartbeats 2000000 in
theorem ref_rows (code shape : Int) (p r : ByteArray) (ns : List ByteArray) (bk cap : Nat) (hc0 : 0 ≤ code) (hc1 : code ≤ 1000) (hn : ns.length ≤ 100) (w : World) (hbk : bk < w.heap.size)
    (hcell : ∀ j (hj : j < ns.length), w.cell? ⟨bk, j, none⟩ = some (.string ns[j])) :
    Calls Tryd.prog 31 #[.int .i64 code, .int .i64 shape, .string p, .string r, .slice (some ⟨bk, 0, none⟩) ns.length cap] w fun e w' =>
      ∃ v, e = .returned v ∧ w'.ownsRow w.heap.size 50 5 v ns.length (cellsOf (rowsFrom code shape p r ns)) ∧ Below w.heap.size w w' := by
  obtain ⟨i0, hi, hz0, hz1, hz2⟩ := info_parts infoRow
  obtain ⟨L, hL⟩ : ∃ L, L = ns.length := ⟨_, rfl⟩
  rw [← hL] at hn ⊢
  have HL := Lib.hid hL
  clear hL
  go_enter Tryd.func31, Tryd.ntmps31
  go_wp2
  go_loopw [11, 12] (fun v i wr => ∃ k : Nat, k ≤ L ∧ i = .int .i64 k ∧ wr.ownsRow w.heap.size 50 5 v k (cellsOf (rowsFrom code shape p r (ns.take k))) ∧ Below w.heap.size w wr)
    (fun _ i _ => L - (intOf i).toNat)
  case atStart => exact ⟨0, by omega, rfl, World.ownsRow_nil _ _ _ _, Below.refl _ _⟩
  case round =>
    obtain ⟨k, hk, rfl, hown, hB⟩ := hrel
    by_cases hlt : k < L
    · have hlt' : k < ns.length := by have := HL.out; omega
      have hcx : wr.cell? ⟨bk, k, none⟩ = some (.string ns[k]) := (hB.cell hbk).trans (hcell k hlt')
      obtain ⟨nm, hnm⟩ : ∃ nm, nm = ns[k] := ⟨_, rfl⟩
      rw [← hnm] at hcx
      have HN : Hid (nm = ns[k]) := Lib.hid hnm
      clear hnm
      have hs := hB.size
      have hstep := rowsFrom_step (code := code) (shape := shape) (p := p) (r := r) hlt'
      rw [← HN.out] at hstep
      have HS := Lib.hid hstep
      clear hstep
      go_wp2_with (at_builtin; refine wpList_append_own_at _ rfl (.tmp 19) (.tmp 32) 47 rfl w.heap.size 50 i0 (.agg #[.int .i64 0, .string ⟨#[]⟩, .int .i64 0, .string ⟨#[]⟩, .string ⟨#[]⟩]) 5 64 Tryd.underlying47 hi hz0 hz1 hz2 rfl (by decide) u11 k _ rfl (hown.alloc _) ⟨wr.heap.size, 0, none⟩ 1 1 (Rw.cells ⟨code + k, nm, shape, p, r⟩) rfl rfl (row_new _ _ _) (row_one _) (by unfold maxLen; omega) (by omega) (by simp; omega) ?_)
      intro v' w1 hown' hgrow _ _
      have hB2 := (hB.alloc hs _).grown hgrow (by simp; omega) (own_base hown)
      rw [← cellsOf_one, ← cellsOf_append, ← HS.out] at hown'
      clear hgrow hown hB hcx
      go_wp2
      go_roundw
      case rel => exact ⟨k + 1, by omega, by go_num, hown', hB2⟩
      case measure => simp [intOf]; omega
    · obtain rfl : k = L := by omega
      rw [HL.out, List.take_length] at hown
      go_wp2
      go_ret
      exact ⟨_, rfl, by rw [HL.out]; exact hown, hB⟩

/-- What a slice of the call's own holds, as a source to append from. -/
theorem own_slice {w : World} {base : Nat} {e : TypeId} {size : Nat} {v : Value} {n : Nat} {xs : List Value} (h : w.ownsRow base e size v n xs) (hn : n ≠ 0) :
    ∃ g cap, v = .slice (some ⟨g, 0, none⟩) n cap ∧ base ≤ g ∧ ∀ j u, xs[j]? = some u → w.cell? ((⟨g, 0, none⟩ : Addr).add j) = some u := by
  rcases h.2 with ⟨_, h0⟩ | ⟨g, cap, cur, rfl, hb, hg, hnc, hcm, hcs, ht⟩
  · exact absurd h0 hn
  · refine ⟨g, cap, rfl, hb, fun j u hu => ?_⟩
    rw [← ht] at hu
    have hu2 : cur[j]? = some u := by
      rw [List.getElem?_take] at hu
      split at hu
      · simpa using hu
      · cases hu
    have e1 : ((⟨g, 0, none⟩ : Addr).add j) = ⟨g, j, none⟩ := by
      unfold Addr.add; split
      · rename_i h0; subst h0; rfl
      · simp
    rw [e1]
    simp [World.cell?, hg, hu2]

/-- The cells of a new row of names. -/
theorem names_cell (w : World) (ns : List ByteArray) (e : TypeId) : ∀ j (hj : j < ns.length), (w.alloc (.cells (ns.map Value.string).toArray e)).cell? ⟨w.heap.size, j, none⟩ = some (.string ns[j]) := by
  intro j hj
  rw [World.cell?_alloc_new]
  simp [hj]

theorem ref_rows_at (code shape : Int) (p r : ByteArray) (ns : List ByteArray) (bk m cap : Nat) (hm : ns.length = m) (hc0 : 0 ≤ code) (hc1 : code ≤ 1000) (hn : ns.length ≤ 100) (hne : ns.length ≠ 0) (w : World) (hbk : bk < w.heap.size)
    (hcell : ∀ j (hj : j < ns.length), w.cell? ⟨bk, j, none⟩ = some (.string ns[j])) :
    Calls Tryd.prog 31 #[.int .i64 code, .int .i64 shape, .string p, .string r, .slice (some ⟨bk, 0, none⟩) m cap] w fun e w' =>
      ∃ g c, e = .returned (.slice (some ⟨g, 0, none⟩) m c) ∧ (∀ j u, (cellsOf (rowsFrom code shape p r ns))[j]? = some u → w'.cell? ((⟨g, 0, none⟩ : Addr).add j) = some u) ∧ Below w.heap.size w w' := by
  subst hm
  refine (ref_rows code shape p r ns bk cap hc0 hc1 hn w hbk hcell).mono ?_
  rintro e w' ⟨v, rfl, hown, hb⟩
  obtain ⟨g, c, rfl, _, hc⟩ := own_slice hown hne
  exact ⟨g, c, rfl, hc, hb⟩
end Go.Proofs.YtjpcobfaojjceaaDoor
