/-
  What is told of a code by package op: walked. A contract that the proofs call; no statement is proved here.
-/
import Derived.Test.YtpamchagidnijaaGreatDoorOpFields
import Derived.Test.YtpamchagidnijaaGreatDoorInfoMap
import Derived.Laws.ResultCell
import Derived.Deep.RegionWith
import Derived.BigRegion
namespace Go.Proofs.YtpamchagidnijaaGreatDoor
open Go.Shelf Go.RowKit Go.Lib Go.Maps

theorem info_zero (w : World) : (zeroValue 203).run Tryz.prog w = .ok (.agg #[.string ⟨#[]⟩, .int .i64 0, .string ⟨#[]⟩, .string ⟨#[]⟩]) w := by kernel_rfl

set_option maxRecDepth 100000 in
set_option maxHeartbeats 4000000 in
theorem of_raw (code : Int) (h0 : -9223372036854775808 ≤ code) (h1 : code ≤ 9223372036854775807) (l : Ls) (hl : near code = l) (w : World) (hL : Spaces w) :
    Calls Tryz.prog 173 #[.int .i64 code] w fun e w' => e = .returned (.tuple #[infoVal (rowIn l code), .bool (rowIn l code).isSome]) ∧ Below w.heap.size w w' := by
  have cn := near_of code
  have bd := near_bd code
  rw [hl] at cn bd
  obtain ⟨bd1, bd2, bd3, bd4, bd5, bd6, bd7⟩ := bd
  clear hl
  have law : Keyed Tryz.prog 3 := int_keyed Tryz.underlying3
  have hmm := @run_makeMap Tryz.prog
  have hpl : l.parts.length = (Lib.fields l.ends.data.toList).length := by simp [Ls.parts]
  have cf := fun w hL => lib_fields l.ends w hL (by omega) bd7
  rw [← hpl, show (Lib.fields l.ends.data.toList).map (fun l => Value.string ⟨l.toArray⟩) = l.parts.map Value.string by simp [Ls.parts]] at cf
  obtain ⟨l1, l2, l3, l4, l5, l6⟩ := l
  obtain ⟨ps, hps⟩ : ∃ ps, Ls.parts ⟨l1, l2, l3, l4, l5, l6⟩ = ps := ⟨_, rfl⟩
  simp only [Ls.flat] at *
  rw [hps] at cf bd5 bd6
  have HL := hL
  have hB := (Below.refl w.heap.size w).alloc (Nat.le_refl _) (.cells #[.string ⟨#[]⟩, .int .i64 0, .string ⟨#[]⟩, .string ⟨#[]⟩] 203)
  go_enter Tryz.func173, Tryz.ntmps173
  go_wp2_with (first
    | (go_at_call 233; refine (cn _).mono ?_; rintro e w1 ⟨rfl, hb⟩; have hR := res_cells hb; replace hB := hB.trans (hb.mono (by simp)))
    | (go_at_call 234; refine (cf _ ((HL.below hB).alloc _)).mono ?_; rintro e w2 ⟨rfl, rfl⟩))
  clear cn cf
  obtain ⟨W3, hW3⟩ : ∃ W3, W3 = (w1.alloc (.cells #[.int .i64 l1, .string l2, .int .i64 l3, .string l4, .string l5, .string l6] 278)).alloc (.cells (ps.map Value.string).toArray 9) := ⟨_, rfl⟩
  have hM : W3.heap.size = w1.heap.size + 1 + 1 := by rw [hW3]; simp
  have hB3 : Below w.heap.size w W3 := by rw [hW3]; exact (hB.alloc (Nat.le_trans hB.size (Nat.le_refl _)) _).alloc (by have := hB.size; simp; omega) _
  have hl1 : W3.heap[w1.heap.size]? = some (.cells (Ls.cells ⟨l1, l2, l3, l4, l5, l6⟩) 278) := by
    rw [hW3, Below.heap_alloc _ _ _ (by simp)]; exact heap_alloc_new _ _
  have hc2 : ∀ j (hj : j < ps.length), W3.cell? ⟨w1.heap.size + 1, j, none⟩ = some (.string ps[j]) := fun j hj => by
    rw [hW3, show w1.heap.size + 1 = (w1.alloc (.cells #[.int .i64 l1, .string l2, .int .i64 l3, .string l4, .string l5, .string l6] 278)).heap.size by simp, World.cell?_alloc_new]
    simp [List.getElem?_eq_getElem hj]
  have hr : ∀ j, W3.cell? ⟨w.heap.size, j, none⟩ = w1.cell? ⟨w.heap.size, j, none⟩ := fun j => by
    have : w.heap.size < w1.heap.size := Nat.lt_of_lt_of_le (by simp) hb.size
    rw [hW3, World.cell?_alloc_lt _ _ _ (by simp; omega), World.cell?_alloc_lt _ _ _ this]
  have hrf : ∀ j, W3.frozen? ⟨w.heap.size, j, none⟩ = w1.frozen? ⟨w.heap.size, j, none⟩ := fun j => by
    have : w.heap.size < w1.heap.size := Nat.lt_of_lt_of_le (by simp) hb.size
    rw [hW3]
    exact (World.frozen?_of_block (w := w1.alloc _) (Below.heap_alloc _ _ _ (by simp; omega))).trans (World.frozen?_of_block (w := w1) (Below.heap_alloc _ _ _ this))
  have ho := World.ownsMap_made W3 Tryz.prog 3 (infoRead (H := Unit))
  rw [hM] at ho
  rw [← hW3]
  have hBM := (Below.refl W3.heap.size W3).alloc (Nat.le_refl _) (.map #[] 0)
  rw [hM] at hBM
  have hsM : w1.heap.size + 1 + 1 < (W3.alloc (.map #[] 0)).heap.size := by simp [hM]
  clear hW3 hb
  go_loopw [19] (fun i wr => ∃ k : Nat, k ≤ ps.length ∧ i = .int .i64 k ∧ wr.ownsMap Tryz.prog 3 (infoRead (H := Unit)) (w1.heap.size + 1 + 1) k (mapD ⟨l1, l2, l3, l4, l5, l6⟩ k) ∧ Below (w1.heap.size + 1 + 1) W3 wr ∧ w1.heap.size + 1 + 1 < wr.heap.size) (fun i _ => ps.length - (Go.RowKit.intOf i).toNat)
  case atStart => exact ⟨0, by omega, rfl, ho, hBM, hsM⟩
  case round =>
    obtain ⟨k, hk, rfl, ho, hBM, hsM⟩ := hrel
    by_cases hlt : k < ps.length
    · have hcx : wr.cell? ⟨w1.heap.size + 1, k, none⟩ = some (.string ps[k]) := (hBM.cell (p := ⟨w1.heap.size + 1, k, none⟩) (by show w1.heap.size + 1 < _; omega)).trans (hc2 k hlt)
      have hsm : ps[k].size ≤ 20 := by simpa using List.all_eq_true.1 bd6 ps[k] (List.getElem_mem hlt)
      have hlr : wr.heap[w1.heap.size]? = some (.cells (Ls.cells ⟨l1, l2, l3, l4, l5, l6⟩) 278) := (hBM.block _ (by omega)).trans hl1
      have ⟨p0, p1, p2, p3, p4, p5, _, _, _, _, _, _⟩ := list_facts hlr
      simp only at p0 p1 p2 p3 p4 p5
      generalize hpe : ps[k] = pe at hcx hsm
      clear hlr
      have hcy := fun o => (World.cell?_alloc_lt wr o (⟨w1.heap.size + 1, k, none⟩ : Addr) (by show w1.heap.size + 1 < _; omega)).trans hcx
      have p0y := fun o => (World.cell?_alloc_lt wr o (⟨w1.heap.size, 0, none⟩ : Addr) (by show w1.heap.size < _; omega)).trans p0
      go_wp2
      go_region
      have ho2 := (ho.alloc (.cells #[.string (l2 ++ pe), .int .i64 l3, .string l4, .string l5] 203)).drew
      obtain ⟨w2, hu, hown2, hg⟩ := ho2.update law Tryz.underlying113 (by unfold maxLen; omega) (keyOf_int_mk Tryz.underlying3 (WalkArith.wf_i64 (⟨by omega, by omega⟩ : -9223372036854775808 ≤ l1 + (k : Int) ∧ l1 + (k : Int) ≤ 9223372036854775807))) (infoRead_mk (l2 ++ pe) l3 l4 l5)
      have hD : (mapD ⟨l1, l2, l3, l4, l5, l6⟩ k).put (.int .i64 (l1 + k)) (infoD (l2 ++ pe) l3 l4 l5) = mapD ⟨l1, l2, l3, l4, l5, l6⟩ (k + 1) := by
        show _ = (mapD ⟨l1, l2, l3, l4, l5, l6⟩ k).put (.int .i64 (l1 + k)) (infoD (l2 ++ (Ls.parts ⟨l1, l2, l3, l4, l5, l6⟩).getD k ByteArray.empty) l3 l4 l5)
        rw [hps, List.getD_eq_getElem?_getD, List.getElem?_eq_getElem hlt, hpe]
        rfl
      rw [hD] at hown2
      have hB2 : Below (w1.heap.size + 1 + 1) W3 w2 := ((hBM.alloc (by omega) (.cells #[.string (l2 ++ pe), .int .i64 l3, .string l4, .string l5] 203)).drew).grown hg (Nat.le_trans (Nat.le_of_lt hsM) (by show wr.heap.size ≤ (wr.alloc _).heap.size; simp)) (fun j hj => by cases hj; exact Nat.le_refl _)
      have hs2 : w1.heap.size + 1 + 1 < w2.heap.size := Nat.lt_of_lt_of_le hsM (Nat.le_trans (by show wr.heap.size ≤ (wr.alloc _).heap.size; simp) hg.size)
      clear ho ho2 hg hD hBM hsM hpe hcx hcy p0 p1 p2 p3 p4 p5
      go_wp2
      go_roundw
      case rel => exact ⟨k + 1, by omega, by go_num, hown2, hB2, hs2⟩
      case measure => simp [Go.RowKit.intOf]; omega
    · obtain rfl : k = ps.length := by omega
      have hz : infoRead (H := Unit) (.agg #[.string ⟨#[]⟩, .int .i64 0, .string ⟨#[]⟩, .string ⟨#[]⟩]) = some (infoD ⟨#[]⟩ 0 ⟨#[]⟩ ⟨#[]⟩, []) := rfl
      obtain ⟨v, vp, hlk, hv⟩ := ho.look_ok law Tryz.underlying113 (info_zero wr) hz (keyOf_int_mk Tryz.underlying3 (WalkArith.wf_i64 (⟨h0, h1⟩ : -9223372036854775808 ≤ code ∧ code ≤ 9223372036854775807)))
      have hm := mapD_row ⟨l1, l2, l3, l4, l5, l6⟩ code
      rw [hps] at hm
      rw [hm.1] at hlk
      rw [hm.2] at hv
      have hvv : v = infoVal (rowIn ⟨l1, l2, l3, l4, l5, l6⟩ code) := by
        cases hrow : rowIn ⟨l1, l2, l3, l4, l5, l6⟩ code with
        | none => rw [hrow] at hv; exact infoRead_inv hv
        | some r => rw [hrow] at hv; exact infoRead_inv hv
      subst hvv
      clear hv hm hz
      obtain ⟨vn, vs, vp2, vr, hI⟩ : ∃ n s p r, infoVal (rowIn ⟨l1, l2, l3, l4, l5, l6⟩ code) = .agg #[.string n, .int .i64 s, .string p, .string r] := by
        cases rowIn ⟨l1, l2, l3, l4, l5, l6⟩ code
        · exact ⟨_, _, _, _, rfl⟩
        · exact ⟨_, _, _, _, rfl⟩
      rw [hI] at hlk
      obtain ⟨ok, hok⟩ : ∃ ok, (rowIn ⟨l1, l2, l3, l4, l5, l6⟩ code).isSome = ok := ⟨_, rfl⟩
      rw [hok] at hlk
      have HI := Lib.hid hI
      have HO := Lib.hid hok
      have hfr : ∀ j, wr.cell? ⟨w.heap.size, j, none⟩ = w1.cell? ⟨w.heap.size, j, none⟩ := fun j => (hBM.cell (p := ⟨w.heap.size, j, none⟩) (by have := hB.size; show w.heap.size < _; omega)).trans (hr j)
      have hff : ∀ j, wr.frozen? ⟨w.heap.size, j, none⟩ = w1.frozen? ⟨w.heap.size, j, none⟩ := fun j => (hBM.frozen (p := ⟨w.heap.size, j, none⟩) (by have := hB.size; show w.heap.size < _; omega)).trans (hrf j)
      obtain ⟨r0, r1, r2, r3, z0, z1, z2, z3⟩ := hR
      have r0' := (hfr 0).trans r0
      have r1' := (hfr 1).trans r1
      have r2' := (hfr 2).trans r2
      have r3' := (hfr 3).trans r3
      have z0' := (hff 0).trans z0
      have z1' := (hff 1).trans z1
      have z2' := (hff 2).trans z2
      have z3' := (hff 3).trans z3
      have hBr : Below w.heap.size w wr := hB3.trans (hBM.mono (by have := hB.size; omega))
      have hwlt : w.heap.size < wr.heap.size := by have := hB.size; omega
      have ha := fun o j => World.cell?_alloc_lt wr o (⟨w.heap.size, j, none⟩ : Addr) hwlt
      have r0a := fun o => (ha o 0).trans r0'
      have r1a := fun o => (ha o 1).trans r1'
      have r2a := fun o => (ha o 2).trans r2'
      have r3a := fun o => (ha o 3).trans r3'
      clear ha hfr hff r0 r1 r2 r3 z0 z1 z2 z3 hr hrf hI hok ho hBM
      go_wp2
      refine bodyPost_ret (v := .tuple #[.agg #[.string vn, .int .i64 vs, .string vp2, .string vr], .bool ok]) ?_ rfl ⟨by rw [HI.out, HO.out], ?_⟩
      · rw [results_cell_tmp rfl]; go_simp
      · exact ((((hBr.setCell (Nat.le_refl _) _).setCell (Nat.le_refl _) _).setCell (Nat.le_refl _) _).setCell (Nat.le_refl _) _).alloc (by simp [World.setCell]; omega) _
/-- What package op tells of a code is what the document's row tells. -/
theorem op_of (code : Int) (h0 : -9223372036854775808 ≤ code) (h1 : code ≤ 9223372036854775807) (w : World) (hL : Spaces w) :
    Calls Tryz.prog 173 #[.int .i64 code] w fun e w' => e = .returned (.tuple #[infoVal (byCode code), .bool (byCode code).isSome]) ∧ Below w.heap.size w w' := by
  have c := of_raw code h0 h1 _ rfl w hL
  rwa [near_row] at c
end Go.Proofs.YtpamchagidnijaaGreatDoor
