/- dev only: what the pruned base lacks -/
import Derived.Test.YtmfhnmfgbneplaaGreatDoorValMod
namespace Go.Proofs.YtmfhnmfgbneplaaGreatDoor
open Go.RowKit
set_option linter.unusedVariables false
set_option linter.unusedSimpArgs false
theorem rows_block {α : Type} {w : World} {b : Nat} {cs : Array Value} {t : TypeId} {c : Nat} {row : α → List Value} {l : List α} (h : w.heap[b]? = some (.cells cs t)) (hl : l.flatMap row = cs.toList) (hc : ∀ x ∈ l, (row x).length = c) : RowsAt w (some ⟨b, 0, none⟩) c row l := by
  intro j hj i v hv
  refine ⟨b, 0, rfl, heap_in h, ?_⟩
  have hi : i < c := by
    have := hc l[j] (List.getElem_mem hj)
    have h2 := (List.getElem?_eq_some_iff.1 hv).1
    omega
  have := flat_at i hi l hc j hj
  rw [hl, hv] at this
  simp only [Array.getElem?_toList] at this
  simp [World.cell?, h, this]
theorem code_cells (code : List PI) : (code.map insOf).flatMap InsV.row = codeCells code := by
  induction code with
  | nil => rfl
  | cons x l ih =>
    have e : codeCells (x :: l) = x.cells ++ codeCells l := rfl
    rw [List.map_cons, List.flatMap_cons, ih, e]; rfl
theorem MadeAt.insAt {w : World} {x : PI} (h : rightPI x = true) : InsAt w (insOf x) := by
  unfold rightPI at h
  simp only [Bool.and_eq_true, decide_eq_true_eq] at h
  obtain ⟨h1, h2⟩ := h
  unfold rightOf at h1
  have hop : inI64 x.op := by
    cases e : byCode x.op with
    | none => rw [e] at h1; cases h1
    | some r =>
      have hb := byCode_bd e
      have hc : r.code = x.op := by
        have := List.find?_some e
        simpa using this
      unfold inI64; omega
  have hb : inI64 x.b := by
    cases e : byCode x.op with
    | none => rw [e] at h1; cases h1
    | some r =>
      rw [e] at h1
      simp only at h1
      split at h1
      · cases h1
      · rename_i hnb
        by_cases hz : x.b = 0
        · rw [hz]; unfold inI64; omega
        · have h5 : r.shape = 5 := by
            by_cases h5 : r.shape = 5
            · exact h5
            · exact absurd ⟨hz, h5⟩ hnb
          simp [h5, word] at h1
          unfold inI64; omega
  exact ⟨fun j hj => absurd hj (by simp [insOf]), by simp [insOf], hop, h2, hb, fun n hn => by simp [insOf] at hn⟩
theorem MadeAt.codeAt {w : World} {lo H : Nat} {pc : Option Addr} {cc : Nat} {code : List PI} {mx i0 i1 ix : Int} (h : MadeAt w lo H pc cc code mx i0 i1 ix) : CodeAt w pc (code.map insOf) := by
  refine ⟨rows_own (by rw [code_cells]; exact h.owned) (by simp) (fun x _ => rfl), fun x hx => ?_, by have := h.most; simp; omega⟩
  obtain ⟨y, hy, rfl⟩ := List.mem_map.1 hx
  exact MadeAt.insAt (h.right y hy)
theorem MadeAt.modAt {w : World} {lo H : Nat} {pc : Option Addr} {cc : Nat} {code : List PI} {mx i0 i1 ix st : Int} (h : MadeAt w lo H pc cc code mx i0 i1 ix) (h1 : inI64 mx) (h2 : inI64 i0) (h3 : inI64 i1) (h4 : inI64 ix) (h5 : inI64 st) : ModAt w (madeV H pc cc code mx i0 i1 ix st) where
  types := rows_block h.types rfl (fun x _ => rfl)
  typesIn := by intro t ht; rw [List.mem_singleton.1 ht]; exact ⟨by decide, by decide⟩
  typesMost := by show 1 ≤ mostThings; decide
  funcs := rows_block h.funcs (by simp [madeV, madeF, FnV.row]) (fun x _ => rfl)
  funcsIn := by intro f hf; rw [List.mem_singleton.1 hf]; exact ⟨h.codeAt, (by show 2 ≤ maxLen; decide), (by show inI64 0; decide)⟩
  funcsMost := by show 1 ≤ mostThings; decide
  memory := rows_block h.memory rfl (fun x _ => rfl)
  memoryIn := by intro t ht; rw [List.mem_singleton.1 ht]; exact ⟨(by show inI64 1; decide), h1⟩
  memoryMost := by show 1 ≤ mostThings; decide
  globals := rows_block h.globals rfl (fun x _ => rfl)
  globalsIn := by
    intro t ht
    rcases List.mem_cons.1 ht with rfl | ht
    · exact ⟨(by show inI64 127; decide), h2⟩
    · rw [List.mem_singleton.1 ht]; exact ⟨(by show inI64 126; decide), h3⟩
  globalsMost := by show 2 ≤ mostThings; decide
  exports := rows_block h.exports rfl (fun x _ => rfl)
  exportsIn := by intro t ht; rw [List.mem_singleton.1 ht]; exact ⟨(by show 1 ≤ maxLen; decide), (by show inI64 0; decide), h4⟩
  exportsMost := by show 1 ≤ mostThings; decide
  startIn := h5
  data := rows_block h.data rfl (fun x _ => rfl)
  dataIn := by intro t ht; rw [List.mem_singleton.1 ht]; exact ⟨(by show inI64 100; decide), (by show 10 ≤ maxLen; decide)⟩
  dataMost := by show 1 ≤ mostThings; decide
end Go.Proofs.YtmfhnmfgbneplaaGreatDoor
