/-
  The document's own look-ups among the instructions, by code and by name: walked. Contracts that the proofs call; no statement is proved here.
-/
import Derived.Test.YtjpcobfaojjceaaDoorOpRefAll
import Derived.Laws.ResultCell
namespace Go.Proofs.YtjpcobfaojjceaaDoor
open Go.RowKit

theorem cellsOf_at : ∀ (l : List Rw) (k j : Nat) (hk : k < l.length), j < 5 → (cellsOf l)[k * 5 + j]? = (l[k]).cells[j]?
  | [], k, _, hk, _ => by simp at hk
  | r :: l, 0, j, _, hj => by
    rw [show cellsOf (r :: l) = r.cells ++ cellsOf l from rfl, Nat.zero_mul, Nat.zero_add, List.getElem?_append_left (by simp [Rw.cells]; omega)]
    rfl
  | r :: l, k + 1, j, hk, hj => by
    have ih := cellsOf_at l k j (by simpa using hk) hj
    rw [show cellsOf (r :: l) = r.cells ++ cellsOf l from rfl, List.getElem?_append_right (by simp [Rw.cells]; omega)]
    rw [show (k + 1) * 5 + j - r.cells.length = k * 5 + j by simp [Rw.cells]; omega, ih]
    simp

/-- What is told of a row, or of none. -/
def infoVal : Option Rw → Value
  | some r => .agg #[.string r.name, .int .i64 r.shape, .string r.params, .string r.results]
  | none => .agg #[.string ⟨#[]⟩, .int .i64 0, .string ⟨#[]⟩, .string ⟨#[]⟩]
def byCode (code : Int) : Option Rw := allRows.find? fun r => r.code == code
def byName (name : ByteArray) : Option Rw := allRows.find? fun r => decide (r.name = name)
def codeOf : Option Rw → Int
  | some r => r.code
  | none => 0

theorem find_drop {α : Type} {p : α → Bool} {l : List α} {k : Nat} (h : k < l.length) : (l.drop k).find? p = if p l[k] then some l[k] else (l.drop (k + 1)).find? p := by
  rw [List.drop_eq_getElem_cons h, List.find?_cons]
  cases p l[k] <;> rfl
theorem allRows_bd : ∀ r ∈ allRows, 0 ≤ r.code ∧ r.code ≤ 255 ∧ 0 ≤ r.shape ∧ r.shape ≤ 7 ∧ r.name.size ≤ 30 ∧ r.params.size ≤ 2 ∧ r.results.size ≤ 1 := by decide +kernel

/-- The cells of row k, where the whole list lies. -/
theorem row_cells {w : World} {g k : Nat} (hc : ∀ j u, (cellsOf allRows)[j]? = some u → w.cell? ((⟨g, 0, none⟩ : Addr).add j) = some u) (hk : k < allRows.length) (j : Nat) (u : Value) (hu : (allRows[k]).cells[j]? = some u) (hj : j < 5) : w.cell? ⟨g, k * 5 + j, none⟩ = some u := by
  have h := hc (k * 5 + j) u (by rw [cellsOf_at allRows k j hk hj]; exact hu)
  have e1 : ((⟨g, 0, none⟩ : Addr).add (k * 5 + j)) = ⟨g, k * 5 + j, none⟩ := by
    unfold Addr.add; split
    · rename_i h0; rw [h0]
    · simp
  rwa [e1] at h

theorem name_ne {a b : ByteArray} (h : ¬ a = b) : (a.toList == b.toList) = false := by
  refine beq_eq_false_iff_ne.2 fun e => h ?_
  obtain ⟨⟨x⟩⟩ := a
  obtain ⟨⟨y⟩⟩ := b
  rw [ByteArray.toList_mk, ByteArray.toList_mk] at e
  rw [e]
theorem name_eq {a b : ByteArray} (h : (a.toList == b.toList) = true) : a = b := by
  refine Decidable.byContradiction fun hn => ?_
  rw [name_ne hn] at h; cases h

/-- The cells of the result, as they were laid. -/
theorem res_cells {w w1 : World} {a b c d : Value} {t : TypeId} (hB : Below (w.alloc (.cells #[a, b, c, d] t)).heap.size (w.alloc (.cells #[a, b, c, d] t)) w1) :
    w1.cell? ⟨w.heap.size, 0, none⟩ = some a ∧ w1.cell? ⟨w.heap.size, 1, none⟩ = some b ∧ w1.cell? ⟨w.heap.size, 2, none⟩ = some c ∧ w1.cell? ⟨w.heap.size, 3, none⟩ = some d ∧
    w1.frozen? ⟨w.heap.size, 0, none⟩ = false ∧ w1.frozen? ⟨w.heap.size, 1, none⟩ = false ∧ w1.frozen? ⟨w.heap.size, 2, none⟩ = false ∧ w1.frozen? ⟨w.heap.size, 3, none⟩ = false := by
  have hlt : w.heap.size < (w.alloc (.cells #[a, b, c, d] t)).heap.size := by simp
  have hc : ∀ j, w1.cell? ⟨w.heap.size, j, none⟩ = #[a, b, c, d][j]? := fun j => by rw [hB.cell (p := ⟨w.heap.size, j, none⟩) hlt, World.cell?_alloc_new]
  have hf : ∀ j, w1.frozen? ⟨w.heap.size, j, none⟩ = (w.alloc (.cells #[a, b, c, d] t)).frozen? ⟨w.heap.size, j, none⟩ := fun j => hB.frozen (p := ⟨w.heap.size, j, none⟩) hlt
  refine ⟨hc 0, hc 1, hc 2, hc 3, ?_, ?_, ?_, ?_⟩
  all_goals (rw [hf]; exact World.frozen?_alloc_new _ _ _ _)

set_option maxRecDepth 100000 in
set_option maxHeartbeats 2000000 in
theorem ref_of (code : Int) (w : World) :
    Calls Tryd.prog 10 #[.int .i64 code] w fun e w' => e = .returned (.tuple #[infoVal (byCode code), .bool (byCode code).isSome]) ∧ Below w.heap.size w w' := by
  obtain ⟨R, hR⟩ : ∃ R, R = byCode code := ⟨_, rfl⟩
  rw [← hR]
  have HR := Lib.hid hR
  clear hR
  go_enter Tryd.func10, Tryd.ntmps10
  go_wp2_with (go_at_call 19; refine (ref_all _).mono ?_; rintro e w1 ⟨v, rfl, hown, hB⟩)
  obtain ⟨g, c, rfl, _, hc⟩ := own_slice hown (by decide)
  clear hown
  go_wp2
  have hlen : allRows.length = 103 := allRows_len
  obtain ⟨r0, r1, r2, r3, z0, z1, z2, z3⟩ := res_cells hB
  have hs1 : w.heap.size < w1.heap.size := Nat.lt_of_lt_of_le (by simp) hB.size
  go_loop [5] (fun i => ∃ k : Nat, k ≤ 103 ∧ i = .int .i64 k ∧ Hid (R = (allRows.drop k).find? fun r => r.code == code)) (fun i => 103 - (intOf i).toNat)
  case atStart => exact ⟨0, by omega, rfl, HR⟩
  case round =>
    obtain ⟨k, hk, rfl, hF⟩ := hrel
    by_cases hlt : k < 103
    · have hlt' : k < allRows.length := hlt
      have hf := hF.out
      rw [find_drop hlt'] at hf
      have hbd := allRows_bd allRows[k] (List.getElem_mem hlt')
      have c0 : w1.cell? ⟨g, k * 5, none⟩ = some (.int .i64 allRows[k].code) := row_cells hc hlt' 0 _ rfl (by decide)
      have c1 := row_cells hc hlt' 1 _ rfl (by decide)
      have c2 := row_cells hc hlt' 2 _ rfl (by decide)
      have c3 := row_cells hc hlt' 3 _ rfl (by decide)
      have c4 := row_cells hc hlt' 4 _ rfl (by decide)
      generalize allRows[k] = r at *
      obtain ⟨rc, rn, rs, rp, rr⟩ := r
      simp only at c0 c1 c2 c3 c4 hbd hf
      by_cases he : rc = code
      · simp only [he, beq_self_eq_true, if_true] at hf
        have HF := Lib.hid hf
        clear hf
        subst he
        go_wp2
        (try simp only [Exit.inBlock, Exit.then])
        refine bodyPost_ret (v := .tuple #[.agg #[.string rn, .int .i64 rs, .string rp, .string rr], .bool true]) ?_ rfl ⟨?_, ?_⟩
        · rw [results_cell_tmp rfl]; go_simp
        · rw [HF.out]; rfl
        · exact ((((((Below.refl _ w).alloc (Nat.le_refl _) _).trans (hB.mono (by simp))).setCell (Nat.le_refl _) _).setCell (Nat.le_refl _) _).setCell (Nat.le_refl _) _).setCell (Nat.le_refl _) _
      · have hb : (rc == code) = false := by simp [he]
        simp only [hb] at hf
        have HF := Lib.hid hf
        clear hf
        go_wp2
        go_round
        case rel => exact ⟨k + 1, by omega, by go_num, HF⟩
        case measure => simp [intOf]; omega
    · have hk103 : k = 103 := by omega
      have hf := hF.out
      rw [List.drop_of_length_le (by omega)] at hf
      have HF := Lib.hid hf
      clear hf hk103
      go_wp2
      (try simp only [Exit.inBlock, Exit.then])
      refine bodyPost_ret (v := .tuple #[.agg #[.string ⟨#[]⟩, .int .i64 0, .string ⟨#[]⟩, .string ⟨#[]⟩], .bool false]) ?_ rfl ⟨?_, ?_⟩
      · rw [results_cell_tmp rfl]; go_simp
      · rw [HF.out]; rfl
      · exact ((((((Below.refl _ w).alloc (Nat.le_refl _) _).trans (hB.mono (by simp))).setCell (Nat.le_refl _) _).setCell (Nat.le_refl _) _).setCell (Nat.le_refl _) _).setCell (Nat.le_refl _) _

set_option maxRecDepth 100000 in
set_option maxHeartbeats 2000000 in
theorem ref_code (name : ByteArray) (w : World) :
    Calls Tryd.prog 12 #[.string name] w fun e w' => e = .returned (.tuple #[.int .i64 (codeOf (byName name)), .bool (byName name).isSome]) ∧ Below w.heap.size w w' := by
  obtain ⟨R, hR⟩ : ∃ R, R = byName name := ⟨_, rfl⟩
  rw [← hR]
  have HR := Lib.hid hR
  clear hR
  go_enter Tryd.func12, Tryd.ntmps12
  go_wp2_with (go_at_call 19; refine (ref_all _).mono ?_; rintro e w1 ⟨v, rfl, hown, hB⟩)
  obtain ⟨g, c, rfl, _, hc⟩ := own_slice hown (by decide)
  clear hown
  go_wp2
  have hlen : allRows.length = 103 := allRows_len
  go_loop [5] (fun i => ∃ k : Nat, k ≤ 103 ∧ i = .int .i64 k ∧ Hid (R = (allRows.drop k).find? fun r => decide (r.name = name))) (fun i => 103 - (intOf i).toNat)
  case atStart => exact ⟨0, by omega, rfl, HR⟩
  case round =>
    obtain ⟨k, hk, rfl, hF⟩ := hrel
    by_cases hlt : k < 103
    · have hlt' : k < allRows.length := hlt
      have hf := hF.out
      rw [find_drop hlt'] at hf
      have hbd := allRows_bd allRows[k] (List.getElem_mem hlt')
      have c0 : w1.cell? ⟨g, k * 5, none⟩ = some (.int .i64 allRows[k].code) := row_cells hc hlt' 0 _ rfl (by decide)
      have c1 := row_cells hc hlt' 1 _ rfl (by decide)
      generalize allRows[k] = r at *
      obtain ⟨rc, rn, rs, rp, rr⟩ := r
      simp only at c0 c1 hbd hf
      by_cases he : rn = name
      · rw [if_pos (by simp [he])] at hf
        have HF := Lib.hid hf
        clear hf
        subst he
        go_wp2
        go_ret2
        exact ⟨by rw [HF.out]; rfl, hB⟩
      · rw [if_neg (by simp [he])] at hf
        have hb := name_ne he
        have HF := Lib.hid hf
        clear hf
        go_wp2
        go_round
        case rel => exact ⟨k + 1, by omega, by go_num, HF⟩
        case measure => simp [intOf]; omega
    · have hk103 : k = 103 := by omega
      have hf := hF.out
      rw [List.drop_of_length_le (by omega)] at hf
      have HF := Lib.hid hf
      clear hf hk103
      go_wp2
      go_ret2
      exact ⟨by rw [HF.out]; rfl, hB⟩
end Go.Proofs.YtjpcobfaojjceaaDoor
