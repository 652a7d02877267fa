/-
  What a store into made's module makes of it; and made's module with another list of types. Plain; no statement is proved here.
-/
import Derived.Test.YtnonedmkdcbmfaaGreatDoorZModHead
namespace Go.Proofs.YtnonedmkdcbmfaaGreatDoor
open Go.RowKit

theorem MadeAt.keeps {w : World} {lo H : Nat} {pc : Option Addr} {cc : Nat} {code : List PI} {mx i0 i1 ix : Int} (h : MadeAt w lo H pc cc code mx i0 i1 ix) (j o : Nat) (hj : j < 6) (v : Value) :
    (∀ i, i < 6 → i ≠ j → (w.setCell ⟨H + j, o, none⟩ v).heap[H + i]? = w.heap[H + i]?) ∧ (w.setCell ⟨H + j, o, none⟩ v).ownsRow lo 40 4 (.slice pc code.length cc) code.length (codeCells code) ∧ (w.setCell ⟨H + j, o, none⟩ v).heap.size = w.heap.size := by
  refine ⟨fun i _ hne => Below.heap_setCell w _ _ _ (by show H + i ≠ H + j; omega), ?_, by simp [World.setCell]⟩
  refine h.owned.kept (cell_grow1 w (H + j) o v) ?_
  cases hv : (Value.slice pc code.length cc).ownBlock with
  | none => exact .inl rfl
  | some b => exact .inr fun e => by injection e with e; have := h.ahead b hv; omega
theorem MadeAt.setIx {w : World} {lo H : Nat} {pc : Option Addr} {cc : Nat} {code : List PI} {mx i0 i1 ix : Int} (h : MadeAt w lo H pc cc code mx i0 i1 ix) (n : Int) : MadeAt (w.setCell ⟨H + 4, 2, none⟩ (.int .i64 n)) lo H pc cc code mx i0 i1 n := by
  obtain ⟨k, ho, hs⟩ := h.keeps 4 2 (by omega) (.int .i64 n)
  exact { h with size := hs ▸ h.size, types := (k 0 (by omega) (by omega)).trans h.types, funcs := (k 1 (by omega) (by omega)).trans h.funcs, memory := (k 2 (by omega) (by omega)).trans h.memory, globals := (k 3 (by omega) (by omega)).trans h.globals, data := (k 5 (by omega) (by omega)).trans h.data, owned := ho, exports := heap_setCell_same w _ 2 _ _ _ h.exports }
theorem MadeAt.setI0 {w : World} {lo H : Nat} {pc : Option Addr} {cc : Nat} {code : List PI} {mx i0 i1 ix : Int} (h : MadeAt w lo H pc cc code mx i0 i1 ix) (n : Int) : MadeAt (w.setCell ⟨H + 3, 2, none⟩ (.int .i64 n)) lo H pc cc code mx n i1 ix := by
  obtain ⟨k, ho, hs⟩ := h.keeps 3 2 (by omega) (.int .i64 n)
  exact { h with size := hs ▸ h.size, types := (k 0 (by omega) (by omega)).trans h.types, funcs := (k 1 (by omega) (by omega)).trans h.funcs, memory := (k 2 (by omega) (by omega)).trans h.memory, exports := (k 4 (by omega) (by omega)).trans h.exports, data := (k 5 (by omega) (by omega)).trans h.data, owned := ho, globals := heap_setCell_same w _ 2 _ _ _ h.globals }
theorem MadeAt.setI1 {w : World} {lo H : Nat} {pc : Option Addr} {cc : Nat} {code : List PI} {mx i0 i1 ix : Int} (h : MadeAt w lo H pc cc code mx i0 i1 ix) (n : Int) : MadeAt (w.setCell ⟨H + 3, 5, none⟩ (.int .i64 n)) lo H pc cc code mx i0 n ix := by
  obtain ⟨k, ho, hs⟩ := h.keeps 3 5 (by omega) (.int .i64 n)
  exact { h with size := hs ▸ h.size, types := (k 0 (by omega) (by omega)).trans h.types, funcs := (k 1 (by omega) (by omega)).trans h.funcs, memory := (k 2 (by omega) (by omega)).trans h.memory, exports := (k 4 (by omega) (by omega)).trans h.exports, data := (k 5 (by omega) (by omega)).trans h.data, owned := ho, globals := heap_setCell_same w _ 5 _ _ _ h.globals }
theorem MadeAt.setMx {w : World} {lo H : Nat} {pc : Option Addr} {cc : Nat} {code : List PI} {mx i0 i1 ix : Int} (h : MadeAt w lo H pc cc code mx i0 i1 ix) (n : Int) : MadeAt (w.setCell ⟨H + 2, 1, none⟩ (.int .i64 n)) lo H pc cc code n i0 i1 ix := by
  obtain ⟨k, ho, hs⟩ := h.keeps 2 1 (by omega) (.int .i64 n)
  exact { h with size := hs ▸ h.size, types := (k 0 (by omega) (by omega)).trans h.types, funcs := (k 1 (by omega) (by omega)).trans h.funcs, globals := (k 3 (by omega) (by omega)).trans h.globals, exports := (k 4 (by omega) (by omega)).trans h.exports, data := (k 5 (by omega) (by omega)).trans h.data, owned := ho, memory := heap_setCell_same w _ 1 _ _ _ h.memory }
/-- What a walk reads of it. -/
theorem MadeAt.reads {w : World} {lo H : Nat} {pc : Option Addr} {cc : Nat} {code : List PI} {mx i0 i1 ix : Int} (h : MadeAt w lo H pc cc code mx i0 i1 ix) (o : Obj) :
    (w.alloc o).cell? ⟨H + 4, 2, none⟩ = some (.int .i64 ix) ∧ (w.alloc o).frozen? ⟨H + 4, 2, none⟩ = false ∧ (w.alloc o).cell? ⟨H + 3, 2, none⟩ = some (.int .i64 i0) ∧ (w.alloc o).frozen? ⟨H + 3, 2, none⟩ = false ∧ (w.alloc o).cell? ⟨H + 3, 5, none⟩ = some (.int .i64 i1) ∧ (w.alloc o).frozen? ⟨H + 3, 5, none⟩ = false ∧ (w.alloc o).cell? ⟨H + 2, 1, none⟩ = some (.int .i64 mx) ∧ (w.alloc o).frozen? ⟨H + 2, 1, none⟩ = false := by
  have hs := h.size
  have e4 := (Below.heap_alloc w o (H + 4) (by omega)).trans h.exports
  have e3 := (Below.heap_alloc w o (H + 3) (by omega)).trans h.globals
  have e2 := (Below.heap_alloc w o (H + 2) (by omega)).trans h.memory
  refine ⟨?_, ?_, ?_, ?_, ?_, ?_, ?_, ?_⟩ <;> simp [World.cell?, World.frozen?, e2, e3, e4]
/-- Is it right, whatever its numbers are? -/
theorem made_rights {W : World} (hL : Laid W) {lo H : Nat} {pc : Option Addr} {cc : Nat} {code : List PI} {mx i0 i1 ix st : Int} (hM : MadeAt W lo H pc cc code mx i0 i1 ix) (h1 : inI64 mx) (h2 : inI64 i0) (h3 : inI64 i1) (h4 : inI64 ix) (h5 : inI64 st) {v : Bool} (hv : ((decide (st = -1) || word4 st) && ((decide (mx = -1) || word4 mx) && (small4 i0 && word4 ix))) = v) :
    Calls Tryz.prog 11 #[.agg #[.slice (some ⟨H, 0, none⟩) 1 1, .slice (some ⟨H + 1, 0, none⟩) 1 1, .slice (some ⟨H + 2, 0, none⟩) 1 1, .slice (some ⟨H + 3, 0, none⟩) 2 2, .slice (some ⟨H + 4, 0, none⟩) 1 1, .int .i64 st, .slice (some ⟨H + 5, 0, none⟩) 1 1]] W fun e w' => e = .returned (.bool v) ∧ Below W.heap.size W w' := by
  have h := mod_right (madeV H pc cc code mx i0 i1 ix st) W hL (hM.modAt h1 h2 h3 h4 h5)
  rw [hM.rights, hv] at h
  exact h
def noTy : TyV := ⟨⟨#[]⟩, ⟨#[]⟩⟩
/-- Its list of types is another one, of so many empty ones. -/
theorem made_types {W : World} (hL : Laid W) {lo H : Nat} {pc : Option Addr} {cc : Nat} {code : List PI} (hM : MadeAt W lo H pc cc code 2 5 (-5) 0) (q : Option Addr) (k qc : Nat) (hk : k ≤ 5000) (hT : RowsAt W q 2 TyV.row (List.replicate k noTy)) :
    Calls Tryz.prog 11 #[.agg #[.slice q k qc, .slice (some ⟨H + 1, 0, none⟩) 1 1, .slice (some ⟨H + 2, 0, none⟩) 1 1, .slice (some ⟨H + 3, 0, none⟩) 2 2, .slice (some ⟨H + 4, 0, none⟩) 1 1, .int .i64 (-1), .slice (some ⟨H + 5, 0, none⟩) 1 1]] W fun e w' => e = .returned (.bool (decide (k ≤ 4096))) ∧ Below W.heap.size W w' := by
  have hA := hM.modAt (st := -1) (by decide) (by decide) (by decide) (by decide) (by decide)
  have hm : ModAt W { madeV H pc cc code 2 5 (-5) 0 (-1) with tp := q, tc := qc, types := List.replicate k noTy } :=
    { hA with types := hT, typesIn := fun t ht => by rw [(List.mem_replicate.1 ht).2]; exact ⟨by decide, by decide⟩, typesMost := by simp [mostThings]; omega }
  have h := mod_right _ W hL hm
  have hr := hM.rights (st := -1)
  have e : rightMod { madeV H pc cc code 2 5 (-5) 0 (-1) with tp := q, tc := qc, types := List.replicate k noTy } = decide (k ≤ 4096) := by
    have h0 : rightMod (madeV H pc cc code 2 5 (-5) 0 (-1)) = true := by rw [hr]; decide
    unfold rightMod at h0 ⊢
    simp only [Bool.and_eq_true, decide_eq_true_eq] at h0
    obtain ⟨hf, h1, h2, h3, h4, h5, h6⟩ := h0
    simp only [h2, h3, h4, h5, h6]
    have ht : (List.replicate k noTy).all rightTy = true := by
      refine List.all_eq_true.2 fun t ht => ?_
      rw [(List.mem_replicate.1 ht).2]; decide
    rw [ht]
    simp only [Bool.and_true]
    refine decide_eq_decide.2 ⟨fun h => by have := h.1; simpa using this, fun h => ⟨by simpa using h, hf.2⟩⟩
  rw [e] at h
  have hl : (List.replicate k noTy).length = k := by simp
  simp only [MoV.val, hl] at h
  exact h
end Go.Proofs.YtnonedmkdcbmfaaGreatDoor

/-
  The statement on what has no room in a module: another list of types. Only its frame proves it.
-/
namespace Go.Proofs.YtnonedmkdcbmfaaGreatDoor
open Go.RowKit
set_option linter.unusedVariables false
set_option linter.unusedVariables false
set_option linter.unusedVariables false
set_option linter.unusedVariables false
set_option linter.unusedVariables false
theorem StepsAt.take {w : World} {p : Option Addr} {l : List StepV} (h : StepsAt w p l) (k : Nat) : StepsAt w p (l.take k) :=
  ⟨fun j hj i v hv => by
    have hj' : j < l.length := by simp at hj; omega
    rw [List.getElem_take] at hv
    exact h.rows j hj' i v hv, fun x hx => h.within x (List.mem_of_mem_take hx), by have := h.most; simp; omega⟩
theorem min_nat (ln : Nat) : min 20 ln = (min (ln : Int) 20).toNat := by omega
theorem zero_ty : (Tryz.prog.info? 70).map (fun i => (i.zero, i.size, i.bytes)) = some (some (.agg #[.string ⟨#[]⟩, .string ⟨#[]⟩]), 2, 32) := by kernel_rfl
theorem flat_none : ∀ k : Nat, (List.replicate k noTy).flatMap TyV.row = List.replicate (k * 2) (.string ⟨#[]⟩)
  | 0 => rfl
  | k + 1 => by
    rw [List.replicate_succ, List.flatMap_cons, flat_none k, show (k + 1) * 2 = (k * 2 + 1) + 1 by omega, List.replicate_succ, List.replicate_succ]
    rfl
theorem made_none (k : Nat) : (madeCells #[Value.string ⟨#[]⟩, Value.string ⟨#[]⟩] (k * 2)).toList = (List.replicate k noTy).flatMap TyV.row := by
  rw [flat_none]
  refine List.eq_replicate_iff.2 ⟨by simp [madeCells], fun v hv => ?_⟩
  unfold madeCells at hv
  simp only [Array.toList_map, List.mem_map] at hv
  obtain ⟨x, _, rfl⟩ := hv
  show (#[Value.string ⟨#[]⟩, Value.string ⟨#[]⟩] : Array Value)[x % 2]! = _
  have hx : x % 2 = 0 ∨ x % 2 = 1 := by omega
  rcases hx with h | h <;> rw [h] <;> rfl
set_option maxRecDepth 100000 in
set_option maxHeartbeats 8000000 in
theorem limits_5 (p : Option Addr) (c : Nat) (l : List StepV) (hc : l.length ≤ c) (which n : Int) (hw : 0 ≤ which ∧ which < 256) (hK : which % 6 = 5) (hn : inI64 n) (w : World) (hLaid : Laid w) (hS : StepsAt w p l) :
    Calls Tryz.prog 9 #[.slice p l.length c, .int .u8 which, .int .i64 n] w fun e w' => e = .returned (.bool true) ∧ Below w.heap.size w w' := by
  have cH := head_mod w hLaid
  have hl := hS.most
  unfold mostThings at hl
  have cM := fun W (hW : Below w.heap.size w W) => made_of p c (l.take 20) W ((hS.below hW (Nat.le_refl _)).take 20)
  simp only [List.length_take, min_nat, madeV_val] at cM
  clear hS
  unfold inI64 at hn
  obtain ⟨j, hj, hj5⟩ : ∃ j : Nat, n % 18446744073709551616 % 5000 = j ∧ j < 5000 := ⟨(n % 18446744073709551616 % 5000).toNat, by omega, by omega⟩
  obtain ⟨u, hu0⟩ : ∃ u, n % 18446744073709551616 = u := ⟨_, rfl⟩
  have hu : IntKind.u64.wrap n = u := (IntKind.wrap_u64 n).trans hu0
  rw [hu0] at hj
  have hub : 0 ≤ u ∧ u < 18446744073709551616 := by omega
  obtain ⟨i0, hi, hz0, hz1, hz2⟩ := info_parts zero_ty
  generalize l.length = ln at *
  have hj4 : ((j : Int) ≤ 4096) = (j ≤ 4096) := propext (by omega)
  have hr : (0 ≤ n ∧ n < 4294967296) ∨ (0 ≤ n ∧ ¬ n < 4294967296) ∨ ¬ 0 ≤ n := by omega
  clear hu0
  rcases hr with ⟨r1, r2⟩ | ⟨r1, r2⟩ | r1
  all_goals
    go_enter Tryz.func9, Tryz.ntmps9
    go_wp2_with (first
      | (go_at_call 10; refine cH.mono ?_; rintro e w1 ⟨rfl, hB1⟩)
      | (go_at_call 21; (with_reducible refine (cM _ hB1).mono ?_); rintro e w2 ⟨H, pc, cc, code, rfl, hM, hne, hb2⟩; have hB2 := belt hB1 (Nat.le_refl _) hb2; have hlo : w.heap.size ≤ H := (by have := hM.from0; have := hB1.size; omega))
      | (at_make; refine wpList_make_full _ rfl (.tmp 32) (.tmp 32) 22 rfl (w2.heap.size + 1) 70 i0 (.agg #[.string ⟨#[]⟩, .string ⟨#[]⟩]) 2 Tryz.underlying22 hi hz0 hz1 .i64 .i64 _ _ j rfl rfl rfl rfl (by rw [hz2]; omega) (by unfold maxLen; omega) (by simp) ?_))
    intro w3 hown hgr
    have hbox := (Below.refl _ _).grown hgr (Nat.le_refl _) (fun k e => by cases e)
    obtain ⟨⟨k0, k1, k2, k3, k4, k5, k6⟩, hBX, hB3⟩ := box_mod hbox
    have f0 : w3.frozen? ⟨w2.heap.size, 0, none⟩ = false := by simp [World.frozen?, hBX]
    rw [made_none] at hown
    try simp only [World.size_alloc] at hown
    have hZ := hM.size
    have HOWN := Lib.hid hown
    clear hbox hgr hBX hb2 hown
    go_wp2_with (go_at_call 11; refine (made_types (hLaid.below ((belt hB2 (Nat.le_refl _) hB3).setCell (by show w.heap.size ≤ w2.heap.size; omega) _)) ((hM.below hB3).on (cell_grown _ _ _ _) (.inr hZ)) _ j j (by omega) (rows_own (ownsRow_setCell_below HOWN.out (by show w2.heap.size < w2.heap.size + 1; omega) _) (by simp) (fun _ _ => rfl))).mono ?_; rintro e w4 ⟨rfl, hb4⟩)
    go_ret
    refine ⟨?_, belt ((belt hB2 (Nat.le_refl _) hB3).setCell (by show w.heap.size ≤ w2.heap.size; omega) _) (Nat.le_refl _) hb4⟩
    first | rfl | simp
end Go.Proofs.YtnonedmkdcbmfaaGreatDoor
