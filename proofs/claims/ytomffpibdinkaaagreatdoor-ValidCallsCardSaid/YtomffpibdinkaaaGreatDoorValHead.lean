/-
  The examples ahead of each statement of chapter 7: a contract that the proofs call; no statement is proved here.
-/
import Derived.Test.YtomffpibdinkaaaGreatDoorValMod
namespace Go.Proofs.YtomffpibdinkaaaGreatDoor
open Go.RowKit Go.Maps
set_option linter.unusedVariables false
set_option linter.unusedSimpArgs false

def f2 : List InsV := [⟨26, 0, 0, none, 0, []⟩, ⟨11, 0, 0, none, 0, []⟩]
def f3 : List InsV := [⟨2, 0, 0, none, 0, []⟩, ⟨3, 0, 0, none, 0, []⟩, ⟨11, 0, 0, none, 0, []⟩]
theorem f2_ok : ∀ x ∈ f2, x.lp = none ∧ x.ls = [] ∧ inI64 x.op ∧ inI64 x.a ∧ inI64 x.b := by
  intro x hx
  rcases List.mem_cons.1 hx with rfl | hx
  · exact ⟨rfl, rfl, ⟨by decide, by decide⟩, ⟨by decide, by decide⟩, ⟨by decide, by decide⟩⟩
  · cases List.mem_singleton.1 hx; exact ⟨rfl, rfl, ⟨by decide, by decide⟩, ⟨by decide, by decide⟩, ⟨by decide, by decide⟩⟩
theorem f3_ok : ∀ x ∈ f3, x.lp = none ∧ x.ls = [] ∧ inI64 x.op ∧ inI64 x.a ∧ inI64 x.b := by
  intro x hx
  rcases List.mem_cons.1 hx with rfl | hx
  · exact ⟨rfl, rfl, ⟨by decide, by decide⟩, ⟨by decide, by decide⟩, ⟨by decide, by decide⟩⟩
  rcases List.mem_cons.1 hx with rfl | hx
  · exact ⟨rfl, rfl, ⟨by decide, by decide⟩, ⟨by decide, by decide⟩, ⟨by decide, by decide⟩⟩
  · cases List.mem_singleton.1 hx; exact ⟨rfl, rfl, ⟨by decide, by decide⟩, ⟨by decide, by decide⟩, ⟨by decide, by decide⟩⟩
def l3 : List StepV := [⟨2, 0, 0, 0⟩, ⟨11, 0, 0, 3⟩, ⟨14, 0, 0, 0⟩]
theorem l3_mod (H : Nat) (pc : Option Addr) (cc : Nat) : modAns7 (madeV H pc cc (codeF l3) 2 5 (-5) 0 (-1)) = 0 := by kernel_rfl
theorem l3_fn (H : Nat) (pc : Option Addr) (cc : Nat) (p : Option Addr) (c : Nat) : funcAns (madeV H pc cc (codeF l3) 2 5 (-5) 0 (-1)) ⟨0, ⟨#[]⟩, p, c, f2⟩ = 4 := by kernel_rfl
theorem l3_len (pc : Option Addr) (cc : Nat) : (madeF pc cc (codeF l3)).code.length ≤ 400000 := Nat.le_of_ble_eq_true (by kernel_rfl)
def noMod (st : Int) : MoV := ⟨none, 0, [], none, 0, [], none, 0, [], none, 0, [], none, 0, [], st, none, 0, []⟩
theorem none_ok : modAns7 (noMod (-1)) = 0 := by kernel_rfl
theorem none_bad : modAns7 (noMod (-5)) = 1 := by kernel_rfl
theorem madeV_val7 (H : Nat) (pc : Option Addr) (cc : Nat) (code : List PI) : (madeV H pc cc code 2 5 (-5) 0 (-1)).val = .agg #[.slice (some ⟨H, 0, none⟩) 1 1, .slice (some ⟨H + 1, 0, none⟩) 1 1, .slice (some ⟨H + 2, 0, none⟩) 1 1, .slice (some ⟨H + 3, 0, none⟩) 2 2, .slice (some ⟨H + 4, 0, none⟩) 1 1, .int .i64 (-1), .slice (some ⟨H + 5, 0, none⟩) 1 1] := rfl
theorem nest_ex : nest7 [2, 3, 11] 0 0 = 2 := by kernel_rfl
/-- Instructions that were just laid. -/
theorem code_new {W : World} {g : Nat} {l : List InsV} {t : TypeId} (h : W.heap[g]? = some (.cells (l.flatMap InsV.row).toArray t)) (hl : ∀ x ∈ l, x.lp = none ∧ x.ls = [] ∧ inI64 x.op ∧ inI64 x.a ∧ inI64 x.b) (hn : l.length ≤ 4398046511104) : CodeAt W (some ⟨g, 0, none⟩) l := by
  refine ⟨fun j hj i v hv => ⟨g, 0, rfl, in_heap7 h, ?_⟩, fun x hx => ?_, hn⟩
  · rw [World.cell?, h]
    have hi : i < 4 := by
      have : i < (InsV.row l[j]).length := by
        by_cases hq : i < (InsV.row l[j]).length
        · exact hq
        · rw [List.getElem?_eq_none (by omega)] at hv; cases hv
      simpa [InsV.row] using this
    have e : ∀ (l : List InsV) (j : Nat) (hj : j < l.length), (l.flatMap InsV.row)[j * 4 + i]? = (InsV.row l[j])[i]? := by
      intro l
      induction l with
      | nil => intro j hj; cases hj
      | cons x l ih =>
        intro j hj
        rw [List.flatMap_cons]
        cases j with
        | zero =>
          rw [List.getElem?_append_left (by simp [InsV.row]; omega)]
          simp
        | succ j =>
          rw [List.getElem?_append_right (by simp [InsV.row]; omega)]
          have : (j + 1) * 4 + i - (InsV.row x).length = j * 4 + i := by simp [InsV.row]; omega
          rw [this, ih j (by simpa using hj)]
          rfl
    show ((l.flatMap InsV.row).toArray)[0 + j * 4 + i]? = some v
    rw [show 0 + j * 4 + i = j * 4 + i by omega, List.getElem?_toArray, e l j hj]
    exact hv
  · obtain ⟨h1, h2, h3, h4, h5⟩ := hl x hx
    refine ⟨fun j hj => (by rw [h2] at hj; exact absurd hj (by simp)), (by rw [h2]; decide), h3, h4, h5, fun n hn => (by rw [h2] at hn; cases hn)⟩
theorem noMod_at (st : Int) (h : inI64 st) (W : World) : ModAt W (noMod st) where
  types := RowsAt.nil
  typesIn := fun t ht => by cases ht
  typesMost := Nat.zero_le _
  funcs := RowsAt.nil
  funcsIn := fun t ht => by cases ht
  funcsMost := Nat.zero_le _
  memory := RowsAt.nil
  memoryIn := fun t ht => by cases ht
  memoryMost := Nat.zero_le _
  globals := RowsAt.nil
  globalsIn := fun t ht => by cases ht
  globalsMost := Nat.zero_le _
  exports := RowsAt.nil
  exportsIn := fun t ht => by cases ht
  exportsMost := Nat.zero_le _
  startIn := h
  data := RowsAt.nil
  dataIn := fun t ht => by cases ht
  dataMost := Nat.zero_le _
set_option maxRecDepth 100000 in
set_option maxHeartbeats 8000000 in
theorem examples7 (w : World) (hLaid : Laid w) : Calls Tryz.prog 9 #[] w fun e w' => e = .returned (.bool true) ∧ Below w.heap.size w w' := by
  obtain ⟨W0, hW0⟩ : ∃ W, W = w.alloc (.cells #[.int .u8 2, .int .i64 0, .int .i64 0, .int .u8 0, .int .u8 11, .int .i64 0, .int .i64 0, .int .u8 3, .int .u8 14, .int .i64 0, .int .i64 0, .int .u8 0] 59) := ⟨_, rfl⟩
  have hB0 : Below w.heap.size w W0 := by rw [hW0]; exact (Below.refl _ _).alloc (Nat.le_refl _) _
  have hn0 : W0.heap[w.heap.size]? = some (.cells #[.int .u8 2, .int .i64 0, .int .i64 0, .int .u8 0, .int .u8 11, .int .i64 0, .int .i64 0, .int .u8 3, .int .u8 14, .int .i64 0, .int .i64 0, .int .u8 0] 59) := by rw [hW0]; exact heap_alloc_new _ _
  have hS : StepsAt W0 (some ⟨w.heap.size, 0, none⟩) l3 := ⟨fun j hj i v hv => ⟨w.heap.size, 0, rfl, in_heap7 hn0, by
    rw [World.cell?, hn0]
    match j, hj with
    | 0, _ => match i, hv with | 0, hv => exact hv | 1, hv => exact hv | 2, hv => exact hv | 3, hv => exact hv | (_ + 4), hv => cases hv
    | 1, _ => match i, hv with | 0, hv => exact hv | 1, hv => exact hv | 2, hv => exact hv | 3, hv => exact hv | (_ + 4), hv => cases hv
    | 2, _ => match i, hv with | 0, hv => exact hv | 1, hv => exact hv | 2, hv => exact hv | 3, hv => exact hv | (_ + 4), hv => cases hv⟩, by decide, by decide⟩
  have c0 := made_fn _ 3 l3 W0 hS
  have hl3 : l3.length = 3 := rfl
  rw [hl3] at c0
  go_enter Tryz.func9, Tryz.ntmps9
  go_wp2_with fail
  rw [← hW0]
  clear hW0 hS hn0
  refine c0.mono ?_
  rintro e w1 ⟨H, pc, cc, he, hM, hb1⟩
  rw [madeV_val7] at he
  subst he
  have hB1 := hB0.trans (hb1.mono hB0.size)
  obtain ⟨W3, hW3⟩ : ∃ W, W = ((w1.alloc (.cells #[.slice (some ⟨H, 0, none⟩) 1 1, .slice (some ⟨H + 1, 0, none⟩) 1 1, .slice (some ⟨H + 2, 0, none⟩) 1 1, .slice (some ⟨H + 3, 0, none⟩) 2 2, .slice (some ⟨H + 4, 0, none⟩) 1 1, .int .i64 (-1), .slice (some ⟨H + 5, 0, none⟩) 1 1] 31)).alloc (.cells #[.int .i64 26, .int .i64 0, .int .i64 0, .slice none 0 0, .int .i64 11, .int .i64 0, .int .i64 0, .slice none 0 0] 38)).alloc (.cells #[.int .i64 0, .string ⟨#[]⟩, .slice (some ⟨w1.heap.size + 1, 0, none⟩) 2 2] 35) := ⟨_, rfl⟩
  have hb3 : Below w1.heap.size w1 W3 := by rw [hW3]; exact (((Below.refl _ _).alloc (Nat.le_refl _) _).alloc (by simp only [push_size7]; omega) _).alloc (by simp only [push_size7]; omega) _
  have hB3 := hB1.trans (hb3.mono hB1.size)
  have k0 : W3.heap[w1.heap.size]? = some (.cells #[.slice (some ⟨H, 0, none⟩) 1 1, .slice (some ⟨H + 1, 0, none⟩) 1 1, .slice (some ⟨H + 2, 0, none⟩) 1 1, .slice (some ⟨H + 3, 0, none⟩) 2 2, .slice (some ⟨H + 4, 0, none⟩) 1 1, .int .i64 (-1), .slice (some ⟨H + 5, 0, none⟩) 1 1] 31) := by rw [hW3]; simp only [push7, push_size7]; rw [if_neg (by omega), if_neg (by omega), if_pos trivial]
  have k1 : W3.heap[w1.heap.size + 1]? = some (.cells #[.int .i64 26, .int .i64 0, .int .i64 0, .slice none 0 0, .int .i64 11, .int .i64 0, .int .i64 0, .slice none 0 0] 38) := by rw [hW3]; simp only [push7, push_size7]; rw [if_neg (by omega), if_pos trivial]
  have k2 : W3.heap[w1.heap.size + 1 + 1]? = some (.cells #[.int .i64 0, .string ⟨#[]⟩, .slice (some ⟨w1.heap.size + 1, 0, none⟩) 2 2] 35) := by rw [hW3]; simp only [push7, push_size7]; rw [if_pos trivial]
  have hM3 := (hM.below hb3).modAt (st := -1) ⟨by decide, by decide⟩ ⟨by decide, by decide⟩ ⟨by decide, by decide⟩ ⟨by decide, by decide⟩ ⟨by decide, by decide⟩
  have hf3 : FnAt W3 ⟨0, ⟨#[]⟩, some ⟨w1.heap.size + 1, 0, none⟩, 2, f2⟩ := ⟨code_new (l := f2) k1 f2_ok (by show (2 : Nat) ≤ _; decide), (by show (0 : Nat) ≤ _; decide), (by show inI64 0; exact ⟨by decide, by decide⟩)⟩
  have cm := fun W (hW : Below W3.heap.size W3 W) => v_module W (hLaid.below (hB3.trans (hW.mono hB3.size))) _ (hM3.below hW (Nat.le_refl _)) (fun f hf => by cases List.mem_singleton.1 hf; exact l3_len pc cc)
  have cf := fun W (hW : Below W3.heap.size W3 W) => v_func W (hLaid.below (hB3.trans (hW.mono hB3.size))) _ (hM3.below hW (Nat.le_refl _)) _ (hf3.below hW (Nat.le_refl _)) (by show (2 : Nat) ≤ _; decide)
  have ce := fun st (hst : inI64 st) W (hW : Below W3.heap.size W3 W) => v_module W (hLaid.below (hB3.trans (hW.mono hB3.size))) (noMod st) (noMod_at st hst W) (fun f hf => by cases hf)
  have c1 := ce (-1) ⟨by decide, by decide⟩
  have c5 := ce (-5) ⟨by decide, by decide⟩
  rw [none_ok] at c1
  rw [none_bad] at c5
  simp only [l3_mod, madeV_val7] at cm
  simp only [l3_fn, madeV_val7] at cf
  simp only [FnV.val, show f2.length = 2 from rfl] at cf
  simp only [noMod, MoV.val, List.length_nil] at c1 c5
  obtain ⟨q0, q1, q2, q3, q4, q5, q6⟩ := box_seven7 k0
  obtain ⟨p0, p1, p2⟩ := box_three7 k2
  have hlk0 := in_heap7 k0
  have hlk2 := in_heap7 k2
  clear ce hM hM3 hf3 hb1 hb3 k1
  go_wp2_with fail
  rw [← hW3]
  clear hW3
  refine (cm _ (Below.refl _ _)).mono ?_
  rintro e w4 ⟨rfl, hb4⟩
  have k0' := (hb4.block _ hlk0).trans k0
  have k2' := (hb4.block _ hlk2).trans k2
  clear cm q0 q1 q2 q3 q4 q5 q6 p0 p1 p2
  go_wp2_with fail
  refine (c1 _ hb4).mono ?_
  rintro e w5 ⟨rfl, hb5⟩
  have hB5 := hb4.trans (hb5.mono hb4.size)
  have k0'' := (hb5.block _ (in_heap7 k0')).trans k0'
  have k2'' := (hb5.block _ (in_heap7 k2')).trans k2'
  obtain ⟨q0, q1, q2, q3, q4, q5, q6⟩ := box_seven7 k0''
  obtain ⟨p0, p1, p2⟩ := box_three7 k2''
  clear c1
  go_wp2_with fail
  refine (cf _ hB5).mono ?_
  rintro e w6 ⟨rfl, hb6⟩
  have hB6 := hB5.trans (hb6.mono hB5.size)
  clear cf q0 q1 q2 q3 q4 q5 q6 p0 p1 p2
  go_wp2_with fail
  refine (c5 _ hB6).mono ?_
  rintro e w7 ⟨rfl, hb7⟩
  have hB7 := hB6.trans (hb7.mono hB6.size)
  have hB7w := hB3.trans (hB7.mono hB3.size)
  obtain ⟨W8, hW8⟩ : ∃ W, W = w7.alloc (.cells #[.int .i64 2, .int .i64 0, .int .i64 0, .slice none 0 0, .int .i64 3, .int .i64 0, .int .i64 0, .slice none 0 0, .int .i64 11, .int .i64 0, .int .i64 0, .slice none 0 0] 38) := ⟨_, rfl⟩
  have hB8 : Below w.heap.size w W8 := by rw [hW8]; exact hB7w.alloc hB7w.size _
  have k8 : W8.heap[w7.heap.size]? = some (.cells #[.int .i64 2, .int .i64 0, .int .i64 0, .slice none 0 0, .int .i64 3, .int .i64 0, .int .i64 0, .slice none 0 0, .int .i64 11, .int .i64 0, .int .i64 0, .slice none 0 0] 38) := by rw [hW8]; exact heap_alloc_new _ _
  have cn := v_nest W8 (some ⟨w7.heap.size, 0, none⟩) 3 f3 (code_new (l := f3) k8 f3_ok (by show (3 : Nat) ≤ _; decide)) (by show (3 : Nat) ≤ _; decide)
  rw [show nest7 (opsOf f3) 0 0 = 2 from nest_ex, show f3.length = 3 from rfl] at cn
  clear c5
  go_wp2_with fail
  rw [← hW8]
  clear hW8
  refine cn.mono ?_
  rintro e w9 ⟨rfl, hb9⟩
  go_wp2
  go_ret
  exact ⟨rfl, hB8.trans (hb9.mono hB8.size)⟩
end Go.Proofs.YtomffpibdinkaaaGreatDoor
