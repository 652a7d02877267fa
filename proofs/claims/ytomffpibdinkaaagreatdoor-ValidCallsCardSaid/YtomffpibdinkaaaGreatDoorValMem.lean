/-
  Package valid: a module's memory, its start: walked. Contracts that the proofs call; no statement is proved here.
-/
import Derived.Test.YtomffpibdinkaaaGreatDoorValAll
namespace Go.Proofs.YtomffpibdinkaaaGreatDoor
open Go.RowKit Go.Maps
set_option linter.unusedVariables false
set_option linter.unusedSimpArgs false

def mem1 (p : MemV) : Bool := !(decide ((65536 : Int) < p.min) || (decide ((65536 : Int) < p.max) || (decide (p.max ≠ -1) && decide (p.max < p.min))))
def memory7 (m : MoV) : Bool := m.memory.all mem1 && (decide (m.memory.length = 1) || (decide (m.memory.length = 0) && decide (m.data.length = 0)))
theorem mem_rows {W : World} {p : Option Addr} {l : List MemV} (h : RowsAt W p 2 MemV.row l) {j : Nat} (hj : j < l.length) : ∃ b o, p = some ⟨b, o, none⟩ ∧ b < W.heap.size ∧ W.cell? ⟨b, o + j * 2, none⟩ = some (.int .i64 l[j].min) ∧ W.cell? ⟨b, o + j * 2 + 1, none⟩ = some (.int .i64 l[j].max) := by
  obtain ⟨b, o, hp, hb⟩ := h.start hj rfl
  rw [hp] at h
  exact ⟨b, o, hp, hb, h.cell hj 0 rfl, h.cell hj 1 rfl⟩
set_option maxRecDepth 100000 in
set_option maxHeartbeats 8000000 in
theorem v_memory (w : World) (m : MoV) (hm : ModAt w m) (hml : m.memory.length ≤ 1000000) : Calls Tryz.prog 22 #[m.val] w fun e w' => e = .returned (.bool (memory7 m)) ∧ Below w.heap.size w w' := by
  obtain ⟨R, hR⟩ : ∃ R, memory7 m = R := ⟨_, rfl⟩
  rw [hR]
  obtain ⟨W1, hW1⟩ : ∃ W, W = w.alloc (modObj m) := ⟨_, rfl⟩
  have hB1 : Below w.heap.size w W1 := by rw [hW1]; exact (Below.refl _ _).alloc (Nat.le_refl _) _
  have hb1 : W1.heap[w.heap.size]? = some (modObj m) := by rw [hW1]; exact heap_alloc_new _ _
  have hl1 := in_heap7 hb1
  obtain ⟨q0, q1, q2, q3, q4, q5, q6⟩ := box_seven7 hb1
  have HM := Lib.hid (hm.below hB1 (Nat.le_refl _)).memory
  have HR := Lib.hid hR
  have HX := Lib.hid hb1
  unfold MoV.val
  unfold modObj at hW1
  clear hm hR hb1
  go_enter Tryz.func22, Tryz.ntmps22
  go_wp2
  rw [← hW1]
  clear hW1
  obtain ⟨L, hLL⟩ : ∃ L, m.memory.length = L := ⟨_, rfl⟩
  have HLL := Lib.hid hLL
  rw [hLL]
  rw [hLL] at hml q2
  clear hLL
  go_loopw [4, 8] (fun u i wr => ∃ (j : Nat), i = .int .i64 j ∧ j ≤ L ∧ Hid (((m.memory.drop j).all mem1 && (decide (m.memory.length = 1) || (decide (m.memory.length = 0) && decide (m.data.length = 0)))) = R) ∧ Below W1.heap.size W1 wr) (fun _ i _ => (L : Int).toNat - (intOf i).toNat)
  case atStart => exact ⟨0, rfl, Nat.zero_le _, HR, Below.refl _ _⟩
  case round =>
    clear q0 q1 q2 q3 q4 q5 q6
    obtain ⟨j, rfl, hj, HK, hB⟩ := hrel
    by_cases hjl : j < L
    · have hjx : j < m.memory.length := by rw [HLL.out]; exact hjl
      obtain ⟨cb, co, hcp, hcb, e0, e1⟩ := mem_rows (HM.out.below hB (Nat.le_refl _)) hjx
      have HK1 : Hid ((mem1 m.memory[j] && (m.memory.drop (j + 1)).all mem1 && (decide (m.memory.length = 1) || (decide (m.memory.length = 0) && decide (m.data.length = 0)))) = R) := Lib.hid (by rw [← List.all_cons, ← List.drop_eq_getElem_cons hjx]; exact HK.out)
      generalize m.memory[j] = f at *
      obtain ⟨mn, mx⟩ := f
      dsimp only at e0 e1
      have j0 : (0 : Int) ≤ (j : Int) := by omega
      have j1 : (j : Int) < (L : Int) := by omega
      have jw : IntKind.i64.wrap ((j : Int) + 1) = ((j + 1 : Nat) : Int) := by rw [show (j : Int) + 1 = ((j + 1 : Nat) : Int) by omega]; exact IntWalk.i64_in _ (by omega)
      have hBn := hB.alloc hB.size (.cells #[.int .i64 mn, .int .i64 mx] 47)
      have hB9 : Below w.heap.size w (wr.alloc (.cells #[.int .i64 mn, .int .i64 mx] 47)) := hB1.trans (hBn.mono hB1.size)
      clear HK
      rw [hcp]
      by_cases a1 : (65536 : Int) < mn
      · skip
        have hRf : false = R := by rw [← HK1.out]; unfold mem1; simp [a1]
        subst hRf
        go_wp2
        go_ret
        exact ⟨rfl, hB9⟩
      by_cases a2 : (65536 : Int) < mx
      · skip
        have hRf : false = R := by rw [← HK1.out]; unfold mem1; simp [a1, a2]
        subst hRf
        go_wp2
        go_ret
        exact ⟨rfl, hB9⟩
      by_cases a3 : mx = -1
      · have q3 : (mx == -1) = true := beq_iff_eq.2 a3
        have HK2 : Hid (((m.memory.drop (j + 1)).all mem1 && (decide (m.memory.length = 1) || (decide (m.memory.length = 0) && decide (m.data.length = 0)))) = R) := Lib.hid (by rw [← HK1.out]; unfold mem1; simp [a1, a2, a3])
        go_wp2
        skip
        go_roundw
        case rel => exact ⟨j + 1, by go_num, by omega, HK2, (by have := hBn; rw [a3] at this; exact this)⟩
        case measure => simp [intOf]; omega
      have q3 : (mx == -1) = false := beq_eq_false_iff_ne.2 a3
      by_cases a4 : mx < mn
      · skip
        have hRf : false = R := by rw [← HK1.out]; unfold mem1; simp [a1, a2, a3, a4]
        subst hRf
        go_wp2
        go_ret
        exact ⟨rfl, hB9⟩
      · skip
        have HK2 : Hid (((m.memory.drop (j + 1)).all mem1 && (decide (m.memory.length = 1) || (decide (m.memory.length = 0) && decide (m.data.length = 0)))) = R) := Lib.hid (by rw [← HK1.out]; unfold mem1; simp [a1, a2, a3, a4])
        go_wp2
        skip
        go_roundw
        case rel => exact ⟨j + 1, by go_num, by omega, HK2, hBn⟩
        case measure => simp [intOf]; omega
    · have hjL : j = L := by omega
      subst hjL
      have hRt : (decide (m.memory.length = 1) || (decide (m.memory.length = 0) && decide (m.data.length = 0))) = R := by rw [← HK.out, ← HLL.out, List.drop_length]; rfl
      have k1 := (hB.block _ hl1).trans HX.out
      obtain ⟨q0, q1, q2, q3, q4, q5, q6⟩ := box_seven7 k1
      have hB9 : Below w.heap.size w wr := hB1.trans (hB.mono hB1.size)
      rw [HLL.out] at q2 hRt
      obtain ⟨DL, hDL⟩ : ∃ DL, m.data.length = DL := ⟨_, rfl⟩
      rw [hDL] at q6 hRt
      clear HK hDL k1 q0 q1 q3 q4 q5
      by_cases b1 : j = 1
      · subst b1
        have hR1 : true = R := by rw [← hRt]; rfl
        subst hR1
        go_wp2
        go_ret
        exact ⟨rfl, hB9⟩
      · have c1 : ((j : Int) == 1) = false := beq_eq_false_iff_ne.2 (by omega)
        by_cases b2 : j = 0
        · subst b2
          by_cases b3 : DL = 0
          · subst b3
            have hR1 : true = R := by rw [← hRt]; rfl
            subst hR1
            go_wp2
            go_ret
            exact ⟨rfl, hB9⟩
          · have c3 : ((DL : Int) == 0) = false := beq_eq_false_iff_ne.2 (by omega)
            have hR1 : false = R := by rw [← hRt]; simp [b3]
            subst hR1
            go_wp2
            go_ret
            exact ⟨rfl, hB9⟩
        · have c2 : ((j : Int) == 0) = false := beq_eq_false_iff_ne.2 (by omega)
          have hR1 : false = R := by rw [← hRt]; simp [b1, b2]
          subst hR1
          go_wp2
          go_ret
          exact ⟨rfl, hB9⟩
def start7 (m : MoV) : Bool := decide (m.start = -1) || (match typeOf7 m m.start with | some t => decide (t.params = ⟨#[]⟩) && decide (t.results = ⟨#[]⟩) | none => false)
theorem notEmpty7 {z : ByteArray} (h : ¬ z = ⟨#[]⟩) : z.toList.isEmpty = false := by
  rw [ByteArray.toList_eq]
  obtain ⟨⟨l⟩⟩ := z
  cases l with
  | nil => exact absurd rfl h
  | cons a l => rfl
set_option maxRecDepth 100000 in
set_option maxHeartbeats 4000000 in
theorem v_start (w : World) (m : MoV) (hm : ModAt w m) : Calls Tryz.prog 24 #[m.val] w fun e w' => e = .returned (.bool (start7 m)) ∧ Below w.heap.size w w' := by
  obtain ⟨R, hR⟩ : ∃ R, start7 m = R := ⟨_, rfl⟩
  rw [hR]
  obtain ⟨W1, hW1⟩ : ∃ W, W = w.alloc (modObj m) := ⟨_, rfl⟩
  have hB1 : Below w.heap.size w W1 := by rw [hW1]; exact (Below.refl _ _).alloc (Nat.le_refl _) _
  have hb1 : W1.heap[w.heap.size]? = some (modObj m) := by rw [hW1]; exact heap_alloc_new _ _
  obtain ⟨q0, q1, q2, q3, q4, q5, q6⟩ := box_seven7 hb1
  have ct := v_typeOf (hm.below hB1 (Nat.le_refl _)) m.start hm.startIn
  unfold MoV.val at ct ⊢
  unfold modObj at hW1
  unfold start7 at hR
  by_cases hs : m.start = -1
  · rw [decide_eq_true hs] at hR
    have hR1 : true = R := by rw [← hR]; rfl
    subst hR1
    rw [hs] at hW1 q5 ⊢
    clear hm hR hb1 ct
    go_enter Tryz.func24, Tryz.ntmps24
    go_wp2
    rw [← hW1]
    go_ret
    exact ⟨rfl, hB1⟩
  · rw [decide_eq_false hs] at hR
    have q5n : (m.start == -1) = false := beq_eq_false_iff_ne.2 hs
    cases ht : typeOf7 m m.start with
    | none =>
      rw [ht] at ct hR
      have hR1 : false = R := by rw [← hR]; rfl
      subst hR1
      dsimp only [tyOr, TyV.val7, Option.getD, Option.isSome] at ct
      clear hm hR hb1 hs
      go_enter Tryz.func24, Tryz.ntmps24
      go_wp2_with fail
      rw [← hW1]
      clear hW1
      refine ct.mono ?_
      rintro e w2 ⟨rfl, hb2⟩
      go_wp2
      go_ret
      exact ⟨rfl, (hB1.trans (hb2.mono hB1.size)).alloc (by have := hB1.size; have := hb2.size; omega) _⟩
    | some t =>
      rw [ht] at ct hR
      obtain ⟨tp, tr⟩ := t
      dsimp only [tyOr, TyV.val7, Option.getD, Option.isSome] at ct
      dsimp only at hR
      clear hm hb1 hs
      by_cases ha : tp = ⟨#[]⟩
      · subst ha
        by_cases hb : tr = ⟨#[]⟩
        · subst hb
          have hR1 : true = R := by rw [← hR]; rfl
          subst hR1
          clear hR
          go_enter Tryz.func24, Tryz.ntmps24
          go_wp2_with fail
          rw [← hW1]
          clear hW1
          refine ct.mono ?_
          rintro e w2 ⟨rfl, hb2⟩
          go_wp2
          go_ret
          exact ⟨rfl, (hB1.trans (hb2.mono hB1.size)).alloc (by have := hB1.size; have := hb2.size; omega) _⟩
        · have hR1 : false = R := by rw [← hR, decide_eq_false hb]; rfl
          subst hR1
          have e2 := notEmpty7 hb
          clear hR hb
          go_enter Tryz.func24, Tryz.ntmps24
          go_wp2_with fail
          rw [← hW1]
          clear hW1
          refine ct.mono ?_
          rintro e w2 ⟨rfl, hb2⟩
          go_wp2
          go_ret
          exact ⟨rfl, (hB1.trans (hb2.mono hB1.size)).alloc (by have := hB1.size; have := hb2.size; omega) _⟩
      · have hR1 : false = R := by rw [← hR, decide_eq_false ha]; rfl
        subst hR1
        have e2 := notEmpty7 ha
        clear hR ha
        go_enter Tryz.func24, Tryz.ntmps24
        go_wp2_with fail
        rw [← hW1]
        clear hW1
        refine ct.mono ?_
        rintro e w2 ⟨rfl, hb2⟩
        go_wp2
        go_ret
        exact ⟨rfl, (hB1.trans (hb2.mono hB1.size)).alloc (by have := hB1.size; have := hb2.size; omega) _⟩
end Go.Proofs.YtomffpibdinkaaaGreatDoor
