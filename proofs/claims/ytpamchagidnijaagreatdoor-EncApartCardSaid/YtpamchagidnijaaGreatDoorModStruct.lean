/-
  Which code is of blocks in one another (chapter 4), as a function of its operations, and the document's own answer to it walked. A contract that the proofs call; no statement is proved here.
-/
import Derived.Test.YtpamchagidnijaaGreatDoorRows
import Derived.WalkKit
import Derived.WalkSpells
import Derived.WalkLawsBesides
import Derived.Lib.Hide
import Derived.Maps.AppendAt
import Derived.Laws.OwnMore
namespace Go.Proofs.YtpamchagidnijaaGreatDoor
open Go.RowKit

/-- The operations that are left, over the blocks that are open, the innermost first. -/
def runs : List Int → List Int → Bool
  | [], _ => false
  | op :: l, st =>
    if op = 2 ∨ op = 3 ∨ op = 4 then runs l (op :: st)
    else if op = 5 then match st with
      | [] => false
      | t :: st => if t = 4 then runs l (5 :: st) else false
    else if op = 11 then match st with
      | [] => l.isEmpty
      | _ :: st => runs l st
    else runs l st
theorem runs_open {op : Int} {l st : List Int} (h : op = 2 ∨ op = 3 ∨ op = 4) : runs (op :: l) st = runs l (op :: st) := by rw [runs.eq_def]; exact if_pos h
theorem runs_else {t : Int} {l st : List Int} : runs (5 :: l) (t :: st) = if t = 4 then runs l (5 :: st) else false := by rw [runs, if_neg (by omega), if_pos rfl]
theorem runs_else_none {l : List Int} : runs (5 :: l) [] = false := by rw [runs, if_neg (by omega), if_pos rfl]
theorem runs_end {t : Int} {l st : List Int} : runs (11 :: l) (t :: st) = runs l st := by rw [runs, if_neg (by omega), if_neg (by omega), if_pos rfl]
theorem runs_end_none {l : List Int} : runs (11 :: l) [] = l.isEmpty := by rw [runs, if_neg (by omega), if_neg (by omega), if_pos rfl]
theorem runs_other {op : Int} {l st : List Int} (h : ¬ (op = 2 ∨ op = 3 ∨ op = 4 ∨ op = 5 ∨ op = 11)) : runs (op :: l) st = runs l st := by rw [runs.eq_def]; simp only; rw [if_neg (by omega), if_neg (by omega), if_neg (by omega)]

/-- Where a code lies: of each instruction its operation. -/
def OpsAt (w : World) (p : Option Addr) (ops : List Int) : Prop := ∀ j (hj : j < ops.length), ∃ b o, p = some ⟨b, o, none⟩ ∧ b < w.heap.size ∧ w.cell? ⟨b, o + j * 4, none⟩ = some (.int .i64 ops[j])

theorem ret_bl2 {a b : Bool} (h : a = b) : Ending.returned (.bool b) = .returned (.bool a) := by rw [h]
theorem infoInt : (Tryz.prog.info? 3).map (fun i => (i.zero, i.size, i.bytes)) = some (some (.int .i64 0), 1, 8) := by kernel_rfl
theorem own_base2 {w : World} {base : Nat} {e : TypeId} {size : Nat} {v : Value} {n : Nat} {xs : List Value} (h : w.ownsRow base e size v n xs) : ∀ g, v.ownBlock = some g → base ≤ g := by
  intro g hg
  rcases h.2 with ⟨rfl, _⟩ | ⟨g', cap, cur, rfl, hb, _⟩
  · cases hg
  · simp only [Value.ownBlock, Option.some.injEq] at hg
    subst hg; exact hb
/-- The last of a row is let go. -/
theorem own_cut {w : World} {base g cap : Nat} {e : TypeId} {n : Nat} {xs : List Value} {x : Value} (h : w.ownsRow base e 1 (.slice (some ⟨g, 0, none⟩) (n + 1) cap) (n + 1) (xs ++ [x])) : w.ownsRow base e 1 (.slice (some ⟨g, 0, none⟩) n cap) n xs := by
  have hl : xs.length = n := by have := h.1; simp at this; omega
  rcases h.2 with ⟨h0, _⟩ | ⟨g', cap', cur, he, hb, hg, hnc, hcm, hcs, ht⟩
  · cases h0
  · cases he
    refine ⟨by omega, .inr ⟨g, cap, cur, rfl, hb, hg, by omega, hcm, hcs, ?_⟩⟩
    have := congrArg (List.take n) ht
    rw [List.take_take, show min n ((n + 1) * 1) = n by omega, List.take_left' hl] at this
    rw [Nat.mul_one]; exact this

/-- The last of a row that is there: where it lies. -/
theorem own_top {w : World} {base : Nat} {e : TypeId} {v : Value} {t : Int} {st : List Int} (h : w.ownsRow base e 1 v (t :: st).length ((t :: st).reverse.map (.int .i64))) :
    ∃ g cap, v = .slice (some ⟨g, 0, none⟩) (st.length + 1) cap ∧ base ≤ g ∧ w.cell? ⟨g, st.length, none⟩ = some (.int .i64 t) ∧ w.frozen? ⟨g, st.length, none⟩ = false ∧ st.length + 1 ≤ cap := by
  have h2 := h
  rcases h.2 with ⟨_, h0⟩ | ⟨g, cap, cur, rfl, hb, hg, hnc, hcm, hcs, ht⟩
  · simp at h0
  · refine ⟨g, cap, rfl, hb, ?_, h2.frozenAt _, by simpa using hnc⟩
    rw [h2.cellAt st.length (by simp)]
    simp
/-- An empty stack, seen: nil, or a row of no length. -/
theorem own_len {w : World} {base : Nat} {e : TypeId} {v : Value} {n : Nat} {xs : List Value} (h : w.ownsRow base e 1 v n xs) : ∃ p cap, v = .slice p n cap := by
  rcases h.2 with ⟨rfl, rfl⟩ | ⟨g, cap, cur, rfl, _⟩
  · exact ⟨none, 0, rfl⟩
  · exact ⟨_, cap, rfl⟩
theorem set_top (t x : Int) (st : List Int) : ((t :: st).reverse.map (Value.int .i64)).set st.length (.int .i64 x) = (x :: st).reverse.map (Value.int .i64) := by
  simp
theorem isEmpty_drop (l : List Int) (k : Nat) : (l.drop k).isEmpty = decide (l.length ≤ k) := by
  by_cases h : l.length ≤ k
  · rw [List.drop_eq_nil_of_le h]; simp [h]
  · simp [h]

set_option maxRecDepth 100000 in
set_option maxHeartbeats 2000000 in
theorem ref_structured (p : Option Addr) (n cap : Nat) (ops : List Int) (hn : n = ops.length) (hmx : n ≤ 4398046511104) (w : World) (hops : OpsAt w p ops) :
    Calls Tryz.prog 198 #[.slice p n cap] w fun e w' => e = .returned (.bool (runs ops [])) ∧ Below w.heap.size w w' := by
  obtain ⟨i0, hi, hz0, hz1, hz2⟩ := info_parts infoInt
  obtain ⟨R, hR⟩ : ∃ R, R = runs ops [] := ⟨_, rfl⟩
  rw [← hR]
  have HR := Lib.hid hR
  have HN := Lib.hid hn
  clear hR hn
  go_enter Tryz.func198, Tryz.ntmps198
  go_wp2
  go_loopw [3, 4] (fun v i wr => ∃ (k : Nat) (st : List Int), k ≤ n ∧ st.length ≤ k ∧ i = .int .i64 k ∧ wr.ownsRow w.heap.size 3 1 v st.length (st.reverse.map (.int .i64)) ∧ Below w.heap.size w wr ∧ Hid (R = runs (ops.drop k) st))
    (fun _ i _ => n - (intOf i).toNat)
  case atStart => exact ⟨0, [], by omega, by simp, rfl, World.ownsRow_nil _ _ _ _, Below.refl _ _, HR⟩
  case round =>
    clear HR
    obtain ⟨k, st, hk, hst, rfl, hown, hB, HK⟩ := hrel
    by_cases hlt : k < n
    · have hlt' : k < ops.length := by have := HN.out; omega
      obtain ⟨b, o, hp, hb, hc⟩ := hops k hlt'
      have hcx : wr.cell? ⟨b, o + k * 4, none⟩ = some (.int .i64 ops[k]) := (hB.cell (p := ⟨b, o + k * 4, none⟩) hb).trans hc
      have hD := List.drop_eq_getElem_cons hlt'
      clear hops hc
      subst hp
      obtain ⟨x, hx⟩ : ∃ x, x = ops[k] := ⟨_, rfl⟩
      rw [← hx] at hcx hD
      have HD := Lib.hid hD
      clear hD hx
      have hs := hB.size
      by_cases hx1 : x = 2 ∨ x = 3 ∨ x = 4
      · have HE := Lib.hid ((HK.out.trans (congrArg (runs · st) HD.out)).trans (runs_open hx1))
        rcases hx1 with rfl | rfl | rfl
        all_goals
          go_wp2_with (at_builtin; refine wpList_append_own_at _ rfl (.tmp 20) (.tmp 26) 39 rfl w.heap.size 3 i0 (.int .i64 0) 1 8 Tryz.underlying39 hi hz0 hz1 hz2 rfl (by decide) u3 st.length _ rfl (hown.alloc _) ⟨wr.heap.size, 0, none⟩ 1 1 [_] rfl rfl (cell_one_new _ _ _) (fun u hu => by cases hu with | head => rfl | tail _ h => cases h) (by unfold maxLen; omega) (by omega) (by simp; omega) ?_)
          intro v' w1 hown' hgrow _ _
          have hB2 := (hB.alloc hs _).grown hgrow (by simp; omega) (own_base2 hown)
          clear hgrow hown hB hcx
          go_wp2
          go_roundw
          case rel => exact ⟨k + 1, _ :: st, by omega, by simp; omega, by go_num, by simpa using hown', hB2, HE⟩
          case measure => simp [intOf]; omega
      · by_cases hx5 : x = 5
        · subst hx5
          cases st with
          | nil =>
            have HE := Lib.hid ((HK.out.trans (congrArg (runs · []) HD.out)).trans runs_else_none)
            obtain ⟨q, cq, rfl⟩ := own_len hown
            go_wp2
            go_ret
            exact ⟨ret_bl2 HE.out, hB⟩
          | cons t st =>
            have HE := Lib.hid ((HK.out.trans (congrArg (runs · (t :: st)) HD.out)).trans runs_else)
            obtain ⟨g, c, rfl, hg, hd, hf, hcp⟩ := own_top hown
            have hst2 : st.length + 1 ≤ k := by simpa using hst
            by_cases ht : t = 4
            · subst ht
              have hset := (World.ownsRow.stored hown st.length (.int .i64 5)).1
              have hB2 : Below w.heap.size w (wr.setCell ⟨g, st.length, none⟩ (.int .i64 5)) := hB.setCell hg _
              rw [set_top] at hset
              go_wp2
              go_roundw
              case rel => exact ⟨k + 1, 5 :: st, by omega, by simp at hst ⊢; omega, by go_num, hset, hB2, HE⟩
              case measure => simp [intOf]; omega
            · have ht2 : (t != 4) = true := by simp [ht]
              have HT := Lib.hid ht
              go_wp2
              go_ret
              exact ⟨ret_bl2 (by rw [HE.out, if_neg HT.out]), hB⟩
        · by_cases hx11 : x = 11
          · subst hx11
            cases st with
            | nil =>
              have HE := Lib.hid ((HK.out.trans (congrArg (runs · []) HD.out)).trans runs_end_none)
              have HL := Lib.hid (isEmpty_drop ops (k + 1))
              obtain ⟨q, cq, rfl⟩ := own_len hown
              go_wp2
              go_ret
              exact ⟨ret_bl2 (by rw [HE.out, HL.out, ← HN.out, Bool.eq_iff_iff]; simp only [decide_eq_true_eq, beq_iff_eq]; omega), hB⟩
            | cons t st =>
              have HE := Lib.hid ((HK.out.trans (congrArg (runs · (t :: st)) HD.out)).trans runs_end)
              obtain ⟨g, c, rfl, hg, hd, hf, hcp⟩ := own_top hown
              have hst2 : st.length + 1 ≤ k := by simpa using hst
              have hcut := own_cut (by simpa using hown)
              have hcl : st.length ≤ c := by omega
              go_wp2
              go_roundw
              case rel => exact ⟨k + 1, st, by omega, by omega, by go_num, by simpa using hcut, hB, HE⟩
              case measure => simp [intOf]; omega
          · have HE := Lib.hid ((HK.out.trans (congrArg (runs · st) HD.out)).trans (runs_other (by omega)))
            go_wp2
            go_roundw
            case rel => exact ⟨k + 1, st, by omega, by omega, by go_num, hown, hB, HE⟩
            case measure => simp [intOf]; omega
    · have hv : R = false := by rw [HK.out, List.drop_eq_nil_of_le (by have := HN.out; omega)]; rfl
      have HV := Lib.hid hv
      clear hv
      go_wp2
      go_ret
      exact ⟨ret_bl2 HV.out, hB⟩
end Go.Proofs.YtpamchagidnijaaGreatDoor
