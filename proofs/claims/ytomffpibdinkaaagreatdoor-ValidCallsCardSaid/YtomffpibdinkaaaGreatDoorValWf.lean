/-
  Chapter 7: what holds of the stack and of what is open, step by step, on Lean's own lists. Plain; no program is looked at.
-/
import Derived.Test.YtomffpibdinkaaaGreatDoorVbEncSpec
namespace Go.Proofs.YtomffpibdinkaaaGreatDoor
set_option linter.unusedVariables false

/-! ### Heights -/
def topOf : List FrV → Nat
  | [] => 0
  | b :: _ => b.height
/-- Heights rise inwards, and the innermost one is below the stack's. -/
def VS.Wf (s : VS) : Prop := s.opens.Pairwise (fun a b => b.height ≤ a.height) ∧ topOf s.opens ≤ s.stack.length
theorem topOf_tail {b : FrV} {o : List FrV} (h : (b :: o).Pairwise (fun a b => b.height ≤ a.height)) : topOf o ≤ b.height := by
  cases o with
  | nil => exact Nat.zero_le _
  | cons c o => exact (List.pairwise_cons.1 h).1 c (List.mem_cons_self ..)
theorem inner_top {s : VS} (h : s.opens ≠ []) : s.inner.height = topOf s.opens := by
  obtain ⟨st, op, w⟩ := s
  cases op with
  | nil => exact absurd rfl h
  | cons b o => rfl
@[simp] theorem ask_opens (s : VS) (b : Bool) : (s.ask b).opens = s.opens := rfl
@[simp] theorem ask_stack (s : VS) (b : Bool) : (s.ask b).stack = s.stack := rfl
@[simp] theorem put_opens (s : VS) (l : List UInt8) : (s.put l).opens = s.opens := rfl
@[simp] theorem takeAny_opens (s : VS) : s.takeAny.2.opens = s.opens := by unfold VS.takeAny; split <;> rfl
theorem takeL_opens : ∀ (l : List UInt8) (s : VS), (takeL l s).opens = s.opens
  | [], s => rfl
  | k :: l, s => by
    unfold takeL
    split
    · rfl
    · rw [takeL_opens l]; simp
@[simp] theorem take_opens (s : VS) (l : List UInt8) : (s.take l).opens = s.opens := takeL_opens _ _
theorem ask_wf {s : VS} (h : s.Wf) (b : Bool) : (s.ask b).Wf := h
theorem put_wf {s : VS} (h : s.Wf) (l : List UInt8) : (s.put l).Wf := ⟨h.1, by
  have := h.2
  show topOf s.opens ≤ (l.reverse ++ s.stack).length
  rw [List.length_append]; omega⟩
theorem takeAny_wf {s : VS} (h : s.Wf) : s.takeAny.2.Wf := by
  by_cases ho : s.opens = []
  · refine ⟨by rw [takeAny_opens]; exact h.1, by rw [takeAny_opens, ho]; exact Nat.zero_le _⟩
  · refine ⟨by rw [takeAny_opens]; exact h.1, ?_⟩
    rw [takeAny_opens]
    unfold VS.takeAny
    split
    · exact h.2
    · rename_i hn
      rw [inner_top ho] at hn
      show topOf s.opens ≤ s.stack.tail.length
      rw [List.length_tail]; omega
theorem takeL_wf : ∀ (l : List UInt8) {s : VS}, s.Wf → (takeL l s).Wf
  | [], s, h => h
  | k :: l, s, h => by
    unfold takeL
    split
    · exact h
    · exact takeL_wf l (ask_wf (takeAny_wf h) _)
theorem take_wf {s : VS} (h : s.Wf) (l : List UInt8) : (s.take l).Wf := takeL_wf _ h
theorem kill_wf {s : VS} (h : s.Wf) : s.kill.Wf := by
  obtain ⟨st, op, w⟩ := s
  cases op with
  | nil => exact h
  | cons b o =>
    have h2 : b.height ≤ st.length := h.2
    refine ⟨?_, ?_⟩
    · have := List.pairwise_cons.1 h.1
      exact List.pairwise_cons.2 ⟨fun c hc => this.1 c hc, this.2⟩
    · show b.height ≤ (st.drop (st.length - b.height)).length
      rw [List.length_drop]; omega
theorem enter_wf {s : VS} (h : s.Wf) (c a : Int) : (s.enter c a).Wf := by
  refine ⟨List.pairwise_cons.2 ⟨fun b hb => ?_, h.1⟩, Nat.le_refl _⟩
  have h1 : b.height ≤ topOf s.opens := by
    cases ho : s.opens with
    | nil => rw [ho] at hb; cases hb
    | cons c o =>
      rw [ho] at hb
      have := h.1
      rw [ho] at this
      rcases List.mem_cons.1 hb with rfl | hb
      · exact Nat.le_refl _
      · exact (List.pairwise_cons.1 this).1 b hb
  exact Nat.le_trans h1 h.2
theorem leave_wf {s : VS} (h : s.Wf) : s.leave.Wf := by
  have h1 := take_wf h s.inner.result
  refine ⟨?_, ?_⟩
  · show s.opens.tail.Pairwise _
    exact h.1.sublist (List.tail_sublist _)
  · show topOf s.opens.tail ≤ (s.take s.inner.result).stack.length
    have h2 := h1.2
    rw [take_opens] at h2
    cases ho : s.opens with
    | nil => exact Nat.zero_le _
    | cons b o =>
      rw [ho] at h2
      have h3 := h.1
      rw [ho] at h3
      exact Nat.le_trans (topOf_tail h3) h2
theorem leave_opens (s : VS) : s.leave.opens = s.opens.tail := rfl
@[simp] theorem label_opens (s : VS) (n : Int) : (s.label n).2.opens = s.opens := by unfold VS.label; split; split <;> rfl; rfl
theorem label_wf {s : VS} (h : s.Wf) (n : Int) : (s.label n).2.Wf := by unfold VS.label; split; split; exact h; exact ask_wf h _; exact ask_wf h _
end Go.Proofs.YtomffpibdinkaaaGreatDoor
