/-
  Each quote twice: what the library's ReplaceAll makes of a text. No program is looked at.
-/
import Derived.Lib.ReplaceLaws
import Derived.Lib.CountLaws
import Derived.Lib.SplitLaws
namespace Go.Proofs.YtfjoobopfjahcaaDoor
open Go.Lib

def twice (l : List UInt8) : List UInt8 := l.flatMap (fun c => if c = 39 then [39, 39] else [c])
theorem index_same (l : List UInt8) : index (39 :: l) [39] = 0 := by unfold index; simp
theorem index_else {b : UInt8} (l : List UInt8) (h : b ≠ 39) {i : Nat} (hi : index l [39] = i) : index (b :: l) [39] = (i + 1 : Nat) := by
  have hb : ([39] : List UInt8).isPrefixOf (b :: l) = false := by simp [List.isPrefixOf]; exact fun e => h e.symm
  rw [index, hb, hi]
  simp
theorem replaceK_twice : ∀ l : List UInt8, replaceK [39] [39, 39] (count l [39]) l = twice l
  | [] => by
    have : count ([] : List UInt8) [39] = 0 := by decide
    rw [this]; rfl
  | b :: l => by
    have ih := replaceK_twice l
    by_cases hb : b = 39
    · subst hb
      have hc := count_hit (s := 39 :: l) (sub := [39]) (i := 0) (by simp) (index_same l)
      rw [show (39 :: l).drop (0 + ([39] : List UInt8).length) = l from rfl] at hc
      rw [hc, Nat.add_comm, replaceK_hit _ _ _ _ 0 (index_same l), show (39 :: l).drop (0 + ([39] : List UInt8).length) = l from rfl, ih]
      simp [twice]
    · rw [count_cons_ne b 39 l hb]
      cases hk : count l [39] with
      | zero =>
        rw [hk] at ih
        simp only [replaceK] at ih ⊢
        rw [twice, List.flatMap_cons, if_neg hb]
        rw [twice] at ih
        rw [← ih]; rfl
      | succ k =>
        rw [hk] at ih
        obtain ⟨i, hi⟩ := index_of_count (s := l) (old := [39]) (by omega)
        rw [replaceK_hit _ _ _ _ i hi] at ih
        rw [replaceK_hit _ _ _ _ (i + 1) (index_else l hb hi)]
        have e1 : (b :: l).take (i + 1) = b :: l.take i := rfl
        have e2 : (b :: l).drop (i + 1 + ([39] : List UInt8).length) = l.drop (i + ([39] : List UInt8).length) := by simp
        rw [e1, e2, twice, List.flatMap_cons, if_neg hb]
        rw [twice] at ih
        rw [← ih]; rfl
theorem replaceAll_twice (l : List UInt8) : replaceAll l [39] [39, 39] = twice l := by
  unfold replaceAll replace replaceNum
  rw [if_neg (by decide), if_pos (by omega)]
  exact replaceK_twice l
theorem twice_cons (b : UInt8) (l : List UInt8) : twice (b :: l) = (if b = 39 then [39, 39] else [b]) ++ twice l := by unfold twice; rw [List.flatMap_cons]
theorem twice_len : ∀ l : List UInt8, (twice l).length ≤ 2 * l.length
  | [] => by simp [twice]
  | b :: l => by
    have := twice_len l
    rw [twice_cons, List.length_append, List.length_cons]
    by_cases h : b = 39
    · rw [if_pos h]; simp only [List.length_cons, List.length_nil]; omega
    · rw [if_neg h]; simp only [List.length_cons, List.length_nil]; omega
end Go.Proofs.YtfjoobopfjahcaaDoor
