/-
  Two numbers, two texts that are told the same are the same: on Lean's numbers and lists. No program is looked at.
-/
import Derived.Test.YtfjoobopfjahcaaDoorVuScaleMath
import Derived.Test.YtfjoobopfjahcaaDoorVuSpelt
namespace Go.Proofs.YtfjoobopfjahcaaDoor
set_option linter.unusedVariables false
open Go.RowKit

/-- What digits are worth. -/
def valD (l : List UInt8) : Nat := l.foldl (fun a c => 10 * a + (c.toNat - 48)) 0
theorem valD_snoc (l : List UInt8) (c : UInt8) : valD (l ++ [c]) = 10 * valD l + (c.toNat - 48) := by simp [valD]
theorem digit_toNat {d : Nat} (h : d < 10) : (UInt8.ofNat (48 + d)).toNat = 48 + d := by
  rw [UInt8.toNat_ofNat']; omega
theorem valD_dec (u : Nat) : valD (Lib.decDigits u) = u := by
  induction u using Nat.strongRecOn with
  | _ u ih =>
    unfold Lib.decDigits
    split
    · rename_i h
      simp only [valD, List.foldl_cons, List.foldl_nil, digit_toNat h]
      omega
    · rename_i h
      rw [valD_snoc, ih (u / 10) (by omega), digit_toNat (by omega)]
      omega
theorem dec_digits (u : Nat) : ∀ c ∈ Lib.decDigits u, 48 ≤ c.toNat ∧ c.toNat ≤ 57 := by
  induction u using Nat.strongRecOn with
  | _ u ih =>
    unfold Lib.decDigits
    split
    · rename_i h
      intro c hc
      rw [List.mem_singleton] at hc
      subst hc
      rw [digit_toNat h]
      omega
    · rename_i h
      intro c hc
      rcases List.mem_append.1 hc with hc | hc
      · exact ih (u / 10) (by omega) c hc
      · rw [List.mem_singleton] at hc
        subst hc
        rw [digit_toNat (by omega)]
        omega
theorem valD_zeros (k : Nat) (l : List UInt8) : valD (List.replicate k 48 ++ l) = valD l := by
  induction k with
  | zero => simp
  | succ k ih =>
    rw [List.replicate_succ, List.cons_append]
    unfold valD at ih ⊢
    rw [List.foldl_cons]
    exact ih
theorem padded_val (n : Int) (m : Nat) : valD (padded n m) = n.natAbs := by unfold padded; rw [valD_zeros, valD_dec]
theorem padded_digits (n : Int) (m : Nat) : ∀ c ∈ padded n m, 48 ≤ c.toNat ∧ c.toNat ≤ 57 := by
  intro c hc
  unfold padded at hc
  rcases List.mem_append.1 hc with hc | hc
  · rw [(List.mem_replicate.1 hc).2]; decide
  · exact dec_digits _ c hc
theorem padded_len (n : Int) (m : Nat) : m ≤ (padded n m).length := by unfold padded; rw [List.length_append, List.length_replicate]; omega

/-- A number's text without its sign. -/
def bodyN (n : Int) (p : Nat) : List UInt8 := if p = 0 then padded n 1 else (padded n (p + 1)).take ((padded n (p + 1)).length - p) ++ 46 :: (padded n (p + 1)).drop ((padded n (p + 1)).length - p)
theorem spell_body (n : Int) (p : Nat) : spellN n p = (if n < 0 then [45] else []) ++ bodyN n p := rfl
theorem body_head (n : Int) (p : Nat) : ∃ c r, bodyN n p = c :: r ∧ 48 ≤ c.toNat := by
  unfold bodyN
  split
  · have hl := padded_len n 1
    cases h : padded n 1 with
    | nil => rw [h] at hl; simp at hl
    | cons c r => exact ⟨c, r, rfl, (padded_digits n 1 c (by rw [h]; simp)).1⟩
  · have hl := padded_len n (p + 1)
    cases h : padded n (p + 1) with
    | nil => rw [h] at hl; simp at hl
    | cons c r =>
      have hc := (padded_digits n (p + 1) c (by rw [h]; simp)).1
      rw [h] at hl
      obtain ⟨k, hk⟩ : ∃ k, (c :: r).length - p = k + 1 := ⟨(c :: r).length - p - 1, by omega⟩
      rw [hk, List.take_succ_cons]
      exact ⟨c, _, rfl, hc⟩
theorem body_inj {a b : Int} {p : Nat} (h : bodyN a p = bodyN b p) : a.natAbs = b.natAbs := by
  unfold bodyN at h
  by_cases hp : p = 0
  · rw [if_pos hp, if_pos hp] at h
    rw [← padded_val a 1, ← padded_val b 1, h]
  · rw [if_neg hp, if_neg hp] at h
    have la := padded_len a (p + 1)
    have lb := padded_len b (p + 1)
    have hl := congrArg List.length h
    simp only [List.length_append, List.length_take, List.length_cons, List.length_drop] at hl
    obtain ⟨h1, h2⟩ := List.append_inj h (by simp only [List.length_take]; omega)
    have h3 := (List.cons.inj h2).2
    rw [← padded_val a (p + 1), ← padded_val b (p + 1), ← List.take_append_drop ((padded a (p + 1)).length - p) (padded a (p + 1)), h1, h3, List.take_append_drop]
theorem spell_inj {a b : Int} {p : Nat} (h : spellN a p = spellN b p) : a = b := by
  rw [spell_body, spell_body] at h
  obtain ⟨c, r, ea, ha⟩ := body_head a p
  obtain ⟨d, t, eb, hb⟩ := body_head b p
  have h45 : (45 : UInt8).toNat = 45 := rfl
  by_cases h1 : a < 0
  · by_cases h2 : b < 0
    · rw [if_pos h1, if_pos h2] at h
      have := body_inj (List.append_cancel_left h)
      omega
    · rw [if_pos h1, if_neg h2, eb] at h
      have := (List.cons.inj h).1
      rw [← this] at hb
      omega
  · by_cases h2 : b < 0
    · rw [if_neg h1, if_pos h2, ea] at h
      have := (List.cons.inj h).1
      rw [this] at ha
      omega
    · rw [if_neg h1, if_neg h2] at h
      have := body_inj (List.append_cancel_left h)
      omega
theorem body_len (n : Int) (p : Nat) : p + 1 ≤ (bodyN n p).length := by
  unfold bodyN
  split
  · have := padded_len n 1; omega
  · have := padded_len n (p + 1)
    simp only [List.length_append, List.length_take, List.length_cons, List.length_drop]
    omega
theorem spell_len (n : Int) (p : Nat) : p + 1 ≤ (spellN n p).length := by rw [spell_body, List.length_append]; have := body_len n p; omega
/-- Where the point stands. -/
theorem spell_point (n : Int) {p : Nat} (hp : p ≠ 0) : (spellN n p)[(spellN n p).length - p - 1]? = some 46 := by
  rw [spell_body]
  unfold bodyN
  rw [if_neg hp, ← List.append_assoc]
  have la := padded_len n (p + 1)
  have hd : ((padded n (p + 1)).drop ((padded n (p + 1)).length - p)).length = p := by rw [List.length_drop]; omega
  generalize (if n < 0 then ([45] : List UInt8) else []) ++ (padded n (p + 1)).take ((padded n (p + 1)).length - p) = F
  rw [List.length_append, List.length_cons, hd, List.getElem?_append_right (by omega), show F.length + (p + 1) - p - 1 - F.length = 0 by omega]
  rfl
theorem quote_inj : ∀ {l m : List UInt8}, (l.flatMap (fun c => if c = 39 then [39, 39] else [c])) = (m.flatMap (fun c => if c = 39 then [39, 39] else [c])) → l = m
  | [], [], _ => rfl
  | [], d :: m, h => by rw [List.flatMap_cons] at h; split at h <;> simp at h
  | c :: l, [], h => by rw [List.flatMap_cons] at h; split at h <;> simp at h
  | c :: l, d :: m, h => by
    rw [List.flatMap_cons, List.flatMap_cons] at h
    by_cases h1 : c = 39
    · by_cases h2 : d = 39
      · rw [if_pos h1, if_pos h2] at h
        have e : l = m := quote_inj (List.append_cancel_left h)
        rw [h1, h2, e]
      · rw [if_pos h1, if_neg h2] at h
        exact absurd (List.cons.inj h).1.symm h2
    · by_cases h2 : d = 39
      · rw [if_neg h1, if_pos h2] at h
        exact absurd (List.cons.inj h).1 h1
      · rw [if_neg h1, if_neg h2] at h
        have hh := List.cons.inj h
        have e : l = m := quote_inj (by simpa using hh.2)
        rw [hh.1, e]
theorem quoted_inj {l m : List UInt8} (h : quoted l = quoted m) : l = m := by
  unfold quoted at h
  exact quote_inj (List.append_cancel_right (List.cons.inj h).2)

theorem spell_short (n : Int) {p : Nat} (hn : -9223372036854775808 ≤ n ∧ n ≤ 9223372036854775807) (hp : p ≤ 9) : (spellN n p).length ≤ 40 := by
  have hd := (digits_len (u := n.natAbs) (by omega)).2
  have hl : ∀ m, (padded n m).length ≤ m + 20 := fun m => by unfold padded; rw [List.length_append, List.length_replicate]; omega
  have h1 := hl 1
  have h2 := hl (p + 1)
  rw [spell_body, List.length_append]
  have hs : (if n < 0 then ([45] : List UInt8) else []).length ≤ 1 := by split <;> simp
  have hb : (bodyN n p).length ≤ 32 := by
    unfold bodyN
    split
    · omega
    · simp only [List.length_append, List.length_take, List.length_cons, List.length_drop]; omega
  omega
theorem txt_num (n : Int) {p : Int} (hp : 0 ≤ p ∧ p ≤ 9) : txtV false n ⟨#[]⟩ (kindOf p) p = (⟨(spellN n p.toNat).toArray⟩, true) := by
  unfold txtV
  have hk : kindOf p = 1 ∨ kindOf p = 2 := by unfold kindOf; split <;> simp
  rw [if_neg (by rw [fit_num p n hp]; simp), if_neg (by simp), if_neg (by omega), if_neg (by omega)]
theorem txt_bytes {z : ByteArray} (h : z.size ≤ 200) : txtV false 0 z 3 0 = (⟨(quoted z.data.toList).toArray⟩, true) := by
  have hf : fitV 3 0 true false 0 z = true := by unfold fitV; simp [tyR, h]
  unfold txtV
  rw [if_neg (by rw [hf]; simp), if_neg (by simp), if_pos rfl]
end Go.Proofs.YtfjoobopfjahcaaDoor
