/-
  Facts and contracts that the proof calls.
-/
import Derived.Test.YtomffpibdinkaaaGreatDoorVbOpSpec
import Derived.Lib.ValidLaws
namespace Go.Proofs.YtomffpibdinkaaaGreatDoor
set_option maxRecDepth 100000
set_option maxHeartbeats 16000000
open Go.Lib
theorem cont_iff (x : UInt8) : (x.toNat : Int) / 64 = 2 ↔ 128 ≤ x.toNat ∧ x.toNat ≤ 191 := by omega
theorem name_two (b : UInt8) (t : List UInt8) (h : 194 ≤ b.toNat ∧ b.toNat < 224) :
    isName (b :: t) = match checkN (t.length + 1) (t.getD 0 0).toNat (t.getD 1 0).toNat (t.getD 2 0).toNat 2 128 191 with
      | none => false
      | some k => isName ((b :: t).drop k) := by
  have hl : lead (b.toNat : Int) = some (1, (b.toNat : Int) % 32) := lead_one (by omega) (by omega)
  have hb : 128 ≤ (b.toNat : Int) := by omega
  cases t with
  | nil => rw [isName_short hb hl rfl]; rfl
  | cons x t =>
    have hx := cont_iff x
    by_cases h1 : 128 ≤ x.toNat ∧ x.toNat ≤ 191
    · have e : checkN ((x :: t).length + 1) ((x :: t).getD 0 0).toNat ((x :: t).getD 1 0).toNat ((x :: t).getD 2 0).toNat 2 128 191 = some 2 := by
        unfold checkN; rw [if_pos rfl]; exact if_neg (by simp; omega)
      rw [e, isName_more hb hl (by rw [more_on (hx.2 h1)]; rfl)]
      simp [good]
    · have e : checkN ((x :: t).length + 1) ((x :: t).getD 0 0).toNat ((x :: t).getD 1 0).toNat ((x :: t).getD 2 0).toNat 2 128 191 = none := by
        unfold checkN; rw [if_pos rfl]; exact if_pos (by simp; omega)
      rw [e, isName_short hb hl (more_bad (fun q => h1 (hx.1 q)))]
theorem name_three (b : UInt8) (t : List UInt8) (lo hi : Nat) (h : 224 ≤ b.toNat ∧ b.toNat < 240) (hlo : (b.toNat = 224 ∧ lo = 160 ∧ hi = 191) ∨ (b.toNat = 237 ∧ lo = 128 ∧ hi = 159) ∨ (b.toNat ≠ 224 ∧ b.toNat ≠ 237 ∧ lo = 128 ∧ hi = 191)) :
    isName (b :: t) = match checkN (t.length + 1) (t.getD 0 0).toNat (t.getD 1 0).toNat (t.getD 2 0).toNat 3 lo hi with
      | none => false
      | some k => isName ((b :: t).drop k) := by
  have hl : lead (b.toNat : Int) = some (2, (b.toNat : Int) % 16) := lead_two (by omega) (by omega)
  have hb : 128 ≤ (b.toNat : Int) := by omega
  have no : ∀ {l : List UInt8}, (l.length + 1 < 3 ∨ (l.getD 0 0).toNat < lo ∨ hi < (l.getD 0 0).toNat ∨ (l.getD 1 0).toNat < 128 ∨ 191 < (l.getD 1 0).toNat) → checkN (l.length + 1) (l.getD 0 0).toNat (l.getD 1 0).toNat (l.getD 2 0).toNat 3 lo hi = none := fun {l} q => by
    unfold checkN; rw [if_neg (by decide), if_pos rfl]; exact if_pos q
  match t with
  | [] => rw [isName_short hb hl rfl, no (by simp)]
  | [x] =>
    rw [no (by simp)]
    by_cases h1 : (x.toNat : Int) / 64 = 2
    · exact isName_short hb hl (by rw [more_on h1]; rfl)
    · exact isName_short hb hl (more_bad h1)
  | x :: y :: t =>
    have hx := cont_iff x
    have hy := cont_iff y
    have hxl := x.toNat_lt
    by_cases h1 : (x.toNat : Int) / 64 = 2
    · by_cases h2 : (y.toNat : Int) / 64 = 2
      · rw [isName_more hb hl (by rw [more_on h1, more_on h2]; rfl)]
        have h1' := hx.1 h1
        have h2' := hy.1 h2
        by_cases h3 : lo ≤ x.toNat ∧ x.toNat ≤ hi
        · have e : checkN ((x :: y :: t).length + 1) ((x :: y :: t).getD 0 0).toNat ((x :: y :: t).getD 1 0).toNat ((x :: y :: t).getD 2 0).toNat 3 lo hi = some 3 := by
            unfold checkN; rw [if_neg (by decide), if_pos rfl]; exact if_neg (by simp; omega)
          rw [e]
          have hg : good 2 (((b.toNat : Int) % 16 * 64 + (x.toNat : Int) % 64) * 64 + (y.toNat : Int) % 64) = true := by
            unfold good; rw [decide_eq_true_eq]; omega
          rw [hg]; simp
        · rw [no (by simp; omega)]
          have hg : good 2 (((b.toNat : Int) % 16 * 64 + (x.toNat : Int) % 64) * 64 + (y.toNat : Int) % 64) = false := by
            unfold good; rw [decide_eq_false_iff_not]; omega
          rw [hg]; simp
      · rw [no (by simp; omega), isName_short hb hl (by rw [more_on h1]; exact more_bad h2)]
    · rw [no (by simp; omega), isName_short hb hl (more_bad h1)]
theorem name_four (b : UInt8) (t : List UInt8) (lo hi : Nat) (h : 240 ≤ b.toNat ∧ b.toNat < 245) (hlo : (b.toNat = 240 ∧ lo = 144 ∧ hi = 191) ∨ (b.toNat = 244 ∧ lo = 128 ∧ hi = 143) ∨ (b.toNat ≠ 240 ∧ b.toNat ≠ 244 ∧ lo = 128 ∧ hi = 191)) :
    isName (b :: t) = match checkN (t.length + 1) (t.getD 0 0).toNat (t.getD 1 0).toNat (t.getD 2 0).toNat 4 lo hi with
      | none => false
      | some k => isName ((b :: t).drop k) := by
  have hl : lead (b.toNat : Int) = some (3, (b.toNat : Int) % 8) := lead_three (by omega) (by omega)
  have hb : 128 ≤ (b.toNat : Int) := by omega
  have no : ∀ {l : List UInt8}, (l.length + 1 < 4 ∨ (l.getD 0 0).toNat < lo ∨ hi < (l.getD 0 0).toNat ∨ (l.getD 1 0).toNat < 128 ∨ 191 < (l.getD 1 0).toNat ∨ (l.getD 2 0).toNat < 128 ∨ 191 < (l.getD 2 0).toNat) → checkN (l.length + 1) (l.getD 0 0).toNat (l.getD 1 0).toNat (l.getD 2 0).toNat 4 lo hi = none := fun {l} q => by
    unfold checkN; rw [if_neg (by decide), if_neg (by decide), if_pos rfl]; exact if_pos q
  match t with
  | [] => rw [isName_short hb hl rfl, no (by simp)]
  | [x] =>
    rw [no (by simp)]
    by_cases h1 : (x.toNat : Int) / 64 = 2
    · exact isName_short hb hl (by rw [more_on h1]; rfl)
    · exact isName_short hb hl (more_bad h1)
  | [x, y] =>
    rw [no (by simp)]
    by_cases h1 : (x.toNat : Int) / 64 = 2
    · by_cases h2 : (y.toNat : Int) / 64 = 2
      · exact isName_short hb hl (by rw [more_on h1, more_on h2]; rfl)
      · exact isName_short hb hl (by rw [more_on h1]; exact more_bad h2)
    · exact isName_short hb hl (more_bad h1)
  | x :: y :: z :: t =>
    have hx := cont_iff x
    have hy := cont_iff y
    have hz := cont_iff z
    by_cases h1 : (x.toNat : Int) / 64 = 2
    · by_cases h2 : (y.toNat : Int) / 64 = 2
      · by_cases h4 : (z.toNat : Int) / 64 = 2
        · rw [isName_more hb hl (by rw [more_on h1, more_on h2, more_on h4]; rfl)]
          have h1' := hx.1 h1
          have h2' := hy.1 h2
          have h4' := hz.1 h4
          by_cases h3 : lo ≤ x.toNat ∧ x.toNat ≤ hi
          · have e : checkN ((x :: y :: z :: t).length + 1) ((x :: y :: z :: t).getD 0 0).toNat ((x :: y :: z :: t).getD 1 0).toNat ((x :: y :: z :: t).getD 2 0).toNat 4 lo hi = some 4 := by
              unfold checkN; rw [if_neg (by decide), if_neg (by decide), if_pos rfl]; exact if_neg (by simp; omega)
            rw [e]
            have hg : good 3 ((((b.toNat : Int) % 8 * 64 + (x.toNat : Int) % 64) * 64 + (y.toNat : Int) % 64) * 64 + (z.toNat : Int) % 64) = true := by
              unfold good; rw [decide_eq_true_eq]; omega
            rw [hg]; simp
          · rw [no (by simp; omega)]
            have hg : good 3 ((((b.toNat : Int) % 8 * 64 + (x.toNat : Int) % 64) * 64 + (y.toNat : Int) % 64) * 64 + (z.toNat : Int) % 64) = false := by
              unfold good; rw [decide_eq_false_iff_not]; omega
            rw [hg]; simp
        · rw [no (by simp; omega), isName_short hb hl (by rw [more_on h1, more_on h2]; exact more_bad h4)]
      · rw [no (by simp; omega), isName_short hb hl (by rw [more_on h1]; exact more_bad h2)]
    · rw [no (by simp; omega), isName_short hb hl (more_bad h1)]
theorem check_ge {n b1 b2 b3 sz lo hi k : Nat} (h : checkN n b1 b2 b3 sz lo hi = some k) : 1 ≤ k := by
  unfold checkN at h
  repeat' split at h
  all_goals first | (cases h; done) | (injection h with h; omega)
theorem valid_aux : ∀ (n : Nat) (l : List UInt8), l.length ≤ n → validD l = isName l := by
  intro n
  induction n with
  | zero => intro l h; obtain rfl : l = [] := List.eq_nil_of_length_eq_zero (by omega); rfl
  | succ n ih =>
    intro l h
    cases l with
    | nil => rfl
    | cons b t =>
      have hbl := b.toNat_lt
      by_cases h0 : b.toNat < 128
      · rw [validD_cons b t h0, isName_one (by omega)]
        exact ih t (by simpa using h)
      · rw [validD_lead (b :: t) (by simp) (by simp; omega)]
        simp only [List.getD_cons_zero, List.getD_cons_succ, List.length_cons]
        have fin : ∀ (sz lo hi : Nat), isName (b :: t) = (match checkN (t.length + 1) (t.getD 0 0).toNat (t.getD 1 0).toNat (t.getD 2 0).toNat sz lo hi with
            | none => false
            | some k => isName ((b :: t).drop k)) → (match checkN (t.length + 1) (t.getD 0 0).toNat (t.getD 1 0).toNat (t.getD 2 0).toNat sz lo hi with
            | none => false
            | some k => validD ((b :: t).drop k)) = isName (b :: t) := fun sz lo hi e => by
          rw [e]
          cases hc : checkN (t.length + 1) (t.getD 0 0).toNat (t.getD 1 0).toNat (t.getD 2 0).toNat sz lo hi with
          | none => rfl
          | some k =>
            have hk := check_ge hc
            exact ih _ (by simp at h ⊢; omega)
        by_cases c0 : b.toNat < 194
        · rw [isName_bad (by omega) (lead_none (by omega))]
          simp [firstT, checkN, h0, c0]
        by_cases c1 : b.toNat < 224
        · have f : firstT b.toNat = 2 := by simp [firstT, h0, c0, c1]
          rw [f]; exact fin 2 128 191 (name_two b t ⟨by omega, c1⟩)
        by_cases c2 : b.toNat = 224
        · have f : firstT b.toNat = 19 := by rw [c2]; rfl
          rw [f]; exact fin 3 160 191 (name_three b t 160 191 (by omega) (by omega))
        by_cases c3 : b.toNat < 237
        · have f : firstT b.toNat = 3 := by simp [firstT, h0, c0, c1, c2, c3]
          rw [f]; exact fin 3 128 191 (name_three b t 128 191 (by omega) (by omega))
        by_cases c4 : b.toNat = 237
        · have f : firstT b.toNat = 35 := by rw [c4]; rfl
          rw [f]; exact fin 3 128 159 (name_three b t 128 159 (by omega) (by omega))
        by_cases c5 : b.toNat < 240
        · have f : firstT b.toNat = 3 := by simp [firstT, h0, c0, c1, c2, c3, c4, c5]
          rw [f]; exact fin 3 128 191 (name_three b t 128 191 (by omega) (by omega))
        by_cases c6 : b.toNat = 240
        · have f : firstT b.toNat = 52 := by rw [c6]; rfl
          rw [f]; exact fin 4 144 191 (name_four b t 144 191 (by omega) (by omega))
        by_cases c7 : b.toNat < 244
        · have f : firstT b.toNat = 4 := by simp [firstT, h0, c0, c1, c2, c3, c4, c5, c6, c7]
          rw [f]; exact fin 4 128 191 (name_four b t 128 191 (by omega) (by omega))
        by_cases c8 : b.toNat = 244
        · have f : firstT b.toNat = 68 := by rw [c8]; rfl
          rw [f]; exact fin 4 128 143 (name_four b t 128 143 (by omega) (by omega))
        · rw [isName_bad (by omega) (lead_none (by omega))]
          simp [firstT, checkN, h0, c0, c1, c2, c3, c4, c5, c6, c7, c8]
theorem valid_name (l : List UInt8) : validD l = isName l := valid_aux l.length l (Nat.le_refl _)
end Go.Proofs.YtomffpibdinkaaaGreatDoor
