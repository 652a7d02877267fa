/-
  Package value's Arith, whole: whatever the operator, the values and their types, it answers what the chapter says. Contracts that the proofs call; no statement is proved here.
-/
import Derived.Test.YtfjoobopfjahcaaDoorVuArithPlus
import Derived.Test.YtfjoobopfjahcaaDoorVuArithMinus
import Derived.Test.YtfjoobopfjahcaaDoorVuArithTimes
import Derived.Test.YtfjoobopfjahcaaDoorVuArithQuo
import Derived.Test.YtfjoobopfjahcaaDoorVuEven
namespace Go.Proofs.YtfjoobopfjahcaaDoor
set_option linter.unusedVariables false
open Go.RowKit

theorem isOp_no {op : Int} (h : isOp op = false) (s t : Int) : scaleOf op s t = -1 := by
  unfold isOp at h
  simp at h
  unfold scaleOf
  rw [if_neg (by omega), if_neg (by omega), if_neg (by omega)]
theorem fitN_two (n : Int) : room n = true ∧ fitN n = (n, 0) ∨ room n = false ∧ fitN n = (0, 11) := by
  cases h : room n
  · exact Or.inr ⟨rfl, fitN_no h⟩
  · exact Or.inl ⟨rfl, fitN_yes h⟩
theorem scale_in {n f t : Int} (h : 0 ≤ f ∧ f ≤ 9 ∧ f ≤ t ∧ t ≤ 9) : scaleV n f t = fitN (n * 10 ^ (t - f).toNat) := by unfold scaleV; rw [if_pos h]

/-- The type that an operator answers, as the machine holds it. -/
theorem kind_zero : kindOf 0 = 1 := rfl
theorem kind_else {s : Int} (h : s ≠ 0) : kindOf s = 2 := by unfold kindOf; rw [if_neg h]

theorem typed_plus_yes (ka sa kb sb M : Int) (hall : (numK ka && tyR ka sa && numK kb && tyR kb sb) = true) (hM : max sa sb = M) (h0 : 0 ≤ M ∧ M ≤ 9) (w : World) :
    Calls Tryd.prog 28 #[.int .u8 43, .agg #[.int .i64 ka, .int .i64 sa], .agg #[.int .i64 kb, .int .i64 sb]] w fun e w' => e = .returned (.tuple #[.agg #[.func (.func 55) #[] #[], .bool true, .func (.func 57) #[] #[]], .agg #[.int .i64 (kindOf M), .int .i64 M], .bool true]) ∧ Below w.heap.size w w' := by
  by_cases hz : M = 0
  · have h := typed_plus_zero ka sa kb sb M hall hM hz w
    subst hz
    exact h
  · have h := typed_plus_dec ka sa kb sb M hall hM (by omega) w
    rw [kind_else hz]
    exact h

theorem typed_minus_yes (ka sa kb sb M : Int) (hall : (numK ka && tyR ka sa && numK kb && tyR kb sb) = true) (hM : max sa sb = M) (h0 : 0 ≤ M ∧ M ≤ 9) (w : World) :
    Calls Tryd.prog 28 #[.int .u8 45, .agg #[.int .i64 ka, .int .i64 sa], .agg #[.int .i64 kb, .int .i64 sb]] w fun e w' => e = .returned (.tuple #[.agg #[.func (.func 55) #[] #[], .bool true, .func (.func 58) #[] #[]], .agg #[.int .i64 (kindOf M), .int .i64 M], .bool true]) ∧ Below w.heap.size w w' := by
  by_cases hz : M = 0
  · have h := typed_minus_zero ka sa kb sb M hall hM hz w
    subst hz
    exact h
  · have h := typed_minus_dec ka sa kb sb M hall hM (by omega) w
    rw [kind_else hz]
    exact h

theorem typed_times_yes (ka sa kb sb M : Int) (hall : (numK ka && tyR ka sa && numK kb && tyR kb sb) = true) (hM : sa + sb = M) (h0 : 0 ≤ M ∧ M ≤ 9) (w : World) :
    Calls Tryd.prog 28 #[.int .u8 42, .agg #[.int .i64 ka, .int .i64 sa], .agg #[.int .i64 kb, .int .i64 sb]] w fun e w' => e = .returned (.tuple #[.agg #[.func (.func 56) #[] #[], .bool false, .func (.func 60) #[] #[]], .agg #[.int .i64 (kindOf M), .int .i64 M], .bool true]) ∧ Below w.heap.size w w' := by
  by_cases hz : M = 0
  · have h := typed_times_zero ka sa kb sb M hall hM hz w
    subst hz
    exact h
  · have h := typed_times_dec ka sa kb sb M hall hM (by omega) w
    rw [kind_else hz]
    exact h

theorem typed_quo_yes (ka sa kb sb M : Int) (hall : (numK ka && tyR ka sa && numK kb && tyR kb sb) = true) (hM : (if sb = 0 then sa else -1) = M) (h0 : 0 ≤ M ∧ M ≤ 9) (w : World) :
    Calls Tryd.prog 28 #[.int .u8 47, .agg #[.int .i64 ka, .int .i64 sa], .agg #[.int .i64 kb, .int .i64 sb]] w fun e w' => e = .returned (.tuple #[.agg #[.func (.func 62) #[] #[], .bool false, .func (.func 63) #[] #[]], .agg #[.int .i64 (kindOf M), .int .i64 M], .bool true]) ∧ Below w.heap.size w w' := by
  by_cases hz : M = 0
  · have h := typed_quo_zero ka sa kb sb M hall hM hz w
    subst hz
    exact h
  · have h := typed_quo_dec ka sa kb sb M hall hM (by omega) w
    rw [kind_else hz]
    exact h

theorem typed_no (op ka sa kb sb : Int) (h0 : 0 ≤ op) (h1 : op ≤ 255) (h : arS op ka sa kb sb < 0) (w : World) :
    Calls Tryd.prog 28 #[.int .u8 op, .agg #[.int .i64 ka, .int .i64 sa], .agg #[.int .i64 kb, .int .i64 sb]] w fun e w' => e = .returned (.tuple #[.agg #[.nilFunc, .bool false, .nilFunc], .agg #[.int .i64 0, .int .i64 0], .bool false]) ∧ Below w.heap.size w w' := by
  cases hall : (numK ka && tyR ka sa && numK kb && tyR kb sb)
  · refine typed_none op ka sa kb sb h0 h1 ?_ w
    rw [Bool.and_assoc, ← Bool.and_assoc (numK ka && tyR ka sa), hall, Bool.and_false]
  · obtain ⟨hs, g1, g2, g3, g4⟩ := arS_yes (op := op) hall
    rw [hs] at h
    cases hi : isOp op
    · exact typed_none op ka sa kb sb h0 h1 (by rw [hi]; simp) w
    · unfold isOp at hi
      simp at hi
      unfold scaleOf at h
      rcases hi with ((rfl | rfl) | rfl) | rfl
      · rw [if_pos (Or.inl rfl)] at h; omega
      · rw [if_pos (Or.inr rfl)] at h; omega
      · rw [if_neg (by omega), if_pos rfl] at h
        refine typed_times_no ka sa kb sb _ hall rfl ?_ w
        split at h <;> omega
      · rw [if_neg (by omega), if_neg (by omega), if_pos rfl] at h
        refine typed_quo_no ka sa kb sb _ hall rfl ?_ w
        split at h
        · omega
        · rename_i hz; rw [if_neg hz]; omega

def arVal (r : Bool × Int × Int) : Value := .tuple #[.agg #[.bool r.1, .int .i64 r.2.1, .string ⟨#[]⟩], .int .i64 r.2.2]

theorem quoV_two (a b : Int) : True ∧ quoV a b = ((quoV a b).1, 0) ∨ True ∧ quoV a b = (0, 11) := by
  unfold quoV
  by_cases h : b = 0
  · rw [if_pos h]; exact Or.inr ⟨trivial, rfl⟩
  · rw [if_neg h]
    rcases fitN_two (a.tdiv b) with ⟨_, h2⟩ | ⟨_, h2⟩
    · rw [h2]; exact Or.inl ⟨trivial, rfl⟩
    · rw [h2]; exact Or.inr ⟨trivial, rfl⟩

theorem arV_no {op : Int} {ua : Bool} {na : Int} {za : ByteArray} {ub : Bool} {nb : Int} {zb : ByteArray} {ka sa kb sb : Int} (h : arS op ka sa kb sb < 0) : arV op ua na za ub nb zb ka sa kb sb = (false, 0, 4) := by
  unfold arV; rw [if_pos h]
theorem arV_arg {op : Int} {ua : Bool} {na : Int} {za : ByteArray} {ub : Bool} {nb : Int} {zb : ByteArray} {ka sa kb sb : Int} (h : ¬ arS op ka sa kb sb < 0) (hf : (fitV ka sa true ua na za && fitV kb sb true ub nb zb) = false) : arV op ua na za ub nb zb ka sa kb sb = (false, 0, 1) := by
  unfold arV; rw [if_neg h, if_pos hf]
theorem arV_null {op : Int} {ua : Bool} {na : Int} {za : ByteArray} {ub : Bool} {nb : Int} {zb : ByteArray} {ka sa kb sb : Int} (h : ¬ arS op ka sa kb sb < 0) (hf : (fitV ka sa true ua na za && fitV kb sb true ub nb zb) = true) (hu : (ua || ub) = true) : arV op ua na za ub nb zb ka sa kb sb = (true, 0, 0) := by
  unfold arV; rw [if_neg h, if_neg (by rw [hf]; simp), if_pos hu]
theorem arV_rec {op : Int} {na : Int} {za : ByteArray} {nb : Int} {zb : ByteArray} {ka sa kb sb M : Int} (hM : arS op ka sa kb sb = M) (h : ¬ M < 0) (hf : (fitV ka sa true false na za && fitV kb sb true false nb zb) = true) : arV op false na za false nb zb ka sa kb sb =
    if op = 43 ∨ op = 45 then (if (room (na * 10 ^ (M - sa).toNat) && room (nb * 10 ^ (M - sb).toNat)) = true then (false, reck op (na * 10 ^ (M - sa).toNat) (nb * 10 ^ (M - sb).toNat)) else (false, 0, 11)) else (false, reck op na nb) := by
  unfold arV; rw [hM, if_neg h, if_neg (by rw [hf]; simp), if_neg (by simp)]

set_option maxHeartbeats 2000000 in
/-- Arith answers what the chapter says. -/
theorem val_arith (op : Int) (ua : Bool) (na : Int) (za : ByteArray) (ub : Bool) (nb : Int) (zb : ByteArray) (ka sa kb sb : Int) (h0 : 0 ≤ op) (h1 : op ≤ 255) (hna : -9223372036854775808 ≤ na ∧ na ≤ 9223372036854775807) (hnb : -9223372036854775808 ≤ nb ∧ nb ≤ 9223372036854775807) (hza : za.size ≤ maxLen) (hzb : zb.size ≤ maxLen) (w : World) (hL : Laid w) :
    Calls Tryd.prog 20 #[.int .u8 op, .agg #[.bool ua, .int .i64 na, .string za], .agg #[.bool ub, .int .i64 nb, .string zb], .agg #[.int .i64 ka, .int .i64 sa], .agg #[.int .i64 kb, .int .i64 sb]] w fun e w' => e = .returned (arVal (arV op ua na za ub nb zb ka sa kb sb)) ∧ Below w.heap.size w w' := by
  by_cases hs : arS op ka sa kb sb < 0
  · rw [arV_no hs]
    exact arith_none op ua na za ub nb zb ka sa kb sb h0 h1 w (typed_no op ka sa kb sb h0 h1 hs)
  · cases hall : (numK ka && tyR ka sa && numK kb && tyR kb sb)
    · exact absurd (show arS op ka sa kb sb < 0 by rw [arS_no hall]; decide) hs
    obtain ⟨he, g1, g2, g3, g4⟩ := arS_yes (op := op) hall
    obtain ⟨M, hM⟩ : ∃ M, arS op ka sa kb sb = M := ⟨_, rfl⟩
    have hM0 : ¬ M < 0 := by omega
    rw [hM] at he
    have hop : op = 43 ∨ op = 45 ∨ op = 42 ∨ op = 47 := by
      unfold scaleOf at he
      by_cases a : op = 43; · exact Or.inl a
      by_cases b : op = 45; · exact Or.inr (Or.inl b)
      by_cases c : op = 42; · exact Or.inr (Or.inr (Or.inl c))
      by_cases d : op = 47; · exact Or.inr (Or.inr (Or.inr d))
      rw [if_neg (by omega), if_neg c, if_neg d] at he; omega
    rcases hop with rfl | rfl | rfl | rfl
    · rw [show scaleOf 43 sa sb = max sa sb from if_pos (Or.inl rfl)] at he
      have ct := typed_plus_yes ka sa kb sb M hall he.symm (by omega)
      cases hf : fitV ka sa true ua na za
      · rw [arV_arg hs (by rw [hf]; rfl)]
        exact arith_plus_argA ua na za ub nb zb ka sa kb sb _ M hf hza hzb w hL ct
      cases hg : fitV kb sb true ub nb zb
      · rw [arV_arg hs (by rw [hg]; simp)]
        exact arith_plus_argB ua na za ub nb zb ka sa kb sb _ M hf hg hza hzb w hL ct
      have hfg : (fitV ka sa true ua na za && fitV kb sb true ub nb zb) = true := by rw [hf, hg]; rfl
      cases hu : ua
      · cases hv : ub
        · subst hu hv
          rw [arV_rec hM hM0 hfg]
          rw [if_pos (by omega)]
          have ce := fun w => val_evened na nb sa sb M hna hnb w
          rw [scale_in (n := na) (f := sa) (t := M) (by omega), scale_in (n := nb) (f := sb) (t := M) (by omega)] at ce
          rcases fitN_two (na * 10 ^ (M - sa).toNat) with ⟨x1, x2⟩ | ⟨x1, x2⟩
          · rcases fitN_two (nb * 10 ^ (M - sb).toNat) with ⟨y1, y2⟩ | ⟨y1, y2⟩
            · rw [x1, y1, if_pos (show (true && true) = true from rfl)]
              rw [x2, y2] at ce
              have cr := fun w => op_plus (na * 10 ^ (M - sa).toNat) (nb * 10 ^ (M - sb).toNat) (room_true.1 x1) (room_true.1 y1) w
              have hr : reck 43 (na * 10 ^ (M - sa).toNat) (nb * 10 ^ (M - sb).toNat) = fitN (na * 10 ^ (M - sa).toNat + nb * 10 ^ (M - sb).toNat) := rfl
              rw [hr]
              rcases fitN_two (na * 10 ^ (M - sa).toNat + nb * 10 ^ (M - sb).toNat) with ⟨r1, r2⟩ | ⟨r1, r2⟩
              · rw [r2] at cr ⊢
                exact arith_plus_ok na za nb zb ka sa kb sb _ M hf hg _ _ _ ce cr hza hzb w hL ct
              · rw [r2] at cr ⊢
                exact arith_plus_full na za nb zb ka sa kb sb _ M hf hg _ _ _ ce cr hza hzb w hL ct
            · rw [x1, y1, if_neg (show ¬ (true && false) = true by simp)]
              rw [x2, y2] at ce
              exact arith_plus_wide na za nb zb ka sa kb sb _ M hf hg _ _ ce hza hzb w hL ct
          · rw [x1, if_neg (by simp)]
            rw [x2] at ce
            exact arith_plus_wide na za nb zb ka sa kb sb _ M hf hg _ _ ce hza hzb w hL ct
        · subst hu hv
          rw [arV_null hs hfg rfl]
          exact arith_plus_nullB false na za true nb zb ka sa kb sb _ M hf hg rfl rfl hza hzb w hL ct
      · subst hu
        rw [arV_null hs hfg rfl]
        exact arith_plus_nullA true na za ub nb zb ka sa kb sb _ M hf hg rfl hza hzb w hL ct
    · rw [show scaleOf 45 sa sb = max sa sb from if_pos (Or.inr rfl)] at he
      have ct := typed_minus_yes ka sa kb sb M hall he.symm (by omega)
      cases hf : fitV ka sa true ua na za
      · rw [arV_arg hs (by rw [hf]; rfl)]
        exact arith_minus_argA ua na za ub nb zb ka sa kb sb _ M hf hza hzb w hL ct
      cases hg : fitV kb sb true ub nb zb
      · rw [arV_arg hs (by rw [hg]; simp)]
        exact arith_minus_argB ua na za ub nb zb ka sa kb sb _ M hf hg hza hzb w hL ct
      have hfg : (fitV ka sa true ua na za && fitV kb sb true ub nb zb) = true := by rw [hf, hg]; rfl
      cases hu : ua
      · cases hv : ub
        · subst hu hv
          rw [arV_rec hM hM0 hfg]
          rw [if_pos (by omega)]
          have ce := fun w => val_evened na nb sa sb M hna hnb w
          rw [scale_in (n := na) (f := sa) (t := M) (by omega), scale_in (n := nb) (f := sb) (t := M) (by omega)] at ce
          rcases fitN_two (na * 10 ^ (M - sa).toNat) with ⟨x1, x2⟩ | ⟨x1, x2⟩
          · rcases fitN_two (nb * 10 ^ (M - sb).toNat) with ⟨y1, y2⟩ | ⟨y1, y2⟩
            · rw [x1, y1, if_pos (show (true && true) = true from rfl)]
              rw [x2, y2] at ce
              have cr := fun w => op_minus (na * 10 ^ (M - sa).toNat) (nb * 10 ^ (M - sb).toNat) (room_true.1 x1) (room_true.1 y1) w
              have hr : reck 45 (na * 10 ^ (M - sa).toNat) (nb * 10 ^ (M - sb).toNat) = fitN (na * 10 ^ (M - sa).toNat - nb * 10 ^ (M - sb).toNat) := rfl
              rw [hr]
              rcases fitN_two (na * 10 ^ (M - sa).toNat - nb * 10 ^ (M - sb).toNat) with ⟨r1, r2⟩ | ⟨r1, r2⟩
              · rw [r2] at cr ⊢
                exact arith_minus_ok na za nb zb ka sa kb sb _ M hf hg _ _ _ ce cr hza hzb w hL ct
              · rw [r2] at cr ⊢
                exact arith_minus_full na za nb zb ka sa kb sb _ M hf hg _ _ _ ce cr hza hzb w hL ct
            · rw [x1, y1, if_neg (show ¬ (true && false) = true by simp)]
              rw [x2, y2] at ce
              exact arith_minus_wide na za nb zb ka sa kb sb _ M hf hg _ _ ce hza hzb w hL ct
          · rw [x1, if_neg (by simp)]
            rw [x2] at ce
            exact arith_minus_wide na za nb zb ka sa kb sb _ M hf hg _ _ ce hza hzb w hL ct
        · subst hu hv
          rw [arV_null hs hfg rfl]
          exact arith_minus_nullB false na za true nb zb ka sa kb sb _ M hf hg rfl rfl hza hzb w hL ct
      · subst hu
        rw [arV_null hs hfg rfl]
        exact arith_minus_nullA true na za ub nb zb ka sa kb sb _ M hf hg rfl hza hzb w hL ct
    · have he2 : sa + sb ≤ 9 ∧ M = sa + sb := by
        unfold scaleOf at he; rw [if_neg (by omega), if_pos rfl] at he; split at he <;> omega
      have ct := typed_times_yes ka sa kb sb M hall he2.2.symm (by omega)
      cases hf : fitV ka sa true ua na za
      · rw [arV_arg hs (by rw [hf]; rfl)]
        exact arith_times_argA ua na za ub nb zb ka sa kb sb _ M hf hza hzb w hL ct
      cases hg : fitV kb sb true ub nb zb
      · rw [arV_arg hs (by rw [hg]; simp)]
        exact arith_times_argB ua na za ub nb zb ka sa kb sb _ M hf hg hza hzb w hL ct
      have hfg : (fitV ka sa true ua na za && fitV kb sb true ub nb zb) = true := by rw [hf, hg]; rfl
      cases hu : ua
      · cases hv : ub
        · subst hu hv
          rw [arV_rec hM hM0 hfg]
          rw [if_neg (by omega)]
          have cr := fun w => op_times na nb hna hnb w
          have hr : reck 42 na nb = fitN (na * nb) := rfl
          rw [hr]
          rcases fitN_two (na * nb) with ⟨r1, r2⟩ | ⟨r1, r2⟩
          · rw [r2] at cr ⊢
            exact arith_times_ok na za nb zb ka sa kb sb _ M hf hg _ cr hza hzb w hL ct
          · rw [r2] at cr ⊢
            exact arith_times_full na za nb zb ka sa kb sb _ M hf hg _ cr hza hzb w hL ct
        · subst hu hv
          rw [arV_null hs hfg rfl]
          exact arith_times_nullB false na za true nb zb ka sa kb sb _ M hf hg rfl rfl hza hzb w hL ct
      · subst hu
        rw [arV_null hs hfg rfl]
        exact arith_times_nullA true na za ub nb zb ka sa kb sb _ M hf hg rfl hza hzb w hL ct
    · have he2 : sb = 0 ∧ M = sa := by
        unfold scaleOf at he; rw [if_neg (by omega), if_neg (by omega), if_pos rfl] at he; split at he
        · exact ⟨by assumption, he⟩
        · omega
      have ct := typed_quo_yes ka sa kb sb M hall (by rw [if_pos he2.1]; exact he2.2.symm) (by omega)
      cases hf : fitV ka sa true ua na za
      · rw [arV_arg hs (by rw [hf]; rfl)]
        exact arith_quo_argA ua na za ub nb zb ka sa kb sb _ M hf hza hzb w hL ct
      cases hg : fitV kb sb true ub nb zb
      · rw [arV_arg hs (by rw [hg]; simp)]
        exact arith_quo_argB ua na za ub nb zb ka sa kb sb _ M hf hg hza hzb w hL ct
      have hfg : (fitV ka sa true ua na za && fitV kb sb true ub nb zb) = true := by rw [hf, hg]; rfl
      cases hu : ua
      · cases hv : ub
        · subst hu hv
          rw [arV_rec hM hM0 hfg]
          rw [if_neg (by omega)]
          have cr := fun w => op_quo na nb hna hnb w
          have hr : reck 47 na nb = quoV na nb := rfl
          rw [hr]
          rcases quoV_two na nb with ⟨r1, r2⟩ | ⟨r1, r2⟩
          · rw [r2] at cr ⊢
            exact arith_quo_ok na za nb zb ka sa kb sb _ M hf hg _ cr hza hzb w hL ct
          · rw [r2] at cr ⊢
            exact arith_quo_full na za nb zb ka sa kb sb _ M hf hg _ cr hza hzb w hL ct
        · subst hu hv
          rw [arV_null hs hfg rfl]
          exact arith_quo_nullB false na za true nb zb ka sa kb sb _ M hf hg rfl rfl hza hzb w hL ct
      · subst hu
        rw [arV_null hs hfg rfl]
        exact arith_quo_nullA true na za ub nb zb ka sa kb sb _ M hf hg rfl hza hzb w hL ct

end Go.Proofs.YtfjoobopfjahcaaDoor
