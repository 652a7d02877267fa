/-
  How two values compare, and stand in a sort: package value's own, walked. Contracts that the proofs call; no statement is proved here.
-/
import Derived.Test.YtfjoobopfjahcaaDoorVuFits
import Derived.Test.YtfjoobopfjahcaaDoorVuScale
namespace Go.Proofs.YtfjoobopfjahcaaDoor
open Go.RowKit

theorem cmpI_mul (x y c : Int) (hc : 0 < c) : cmpI (x * c) (y * c) = cmpI x y := by
  have h1 : x * c < y * c ↔ x < y := ⟨fun h => Int.lt_of_mul_lt_mul_right h (Int.le_of_lt hc), fun h => Int.mul_lt_mul_of_pos_right h hc⟩
  have h2 : y * c < x * c ↔ y < x := ⟨fun h => Int.lt_of_mul_lt_mul_right h (Int.le_of_lt hc), fun h => Int.mul_lt_mul_of_pos_right h hc⟩
  unfold cmpI
  simp only [h1, h2]
theorem ten_pos (p : Nat) : (0 : Int) < 10 ^ p := Int.pow_pos (by decide)
theorem cmp_up (x y : Int) (p q : Nat) (h : p ≤ q) : cmpI (x * 10 ^ (q - p)) y = cmpI (x * 10 ^ q) (y * 10 ^ p) := by
  rw [← cmpI_mul (x * 10 ^ (q - p)) y (10 ^ p) (ten_pos p), Int.mul_assoc, ← Int.pow_add, show q - p + p = q by omega]
theorem cmp_down (x y : Int) (p q : Nat) (h : q ≤ p) : cmpI x (y * 10 ^ (p - q)) = cmpI (x * 10 ^ q) (y * 10 ^ p) := by
  rw [← cmpI_mul x (y * 10 ^ (p - q)) (10 ^ q) (ten_pos q), Int.mul_assoc, ← Int.pow_add, show p - q + q = p by omega]

/-- The four boxes of a call of Compare. -/
structure Cb (B : Nat) (ua : Bool) (na : Int) (za : ByteArray) (ub : Bool) (nb : Int) (zb : ByteArray) (ka sa kb sb : Int) (W : World) : Prop where
  a0 : W.cell? ⟨B, 0, none⟩ = some (.bool ua)
  a1 : W.cell? ⟨B, 1, none⟩ = some (.int .i64 na)
  a2 : W.cell? ⟨B, 2, none⟩ = some (.string za)
  b0 : W.cell? ⟨B + 1, 0, none⟩ = some (.bool ub)
  b1 : W.cell? ⟨B + 1, 1, none⟩ = some (.int .i64 nb)
  b2 : W.cell? ⟨B + 1, 2, none⟩ = some (.string zb)
  s0 : W.cell? ⟨B + 1 + 1, 0, none⟩ = some (.int .i64 ka)
  s1 : W.cell? ⟨B + 1 + 1, 1, none⟩ = some (.int .i64 sa)
  t0 : W.cell? ⟨B + 1 + 1 + 1, 0, none⟩ = some (.int .i64 kb)
  t1 : W.cell? ⟨B + 1 + 1 + 1, 1, none⟩ = some (.int .i64 sb)
theorem Cb.on {B : Nat} {ua : Bool} {na : Int} {za : ByteArray} {ub : Bool} {nb : Int} {zb : ByteArray} {ka sa kb sb : Int} {W w1 : World} (h : Cb B ua na za ub nb zb ka sa kb sb W) (hb : Below W.heap.size W w1) : Cb B ua na za ub nb zb ka sa kb sb w1 :=
  ⟨stay_on hb h.a0, stay_on hb h.a1, stay_on hb h.a2, stay_on hb h.b0, stay_on hb h.b1, stay_on hb h.b2, stay_on hb h.s0, stay_on hb h.s1, stay_on hb h.t0, stay_on hb h.t1⟩
theorem Cb.new (w : World) (ua : Bool) (na : Int) (za : ByteArray) (ub : Bool) (nb : Int) (zb : ByteArray) (ka sa kb sb : Int) : ∃ W, W = (((w.alloc (.cells #[.bool ua, .int .i64 na, .string za] 25)).alloc (.cells #[.bool ub, .int .i64 nb, .string zb] 25)).alloc (.cells #[.int .i64 ka, .int .i64 sa] 23)).alloc (.cells #[.int .i64 kb, .int .i64 sb] 23) ∧
    Cb w.heap.size ua na za ub nb zb ka sa kb sb W ∧ Below w.heap.size w W := by
  refine ⟨_, rfl, ⟨by go_simp, by go_simp, by go_simp, by go_simp, by go_simp, by go_simp, by go_simp, by go_simp, by go_simp, by go_simp⟩, b4⟩

theorem cmpV_no {ua : Bool} {na : Int} {za : ByteArray} {ub : Bool} {nb : Int} {zb : ByteArray} {ka sa kb sb : Int} (h : (fitV ka sa false ua na za && fitV kb sb false ub nb zb) = false) : cmpV ua na za ub nb zb ka sa kb sb = (0, false) := by
  unfold cmpV; rw [if_pos h]
theorem cmpV_num {ua : Bool} {na : Int} {za : ByteArray} {ub : Bool} {nb : Int} {zb : ByteArray} {ka sa kb sb : Int} (h : (fitV ka sa false ua na za && fitV kb sb false ub nb zb) = true) (hn : (numK ka && numK kb) = true) : cmpV ua na za ub nb zb ka sa kb sb = (cmpI (na * 10 ^ sb.toNat) (nb * 10 ^ sa.toNat), true) := by
  unfold cmpV; rw [if_neg (by rw [h]; simp), if_pos hn]
theorem cmpV_else {ua : Bool} {na : Int} {za : ByteArray} {ub : Bool} {nb : Int} {zb : ByteArray} {ka sa kb sb : Int} (h : (fitV ka sa false ua na za && fitV kb sb false ub nb zb) = true) (hn : (numK ka && numK kb) = false) : cmpV ua na za ub nb zb ka sa kb sb = if ka ≠ kb then (0, false) else if ka = 3 then (cmpB za zb, true) else (cmpI na nb, true) := by
  unfold cmpV; rw [if_neg (by rw [h]; simp), if_neg (by rw [hn]; simp)]
theorem fit_ty {k s : Int} {null u : Bool} {n : Int} {z : ByteArray} (h : fitV k s null u n z = true) : tyR k s = true := by
  unfold fitV at h
  simp only [Bool.and_eq_true] at h
  exact h.1

set_option maxRecDepth 100000 in
set_option maxHeartbeats 16000000 in
theorem val_compare (ua : Bool) (na : Int) (za : ByteArray) (ub : Bool) (nb : Int) (zb : ByteArray) (ka sa kb sb : Int) (hna : -9223372036854775808 ≤ na ∧ na ≤ 9223372036854775807) (hnb : -9223372036854775808 ≤ nb ∧ nb ≤ 9223372036854775807) (hza : za.size ≤ maxLen) (hzb : zb.size ≤ maxLen) (w : World) (hT : Tru w) :
    Calls Tryd.prog 21 #[.agg #[.bool ua, .int .i64 na, .string za], .agg #[.bool ub, .int .i64 nb, .string zb], .agg #[.int .i64 ka, .int .i64 sa], .agg #[.int .i64 kb, .int .i64 sb]] w fun e w' =>
      e = .returned (.tuple #[.int .i64 (cmpV ua na za ub nb zb ka sa kb sb).1, .bool (cmpV ua na za ub nb zb ka sa kb sb).2]) ∧ Below w.heap.size w w' := by
  obtain ⟨W, hW, HA, hB⟩ := Cb.new w ua na za ub nb zb ka sa kb sb
  have hTW := hT.below hB (Nat.le_refl _)
  have cfa := fun w hT => val_fits ka sa false ua na za hza w hT
  have cfb := fun w hT => val_fits kb sb false ub nb zb hzb w hT
  have cn1 := fun w => val_number ka sa w
  have cn2 := fun w => val_number kb sb w
  cases hf : fitV ka sa false ua na za
  · rw [cmpV_no (by rw [hf]; rfl)]
    rw [hf] at cfa
    go_enter Tryd.func21, Tryd.ntmps21
    go_upto_region 1 with fail
    rw [← hW]
    clear hW
    obtain ⟨a0, a1, a2, d0, d1, d2, s0, s1, t0, t1⟩ := id HA
    go_wp2_with (go_at_call 17; (with_reducible refine (cfa _ hTW).mono ?_); rintro e w1 ⟨rfl, hb1⟩; have hB1 := bt hB hb1)
    go_ret2
    exact ⟨rfl, hB1⟩
  cases hg : fitV kb sb false ub nb zb
  · rw [cmpV_no (by rw [hg]; simp)]
    rw [hf] at cfa
    rw [hg] at cfb
    go_enter Tryd.func21, Tryd.ntmps21
    go_upto_region 1 with fail
    rw [← hW]
    clear hW
    obtain ⟨a0, a1, a2, d0, d1, d2, s0, s1, t0, t1⟩ := id HA
    go_wp2_with (first
      | (go_at_call 17; (with_reducible refine (cfa _ hTW).mono ?_); rintro e w1 ⟨rfl, hb1⟩; have hB1 := bt hB hb1; have A1 := HA.on hb1; have T1 := hTW.below hb1 (Nat.le_refl _); obtain ⟨a0', a1', a2', d0', d1', d2', s0', s1', t0', t1'⟩ := id A1)
      | (go_at_call 17; (with_reducible refine (cfb _ T1).mono ?_); rintro e w2 ⟨rfl, hb2⟩; have hB2 := bt hB1 hb2))
    go_ret2
    exact ⟨rfl, hB2⟩
  have ht1 := fit_ty hf
  have ht2 := fit_ty hg
  have hfg : (fitV ka sa false ua na za && fitV kb sb false ub nb zb) = true := by rw [hf, hg]; rfl
  rw [hf] at cfa
  rw [hg] at cfb
  rw [ht1, Bool.and_true] at cn1
  rw [ht2, Bool.and_true] at cn2
  cases hn : (numK ka && numK kb)
  · have e := cmpV_else hfg hn
    have r1 := tyR_true.1 ht1
    have r2 := tyR_true.1 ht2
    have hnn : numK ka = true → numK kb = false := fun h => by rw [h] at hn; simpa using hn
    have hka : ∀ {k : Int}, numK k = true ↔ k = 1 ∨ k = 2 := by intro k; unfold numK; simp
    rw [e]
    cases m1 : numK ka <;> cases m2 : numK kb
    all_goals first
      | (exfalso; rw [m1, m2] at hn; simp at hn; done)
      | skip
    · have q1 : ka = 3 ∧ sa = 0 ∨ ka = 4 ∧ sa = 0 := by
        have h3 : ¬ (ka = 1 ∨ ka = 2) := fun h => by rw [hka.2 h] at m1; cases m1
        omega
      have q2 : kb = 3 ∧ sb = 0 ∨ kb = 4 ∧ sb = 0 := by
        have h3 : ¬ (kb = 1 ∨ kb = 2) := fun h => by rw [hka.2 h] at m2; cases m2
        omega
      rw [m1] at cn1
      clear r1 r2 hfg hf hg ht1 ht2 hn hnn hka m2 m1 e
      rcases q1 with ⟨rfl, rfl⟩ | ⟨rfl, rfl⟩ <;> rcases q2 with ⟨rfl, rfl⟩ | ⟨rfl, rfl⟩
      all_goals
        go_enter Tryd.func21, Tryd.ntmps21
        go_upto_region 1 with fail
        rw [← hW]
        clear hW
        obtain ⟨a0, a1, a2, d0, d1, d2, s0, s1, t0, t1⟩ := id HA
        go_wp2_with (first
          | (go_at_call 17; (with_reducible refine (cfa _ hTW).mono ?_); rintro e w1 ⟨rfl, hb1⟩; have hB1 := bt hB hb1; have A1 := HA.on hb1; have T1 := hTW.below hb1 (Nat.le_refl _); obtain ⟨a0', a1', a2', d0', d1', d2', s0', s1', t0', t1'⟩ := id A1)
          | (go_at_call 17; (with_reducible refine (cfb _ T1).mono ?_); rintro e w2 ⟨rfl, hb2⟩; have hB2 := bt hB1 hb2; have A2 := A1.on hb2; obtain ⟨a0'', a1'', a2'', d0'', d1'', d2'', s0'', s1'', t0'', t1''⟩ := id A2)
          | (go_at_call 37; (with_reducible refine (cn1 _).mono ?_); rintro e w3 ⟨rfl, hb3⟩; have hB3 := bt hB2 hb3; have hBx := hB3; have A3 := A2.on hb3; obtain ⟨i0, i1, i2, i3, i4, i5, i6, i7, i8, i9⟩ := id A3)
          | (go_at_call 37; (with_reducible refine (cn2 _).mono ?_); rintro e w4 ⟨rfl, hb4⟩; have hB4 := bt hB3 hb4; have hBx := hB4; have A4 := A3.on hb4; obtain ⟨j0, j1, j2, j3, j4, j5, j6, j7, j8, j9⟩ := id A4)
          | (go_at_call 39; (with_reducible refine (sh_strings_Compare _ _ _).mono ?_); rintro e w5 ⟨rfl, hw⟩; subst hw)
          | (go_at_call 40; (with_reducible refine (w_cmp64 _ _ _).mono ?_); rintro e w5 ⟨rfl, rfl⟩))
        go_ret2
        exact ⟨rfl, hBx⟩
    all_goals
      have hne : ka ≠ kb := fun h => by rw [h, m2] at m1; cases m1
      rw [if_pos hne]
      rw [m1] at cn1
      rw [m2] at cn2
      have hnb2 : (ka == kb) = false := by simpa using hne
      clear r1 r2 hfg hf hg ht1 ht2 hn hnn hka m2 m1 e hne
      go_enter Tryd.func21, Tryd.ntmps21
      go_upto_region 1 with fail
      rw [← hW]
      clear hW
      obtain ⟨a0, a1, a2, d0, d1, d2, s0, s1, t0, t1⟩ := id HA
      go_wp2_with (first
        | (go_at_call 17; (with_reducible refine (cfa _ hTW).mono ?_); rintro e w1 ⟨rfl, hb1⟩; have hB1 := bt hB hb1; have A1 := HA.on hb1; have T1 := hTW.below hb1 (Nat.le_refl _); obtain ⟨a0', a1', a2', d0', d1', d2', s0', s1', t0', t1'⟩ := id A1)
        | (go_at_call 17; (with_reducible refine (cfb _ T1).mono ?_); rintro e w2 ⟨rfl, hb2⟩; have hB2 := bt hB1 hb2; have A2 := A1.on hb2; obtain ⟨a0'', a1'', a2'', d0'', d1'', d2'', s0'', s1'', t0'', t1''⟩ := id A2)
        | (go_at_call 37; (with_reducible refine (cn1 _).mono ?_); rintro e w3 ⟨rfl, hb3⟩; have hB3 := bt hB2 hb3; have hBx := hB3; have A3 := A2.on hb3; obtain ⟨i0, i1, i2, i3, i4, i5, i6, i7, i8, i9⟩ := id A3)
        | (go_at_call 37; (with_reducible refine (cn2 _).mono ?_); rintro e w4 ⟨rfl, hb4⟩; have hB4 := bt hB3 hb4; have hBx := hB4; have A4 := A3.on hb4; obtain ⟨j0, j1, j2, j3, j4, j5, j6, j7, j8, j9⟩ := id A4)
        | (go_at_call 39; (with_reducible refine (sh_strings_Compare _ _ _).mono ?_); rintro e w5 ⟨rfl, hw⟩; subst hw)
        | (go_at_call 40; (with_reducible refine (w_cmp64 _ _ _).mono ?_); rintro e w5 ⟨rfl, rfl⟩))
      go_ret2
      exact ⟨rfl, hBx⟩
  · rw [cmpV_num hfg hn]
    have hn1 : numK ka = true := by simp only [Bool.and_eq_true] at hn; exact hn.1
    have hn2 : numK kb = true := by simp only [Bool.and_eq_true] at hn; exact hn.2
    rw [hn1] at cn1
    rw [hn2] at cn2
    have r1 := tyR_true.1 ht1
    have r2 := tyR_true.1 ht2
    obtain ⟨p, rfl⟩ : ∃ p : Nat, sa = p := ⟨sa.toNat, by omega⟩
    obtain ⟨q, rfl⟩ : ∃ q : Nat, sb = q := ⟨sb.toNat, by omega⟩
    have hp9 : p ≤ 9 := by omega
    have hq9 : q ≤ 9 := by omega
    rw [show ((p : Int)).toNat = p by omega, show ((q : Int)).toNat = q by omega]
    clear r1 r2 hfg hf hg ht1 ht2 hn hn1 hn2
    have cw1 := fun w => w_widen na hna w
    have cw2 := fun w => w_widen nb hnb w
    by_cases hle : p ≤ q
    · have hm : max (p : Int) (q : Int) = q := by omega
      have cs1 := fun w => w_scaled na (q - p) (by omega) w
      have cs2 : ∀ w, Calls Tryd.prog 33 #[.agg #[.int .i64 (whi nb), .int .u64 (wlo nb)], .int .i64 0] w fun e w' => e = .returned (.agg #[.int .i64 (whi nb), .int .u64 (wlo nb)]) ∧ Below w.heap.size w w' := fun w => by have h := w_scaled nb 0 (by omega) w; rw [Int.pow_zero, Int.mul_one] at h; exact h
      rw [show ((q - p : Nat) : Int) = (q : Int) - p by omega] at cs1
      have b1 := mul_pow_bd (q - p) (by omega) hna
      have cc := fun w => w_compare (na * 10 ^ (q - p)) nb (by unfold W128; omega) (by unfold W128; omega) w
      rw [cmp_up na nb p q hle] at cc
      generalize cmpI (na * 10 ^ q) (nb * 10 ^ p) = r at *
      generalize na * 10 ^ (q - p) = v at *
      go_enter Tryd.func21, Tryd.ntmps21
      go_upto_region 1 with fail
      rw [← hW]
      clear hW
      obtain ⟨a0, a1, a2, d0, d1, d2, s0, s1, t0, t1⟩ := id HA
      go_wp2_with (first
        | (go_at_call 17; (with_reducible refine (cfa _ hTW).mono ?_); rintro e w1 ⟨rfl, hb1⟩; have hB1 := bt hB hb1; have A1 := HA.on hb1; have T1 := hTW.below hb1 (Nat.le_refl _); obtain ⟨a0', a1', a2', d0', d1', d2', s0', s1', t0', t1'⟩ := id A1)
        | (go_at_call 17; (with_reducible refine (cfb _ T1).mono ?_); rintro e w2 ⟨rfl, hb2⟩; have hB2 := bt hB1 hb2; have A2 := A1.on hb2; obtain ⟨a0'', a1'', a2'', d0'', d1'', d2'', s0'', s1'', t0'', t1''⟩ := id A2)
        | (go_at_call 37; (with_reducible refine (cn1 _).mono ?_); rintro e w3 ⟨rfl, hb3⟩; have hB3 := bt hB2 hb3; have A3 := A2.on hb3; obtain ⟨i0, i1, i2, i3, i4, i5, i6, i7, i8, i9⟩ := id A3)
        | (go_at_call 37; (with_reducible refine (cn2 _).mono ?_); rintro e w4 ⟨rfl, hb4⟩; have hB4 := bt hB3 hb4; have A4 := A3.on hb4; obtain ⟨j0, j1, j2, j3, j4, j5, j6, j7, j8, j9⟩ := id A4))
      have wr1 : IntKind.i64.wrap ((q : Int) - p) = (q : Int) - p := by rw [IntKind.wrap_i64]; omega
      have wr2 : IntKind.i64.wrap 0 = 0 := by rw [IntKind.wrap_i64]; omega
      go_region_held3 (fun X => X.cell? ⟨w.heap.size, 1, none⟩ = some (.int .i64 na) ∧ X.cell? ⟨w.heap.size + 1, 1, none⟩ = some (.int .i64 nb) ∧ X.cell? ⟨w.heap.size + 1 + 1, 1, none⟩ = some (.int .i64 p) ∧ X.cell? ⟨w.heap.size + 1 + 1 + 1, 1, none⟩ = some (.int .i64 q))
        (first | assumption | exact ⟨K.1, K.2.1, K.2.2.1, K.2.2.2⟩ | go_keep)
        (first
          | (go_at_call 32; (with_reducible refine (cw1 _).mono ?_); rintro e x1 ⟨rfl, hc1⟩; have D1 := bt hB4.drew hc1; have E1 := A4.on ((Below.refl _ _).drew.trans hc1); have K := And.intro E1.a1 (And.intro E1.b1 (And.intro E1.s1 E1.t1)))
          | (go_at_call 33; (with_reducible refine (cs1 _).mono ?_); rintro e x2 ⟨rfl, hc2⟩; have D2 := bt D1 hc2; have E2 := E1.on hc2; have K := And.intro E2.a1 (And.intro E2.b1 (And.intro E2.s1 E2.t1)))
          | (go_at_call 32; (with_reducible refine (cw2 _).mono ?_); rintro e x3 ⟨rfl, hc3⟩; have D3 := bt D2 hc3; have E3 := E2.on hc3; have K := And.intro E3.a1 (And.intro E3.b1 (And.intro E3.s1 E3.t1)))
          | (go_at_call 33; (with_reducible refine (cs2 _).mono ?_); rintro e x4 ⟨rfl, hc4⟩; have D4 := bt D3 hc4; have E4 := E3.on hc4; have K := And.intro E4.a1 (And.intro E4.b1 (And.intro E4.s1 E4.t1)))
          | (go_at_call 38; (with_reducible refine (cc _).mono ?_); rintro e x5 ⟨rfl, hc5⟩; have D5 := bt D4 hc5; have E5 := E4.on hc5; have K := And.intro E5.a1 (And.intro E5.b1 (And.intro E5.s1 E5.t1))))
      go_wp2
      go_ret2
      exact ⟨rfl, D5⟩
    · have hm : max (p : Int) (q : Int) = p := by omega
      have cs1 : ∀ w, Calls Tryd.prog 33 #[.agg #[.int .i64 (whi na), .int .u64 (wlo na)], .int .i64 0] w fun e w' => e = .returned (.agg #[.int .i64 (whi na), .int .u64 (wlo na)]) ∧ Below w.heap.size w w' := fun w => by have h := w_scaled na 0 (by omega) w; rw [Int.pow_zero, Int.mul_one] at h; exact h
      have cs2 := fun w => w_scaled nb (p - q) (by omega) w
      rw [show ((p - q : Nat) : Int) = (p : Int) - q by omega] at cs2
      have b1 := mul_pow_bd (p - q) (by omega) hnb
      have cc := fun w => w_compare na (nb * 10 ^ (p - q)) (by unfold W128; omega) (by unfold W128; omega) w
      rw [cmp_down na nb p q (by omega)] at cc
      generalize cmpI (na * 10 ^ q) (nb * 10 ^ p) = r at *
      generalize nb * 10 ^ (p - q) = v at *
      go_enter Tryd.func21, Tryd.ntmps21
      go_upto_region 1 with fail
      rw [← hW]
      clear hW
      obtain ⟨a0, a1, a2, d0, d1, d2, s0, s1, t0, t1⟩ := id HA
      go_wp2_with (first
        | (go_at_call 17; (with_reducible refine (cfa _ hTW).mono ?_); rintro e w1 ⟨rfl, hb1⟩; have hB1 := bt hB hb1; have A1 := HA.on hb1; have T1 := hTW.below hb1 (Nat.le_refl _); obtain ⟨a0', a1', a2', d0', d1', d2', s0', s1', t0', t1'⟩ := id A1)
        | (go_at_call 17; (with_reducible refine (cfb _ T1).mono ?_); rintro e w2 ⟨rfl, hb2⟩; have hB2 := bt hB1 hb2; have A2 := A1.on hb2; obtain ⟨a0'', a1'', a2'', d0'', d1'', d2'', s0'', s1'', t0'', t1''⟩ := id A2)
        | (go_at_call 37; (with_reducible refine (cn1 _).mono ?_); rintro e w3 ⟨rfl, hb3⟩; have hB3 := bt hB2 hb3; have A3 := A2.on hb3; obtain ⟨i0, i1, i2, i3, i4, i5, i6, i7, i8, i9⟩ := id A3)
        | (go_at_call 37; (with_reducible refine (cn2 _).mono ?_); rintro e w4 ⟨rfl, hb4⟩; have hB4 := bt hB3 hb4; have A4 := A3.on hb4; obtain ⟨j0, j1, j2, j3, j4, j5, j6, j7, j8, j9⟩ := id A4))
      have wr1 : IntKind.i64.wrap ((p : Int) - q) = (p : Int) - q := by rw [IntKind.wrap_i64]; omega
      have wr2 : IntKind.i64.wrap 0 = 0 := by rw [IntKind.wrap_i64]; omega
      go_region_held3 (fun X => X.cell? ⟨w.heap.size, 1, none⟩ = some (.int .i64 na) ∧ X.cell? ⟨w.heap.size + 1, 1, none⟩ = some (.int .i64 nb) ∧ X.cell? ⟨w.heap.size + 1 + 1, 1, none⟩ = some (.int .i64 p) ∧ X.cell? ⟨w.heap.size + 1 + 1 + 1, 1, none⟩ = some (.int .i64 q))
        (first | assumption | exact ⟨K.1, K.2.1, K.2.2.1, K.2.2.2⟩ | go_keep)
        (first
          | (go_at_call 32; (with_reducible refine (cw1 _).mono ?_); rintro e x1 ⟨rfl, hc1⟩; have D1 := bt hB4.drew hc1; have E1 := A4.on ((Below.refl _ _).drew.trans hc1); have K := And.intro E1.a1 (And.intro E1.b1 (And.intro E1.s1 E1.t1)))
          | (go_at_call 33; (with_reducible refine (cs1 _).mono ?_); rintro e x2 ⟨rfl, hc2⟩; have D2 := bt D1 hc2; have E2 := E1.on hc2; have K := And.intro E2.a1 (And.intro E2.b1 (And.intro E2.s1 E2.t1)))
          | (go_at_call 32; (with_reducible refine (cw2 _).mono ?_); rintro e x3 ⟨rfl, hc3⟩; have D3 := bt D2 hc3; have E3 := E2.on hc3; have K := And.intro E3.a1 (And.intro E3.b1 (And.intro E3.s1 E3.t1)))
          | (go_at_call 33; (with_reducible refine (cs2 _).mono ?_); rintro e x4 ⟨rfl, hc4⟩; have D4 := bt D3 hc4; have E4 := E3.on hc4; have K := And.intro E4.a1 (And.intro E4.b1 (And.intro E4.s1 E4.t1)))
          | (go_at_call 38; (with_reducible refine (cc _).mono ?_); rintro e x5 ⟨rfl, hc5⟩; have D5 := bt D4 hc5; have E5 := E4.on hc5; have K := And.intro E5.a1 (And.intro E5.b1 (And.intro E5.s1 E5.t1))))
      go_wp2
      go_ret2
      exact ⟨rfl, D5⟩
end Go.Proofs.YtfjoobopfjahcaaDoor
