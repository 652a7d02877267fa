/-
  Package valid's map of steps: made. Contracts that the proofs call; no statement is proved here.
-/
import Derived.Test.YtomffpibdinkaaaGreatDoorValTold
import Derived.Maps.Own
import Derived.Maps.OwnSet
import Derived.WalkArith
namespace Go.Proofs.YtomffpibdinkaaaGreatDoor
open Go.RowKit Go.Maps
set_option linter.unusedVariables false
set_option linter.unusedSimpArgs false

/-! ### How a step reads: its function, the walk, what is told of it -/
def stepD (n b : Nat) : DataW Unit := .agg [.lit (.int .i64 n), .lit (.int .i64 b)]
def toldD (n b : Nat) (nm : ByteArray) (s : Int) (p r : ByteArray) : DataW Unit := .agg [.lit (.int .i64 n), .lit (.int .i64 b), .lit (.string nm.data.toList), .lit (.int .i64 s), .lit (.string p.data.toList), .lit (.string r.data.toList)]
def stepRead : Value → Option (DataW Unit × List MemPlace)
  | .func (.func n) ⟨[.pointer (some ⟨b, 0, none⟩)]⟩ ⟨[]⟩ => some (stepD n b, [])
  | .func (.func n) ⟨[.agg ⟨[.pointer (some ⟨b, 0, none⟩), .string nm, .int .i64 s, .string p, .string r]⟩]⟩ ⟨[]⟩ => some (toldD n b nm s p r, [])
  | .nilFunc => some (.nil, [])
  | _ => none
def stepV (n b : Nat) : Value := .func (.func n) #[.pointer (some ⟨b, 0, none⟩)] #[]
def toldF (n b : Nat) (r : Rw) : Value := .func (.func n) #[toldV b r] #[]
theorem stepRead_mk (n b : Nat) : stepRead (stepV n b) = some (stepD n b, []) := rfl
theorem toldRead_mk (n b : Nat) (r : Rw) : stepRead (toldF n b r) = some (toldD n b r.name r.shape r.params r.results, []) := rfl
theorem nilRead : stepRead .nilFunc = some (.nil, []) := rfl
theorem bytes_inj7 {a b : ByteArray} (h : a.data.toList = b.data.toList) : a = b := by
  obtain ⟨⟨a⟩⟩ := a
  obtain ⟨⟨b⟩⟩ := b
  simp only at h
  rw [h]
theorem stepRead_inv {v : Value} {n b : Nat} {ps : List MemPlace} (h : stepRead v = some (stepD n b, ps)) : v = stepV n b := by
  unfold stepRead at h
  split at h
  · simp only [stepD, Option.some.injEq, Prod.mk.injEq, DataW.agg.injEq, List.cons.injEq, DataW.lit.injEq, Lit.int.injEq, true_and, and_true] at h
    obtain ⟨⟨h1, h2⟩, _⟩ := h
    have e1 := Int.ofNat.inj h1
    have e2 := Int.ofNat.inj h2
    subst e1 e2
    rfl
  · simp [stepD, toldD] at h
  · simp [stepD] at h
  · simp at h
theorem toldRead_inv {v : Value} {n b : Nat} {r : Rw} {ps : List MemPlace} (h : stepRead v = some (toldD n b r.name r.shape r.params r.results, ps)) : v = toldF n b r := by
  unfold stepRead at h
  split at h
  · simp [stepD, toldD] at h
  · simp only [toldD, Option.some.injEq, Prod.mk.injEq, DataW.agg.injEq, List.cons.injEq, DataW.lit.injEq, Lit.int.injEq, Lit.string.injEq, true_and, and_true] at h
    obtain ⟨⟨h1, h2, h3, h4, h5, h6⟩, _⟩ := h
    have e1 := Int.ofNat.inj h1
    have e2 := Int.ofNat.inj h2
    have e3 := bytes_inj7 h3
    have e5 := bytes_inj7 h5
    have e6 := bytes_inj7 h6
    subst e1 e2 e3 h4 e5 e6
    rfl
  · simp [toldD] at h
  · simp at h
/-! ### What stands in the map -/
def findFn : List (Int × Nat) → Int → Option Nat
  | [], _ => none
  | (k, n) :: l, c => if c = k then some n else findFn l c
/-- The last one first. -/
def fnList : List (Int × Nat) := [(36, 87), (35, 86), (34, 85), (33, 84), (32, 83), (27, 82), (26, 81), (16, 80), (15, 79), (14, 78), (13, 77), (12, 76), (11, 75), (5, 74), (4, 73), (3, 72), (2, 72), (0, 71)]
def fnOf7 (c : Int) : Option Nat := findFn fnList c
def toldFn (r : Rw) : Nat := if r.shape = 5 ∨ r.shape = 6 then 89 else 88
def datOf7 (b : Nat) (c : Int) (r : Rw) : DataW Unit := match fnOf7 c with | some n => stepD n b | none => toldD (toldFn r) b r.name r.shape r.params r.results
def valOf7 (b : Nat) (c : Int) (r : Rw) : Value := match fnOf7 c with | some n => stepV n b | none => toldF (toldFn r) b r
theorem read_inv7 {v : Value} {b : Nat} {c : Int} {r : Rw} {ps : List MemPlace} (h : stepRead v = some (datOf7 b c r, ps)) : v = valOf7 b c r := by
  unfold datOf7 at h
  unfold valOf7
  cases hf : fnOf7 c with
  | some n => rw [hf] at h; exact stepRead_inv h
  | none => rw [hf] at h; exact toldRead_inv h
theorem read_mk7 (b : Nat) (c : Int) (r : Rw) : stepRead (valOf7 b c r) = some (datOf7 b c r, []) := by
  unfold datOf7 valOf7
  cases fnOf7 c <;> rfl
def cnt7 (p : Nat → Bool) : Nat → Nat
  | 0 => 0
  | n + 1 => cnt7 p n + (if p n then 1 else 0)
theorem cnt7_le (p : Nat → Bool) : ∀ n, cnt7 p n ≤ n
  | 0 => by simp [cnt7]
  | n + 1 => by have := cnt7_le p n; unfold cnt7; split <;> omega
theorem cnt7_more {p q : Nat → Bool} {c : Nat} (hp : p c = false) (hq : q c = true) (ho : ∀ k, k ≠ c → q k = p k) : ∀ n, cnt7 q n = cnt7 p n + (if c < n then 1 else 0)
  | 0 => by simp [cnt7]
  | n + 1 => by
    have ih := cnt7_more hp hq ho n
    unfold cnt7
    by_cases h : n = c
    · subst h; rw [ih, hp, hq]; simp
    · rw [ih, ho n h]; split <;> split <;> split <;> omega
/-- The map of steps: each is its code's; those that op does not tell of are all there. -/
structure Steps7 (M b : Nat) (w : World) (D : DataW Unit) : Prop where
  own : w.ownsMap Tryz.prog 3 stepRead M (cnt7 (fun c => Maps.has D (.int .i64 (c : Int))) 256) D
  map : Maps.IsMap D
  known : ∀ (c : Int) (r : Rw), byCode c = some r → Maps.has D (.int .i64 c) = true → D.atKey (.int .i64 c) .nil = datOf7 b c r
  all : ∀ c, fnOf7 c ≠ none → Maps.has D (.int .i64 c) = true
theorem Steps7.same {M b : Nat} {w w' : World} {D : DataW Unit} (h : Steps7 M b w D) (e : w'.heap[M]? = w.heap[M]?) : Steps7 M b w' D := by
  obtain ⟨⟨es, c, h1, h2⟩, h3, h4, h5⟩ := h
  exact ⟨⟨es, c, e.trans h1, h2⟩, h3, h4, h5⟩
def mkD (b : Nat) : List (Int × Nat) → DataW Unit
  | [] => .map []
  | (k, n) :: l => (mkD b l).put (.int .i64 k) (stepD n b)
def knownD (b : Nat) : DataW Unit := mkD b fnList
theorem key_ne7 {a b : Int} (h : a ≠ b) : Lit.int .i64 a ≠ Lit.int .i64 b := fun e => h (by injection e)
theorem mkD_map (b : Nat) : ∀ l, Maps.IsMap (mkD b l)
  | [] => isMap_empty
  | (k, n) :: l => (mkD_map b l).put _ _
theorem mkD_at (b : Nat) (c : Int) : ∀ l, Maps.has (mkD b l) (.int .i64 c) = (findFn l c).isSome ∧ (mkD b l).atKey (.int .i64 c) .nil = (match findFn l c with | some n => stepD n b | none => .nil)
  | [] => ⟨rfl, rfl⟩
  | (k, n) :: l => by
    unfold mkD findFn
    by_cases h : c = k
    · subst h
      have hk : WideAt.IsKeyLit (.int .i64 c) := trivial
      rw [if_pos rfl]
      exact ⟨has_put_same (mkD_map b l) hk _, atKey_put_same (mkD_map b l) hk _ _⟩
    · rw [if_neg h, has_put_other (key_ne7 h), atKey_put_other (key_ne7 h)]
      exact mkD_at b c l
theorem known_map (b : Nat) : Maps.IsMap (knownD b) := mkD_map b _
theorem known_at (b : Nat) (c : Int) : (Maps.has (knownD b) (.int .i64 c) = (fnOf7 c).isSome) ∧ (knownD b).atKey (.int .i64 c) .nil = (match fnOf7 c with | some n => stepD n b | none => .nil) := mkD_at b c fnList
theorem known_cnt (b : Nat) : cnt7 (fun c => Maps.has (knownD b) (.int .i64 (c : Int))) 256 = 18 := by
  have e : (fun c : Nat => Maps.has (knownD b) (.int .i64 (c : Int))) = fun c : Nat => (fnOf7 (c : Int)).isSome := funext fun c => (known_at b c).1
  rw [e]
  decide +kernel
theorem Steps7.first {M b : Nat} {w : World} (h : w.ownsMap Tryz.prog 3 stepRead M 18 (knownD b)) : Steps7 M b w (knownD b) := by
  refine ⟨by rw [known_cnt]; exact h, known_map b, fun c r hc hh => ?_, fun c hc => ?_⟩
  · rw [(known_at b c).1] at hh
    rw [(known_at b c).2]
    unfold datOf7
    cases hf : fnOf7 c with
    | some n => rfl
    | none => rw [hf] at hh; cases hh
  · rw [(known_at b c).1]
    cases hf : fnOf7 c with
    | some n => rfl
    | none => exact absurd hf hc
set_option maxRecDepth 100000 in
set_option maxHeartbeats 4000000 in
theorem v_known (B : Nat) (w : World) : Calls Tryz.prog 56 #[.pointer (some ⟨B, 0, none⟩)] w fun e w' => e = .returned (.map (some w.heap.size)) ∧ Steps7 w.heap.size B w' (knownD B) ∧ Below w.heap.size w w' ∧ w.heap.size < w'.heap.size := by
  have law : Keyed Tryz.prog 3 := int_keyed Tryz.underlying3
  have hwf : ∀ a : Int, -9223372036854775808 ≤ a → a ≤ 9223372036854775807 → (Lit.int .i64 a).wf = true := fun a ha hb => WalkArith.wf_i64 ⟨ha, hb⟩
  have hmm := @run_makeMap Tryz.prog
  have o0 := World.ownsMap_made w Tryz.prog 3 stepRead
  obtain ⟨w1, u1, o1, g1⟩ := o0.update law Tryz.underlying109 (by unfold maxLen; omega) (keyOf_int_mk Tryz.underlying3 (hwf 0 (by decide) (by decide))) (stepRead_mk 71 B)
  unfold stepV at u1
  obtain ⟨w2, u2, o2, g2⟩ := o1.update law Tryz.underlying109 (by unfold maxLen; omega) (keyOf_int_mk Tryz.underlying3 (hwf 2 (by decide) (by decide))) (stepRead_mk 72 B)
  unfold stepV at u2
  obtain ⟨w3, u3, o3, g3⟩ := o2.update law Tryz.underlying109 (by unfold maxLen; omega) (keyOf_int_mk Tryz.underlying3 (hwf 3 (by decide) (by decide))) (stepRead_mk 72 B)
  unfold stepV at u3
  obtain ⟨w4, u4, o4, g4⟩ := o3.update law Tryz.underlying109 (by unfold maxLen; omega) (keyOf_int_mk Tryz.underlying3 (hwf 4 (by decide) (by decide))) (stepRead_mk 73 B)
  unfold stepV at u4
  obtain ⟨w5, u5, o5, g5⟩ := o4.update law Tryz.underlying109 (by unfold maxLen; omega) (keyOf_int_mk Tryz.underlying3 (hwf 5 (by decide) (by decide))) (stepRead_mk 74 B)
  unfold stepV at u5
  obtain ⟨w6, u6, o6, g6⟩ := o5.update law Tryz.underlying109 (by unfold maxLen; omega) (keyOf_int_mk Tryz.underlying3 (hwf 11 (by decide) (by decide))) (stepRead_mk 75 B)
  unfold stepV at u6
  obtain ⟨w7, u7, o7, g7⟩ := o6.update law Tryz.underlying109 (by unfold maxLen; omega) (keyOf_int_mk Tryz.underlying3 (hwf 12 (by decide) (by decide))) (stepRead_mk 76 B)
  unfold stepV at u7
  obtain ⟨w8, u8, o8, g8⟩ := o7.update law Tryz.underlying109 (by unfold maxLen; omega) (keyOf_int_mk Tryz.underlying3 (hwf 13 (by decide) (by decide))) (stepRead_mk 77 B)
  unfold stepV at u8
  obtain ⟨w9, u9, o9, g9⟩ := o8.update law Tryz.underlying109 (by unfold maxLen; omega) (keyOf_int_mk Tryz.underlying3 (hwf 14 (by decide) (by decide))) (stepRead_mk 78 B)
  unfold stepV at u9
  obtain ⟨w10, u10, o10, g10⟩ := o9.update law Tryz.underlying109 (by unfold maxLen; omega) (keyOf_int_mk Tryz.underlying3 (hwf 15 (by decide) (by decide))) (stepRead_mk 79 B)
  unfold stepV at u10
  obtain ⟨w11, u11, o11, g11⟩ := o10.update law Tryz.underlying109 (by unfold maxLen; omega) (keyOf_int_mk Tryz.underlying3 (hwf 16 (by decide) (by decide))) (stepRead_mk 80 B)
  unfold stepV at u11
  obtain ⟨w12, u12, o12, g12⟩ := o11.update law Tryz.underlying109 (by unfold maxLen; omega) (keyOf_int_mk Tryz.underlying3 (hwf 26 (by decide) (by decide))) (stepRead_mk 81 B)
  unfold stepV at u12
  obtain ⟨w13, u13, o13, g13⟩ := o12.update law Tryz.underlying109 (by unfold maxLen; omega) (keyOf_int_mk Tryz.underlying3 (hwf 27 (by decide) (by decide))) (stepRead_mk 82 B)
  unfold stepV at u13
  obtain ⟨w14, u14, o14, g14⟩ := o13.update law Tryz.underlying109 (by unfold maxLen; omega) (keyOf_int_mk Tryz.underlying3 (hwf 32 (by decide) (by decide))) (stepRead_mk 83 B)
  unfold stepV at u14
  obtain ⟨w15, u15, o15, g15⟩ := o14.update law Tryz.underlying109 (by unfold maxLen; omega) (keyOf_int_mk Tryz.underlying3 (hwf 33 (by decide) (by decide))) (stepRead_mk 84 B)
  unfold stepV at u15
  obtain ⟨w16, u16, o16, g16⟩ := o15.update law Tryz.underlying109 (by unfold maxLen; omega) (keyOf_int_mk Tryz.underlying3 (hwf 34 (by decide) (by decide))) (stepRead_mk 85 B)
  unfold stepV at u16
  obtain ⟨w17, u17, o17, g17⟩ := o16.update law Tryz.underlying109 (by unfold maxLen; omega) (keyOf_int_mk Tryz.underlying3 (hwf 35 (by decide) (by decide))) (stepRead_mk 86 B)
  unfold stepV at u17
  obtain ⟨w18, u18, o18, g18⟩ := o17.update law Tryz.underlying109 (by unfold maxLen; omega) (keyOf_int_mk Tryz.underlying3 (hwf 36 (by decide) (by decide))) (stepRead_mk 87 B)
  unfold stepV at u18
  have hb : Below w.heap.size w w18 ∧ w.heap.size + 1 ≤ w18.heap.size := by
    have b0 := (Below.refl w.heap.size w).alloc (Nat.le_refl _) (.map #[] 0)
    have z0 : w.heap.size + 1 ≤ (w.alloc (.map #[] 0)).heap.size := by simp
    have b1 := b0.grown g1 (Nat.le_trans (Nat.le_succ _) z0) (fun k hk => by cases hk; exact Nat.le_refl _)
    have z1 : w.heap.size + 1 ≤ w1.heap.size := Nat.le_trans z0 g1.size
    have b2 := b1.grown g2 (Nat.le_trans (Nat.le_succ _) z1) (fun k hk => by cases hk; exact Nat.le_refl _)
    have z2 : w.heap.size + 1 ≤ w2.heap.size := Nat.le_trans z1 g2.size
    have b3 := b2.grown g3 (Nat.le_trans (Nat.le_succ _) z2) (fun k hk => by cases hk; exact Nat.le_refl _)
    have z3 : w.heap.size + 1 ≤ w3.heap.size := Nat.le_trans z2 g3.size
    have b4 := b3.grown g4 (Nat.le_trans (Nat.le_succ _) z3) (fun k hk => by cases hk; exact Nat.le_refl _)
    have z4 : w.heap.size + 1 ≤ w4.heap.size := Nat.le_trans z3 g4.size
    have b5 := b4.grown g5 (Nat.le_trans (Nat.le_succ _) z4) (fun k hk => by cases hk; exact Nat.le_refl _)
    have z5 : w.heap.size + 1 ≤ w5.heap.size := Nat.le_trans z4 g5.size
    have b6 := b5.grown g6 (Nat.le_trans (Nat.le_succ _) z5) (fun k hk => by cases hk; exact Nat.le_refl _)
    have z6 : w.heap.size + 1 ≤ w6.heap.size := Nat.le_trans z5 g6.size
    have b7 := b6.grown g7 (Nat.le_trans (Nat.le_succ _) z6) (fun k hk => by cases hk; exact Nat.le_refl _)
    have z7 : w.heap.size + 1 ≤ w7.heap.size := Nat.le_trans z6 g7.size
    have b8 := b7.grown g8 (Nat.le_trans (Nat.le_succ _) z7) (fun k hk => by cases hk; exact Nat.le_refl _)
    have z8 : w.heap.size + 1 ≤ w8.heap.size := Nat.le_trans z7 g8.size
    have b9 := b8.grown g9 (Nat.le_trans (Nat.le_succ _) z8) (fun k hk => by cases hk; exact Nat.le_refl _)
    have z9 : w.heap.size + 1 ≤ w9.heap.size := Nat.le_trans z8 g9.size
    have b10 := b9.grown g10 (Nat.le_trans (Nat.le_succ _) z9) (fun k hk => by cases hk; exact Nat.le_refl _)
    have z10 : w.heap.size + 1 ≤ w10.heap.size := Nat.le_trans z9 g10.size
    have b11 := b10.grown g11 (Nat.le_trans (Nat.le_succ _) z10) (fun k hk => by cases hk; exact Nat.le_refl _)
    have z11 : w.heap.size + 1 ≤ w11.heap.size := Nat.le_trans z10 g11.size
    have b12 := b11.grown g12 (Nat.le_trans (Nat.le_succ _) z11) (fun k hk => by cases hk; exact Nat.le_refl _)
    have z12 : w.heap.size + 1 ≤ w12.heap.size := Nat.le_trans z11 g12.size
    have b13 := b12.grown g13 (Nat.le_trans (Nat.le_succ _) z12) (fun k hk => by cases hk; exact Nat.le_refl _)
    have z13 : w.heap.size + 1 ≤ w13.heap.size := Nat.le_trans z12 g13.size
    have b14 := b13.grown g14 (Nat.le_trans (Nat.le_succ _) z13) (fun k hk => by cases hk; exact Nat.le_refl _)
    have z14 : w.heap.size + 1 ≤ w14.heap.size := Nat.le_trans z13 g14.size
    have b15 := b14.grown g15 (Nat.le_trans (Nat.le_succ _) z14) (fun k hk => by cases hk; exact Nat.le_refl _)
    have z15 : w.heap.size + 1 ≤ w15.heap.size := Nat.le_trans z14 g15.size
    have b16 := b15.grown g16 (Nat.le_trans (Nat.le_succ _) z15) (fun k hk => by cases hk; exact Nat.le_refl _)
    have z16 : w.heap.size + 1 ≤ w16.heap.size := Nat.le_trans z15 g16.size
    have b17 := b16.grown g17 (Nat.le_trans (Nat.le_succ _) z16) (fun k hk => by cases hk; exact Nat.le_refl _)
    have z17 : w.heap.size + 1 ≤ w17.heap.size := Nat.le_trans z16 g17.size
    have b18 := b17.grown g18 (Nat.le_trans (Nat.le_succ _) z17) (fun k hk => by cases hk; exact Nat.le_refl _)
    have z18 : w.heap.size + 1 ≤ w18.heap.size := Nat.le_trans z17 g18.size
    exact ⟨b18, z18⟩
  obtain ⟨hb, hz⟩ := hb
  have hK : Steps7 w.heap.size B w18 (knownD B) := Steps7.first o18
  clear o1 g1 o2 g2 o3 g3 o4 g4 o5 g5 o6 g6 o7 g7 o8 g8 o9 g9 o10 g10 o11 g11 o12 g12 o13 g13 o14 g14 o15 g15 o16 g16 o17 g17 o18 g18 o0
  go_enter Tryz.func56, Tryz.ntmps56
  go_wp2
  go_ret
  exact ⟨rfl, hK, hb, hz⟩
end Go.Proofs.YtomffpibdinkaaaGreatDoor
