/-
  What an operator stands for in package value: a map of structs of functions, made in the call and asked; walked. Contracts that the proofs call; no statement is proved here.
-/
import Derived.Maps.Own
import Derived.Maps.OwnSet
import Derived.WalkArith
import Derived.Laws.ResultCell
import Derived.Laws.EntriesVeiled
import Derived.Test.YtfjoobopfjahcaaDoorVuTy
namespace Go.Proofs.YtfjoobopfjahcaaDoor
open Go.RowKit Go.Maps

/-- An operation as the machine holds it: two functions' numbers and a bool between. -/
def opVal (a : Nat) (e : Bool) (b : Nat) : Value := .agg #[.func (.func a) #[] #[], .bool e, .func (.func b) #[] #[]]
def opD {H : Type} (a : Nat) (e : Bool) (b : Nat) : DataW H := .agg [.lit (.int .i64 a), .lit (.bool e), .lit (.int .i64 b)]
def opRead {H : Type} : Value → Option (DataW H × List MemPlace)
  | .agg ⟨[.func (.func a) ⟨[]⟩ ⟨[]⟩, .bool e, .func (.func b) ⟨[]⟩ ⟨[]⟩]⟩ => some (opD a e b, [])
  | .agg ⟨[.nilFunc, .bool false, .nilFunc]⟩ => some (.nil, [])
  | _ => none
theorem opRead_mk {H : Type} (a : Nat) (e : Bool) (b : Nat) : opRead (H := H) (.agg #[.func (.func a) #[] #[], .bool e, .func (.func b) #[] #[]]) = some (opD a e b, []) := rfl
theorem opRead_nil {H : Type} : opRead (H := H) (.agg #[.nilFunc, .bool false, .nilFunc]) = some (.nil, []) := rfl
theorem opRead_op {H : Type} {v : Value} {a b : Nat} {e : Bool} {ps : List MemPlace} (h : opRead (H := H) v = some (opD a e b, ps)) : v = .agg #[.func (.func a) #[] #[], .bool e, .func (.func b) #[] #[]] := by
  unfold opRead at h
  split at h
  · simp only [opD, Option.some.injEq, Prod.mk.injEq, DataW.agg.injEq, List.cons.injEq, DataW.lit.injEq, Lit.int.injEq, Lit.bool.injEq, true_and, and_true] at h
    obtain ⟨⟨h1, h2, h3⟩, _⟩ := h
    rw [Int.ofNat.inj h1, h2, Int.ofNat.inj h3]
  · simp [opD] at h
  · cases h
theorem opRead_none {H : Type} {v : Value} {ps : List MemPlace} (h : opRead (H := H) v = some (.nil, ps)) : v = .agg #[.nilFunc, .bool false, .nilFunc] := by
  unfold opRead at h
  split at h
  · simp [opD] at h
  · rfl
  · cases h

def findD : DataW Unit := (((((.map [] : DataW Unit).put (.int .u8 43) (opD 55 true 57)).put (.int .u8 45) (opD 55 true 58)).put (.int .u8 42) (opD 56 false 60)).put (.int .u8 47) (opD 62 false 63))
theorem find_zero (w : World) : (zeroValue 57).run Tryd.prog w = .ok (.agg #[.nilFunc, .bool false, .nilFunc]) w := by kernel_rfl

/-- What is found. -/
def found (op : Int) : Value := if op = 43 then opVal 55 true 57 else if op = 45 then opVal 55 true 58 else if op = 42 then opVal 56 false 60 else if op = 47 then opVal 62 false 63 else .agg #[.nilFunc, .bool false, .nilFunc]
def isOp (op : Int) : Bool := op == 43 || op == 45 || op == 42 || op == 47

set_option maxRecDepth 100000 in
set_option maxHeartbeats 4000000 in
theorem val_find (op : Int) (h0 : 0 ≤ op) (h1 : op ≤ 255) (w : World) :
    Calls Tryd.prog 44 #[.int .u8 op] w fun e w' => e = .returned (.tuple #[found op, .bool (isOp op)]) ∧ Below w.heap.size w w' := by
  have law : Keyed Tryd.prog 5 := int_keyed Tryd.underlying5
  have hwf : ∀ a : Int, 0 ≤ a → a ≤ 255 → (Lit.int .u8 a).wf = true := fun a ha hb => by simp [Lit.wf, IntKind.min, IntKind.max, IntKind.signed, IntKind.bits]; omega
  have hmm := @run_makeMap Tryd.prog
  have o0 := World.ownsMap_made (w.alloc (.cells #[.nilFunc, .bool false, .nilFunc] 57)) Tryd.prog 5 (opRead (H := Unit))
  obtain ⟨w1, u1, o1, g1⟩ := o0.update law Tryd.underlying91 (by unfold maxLen; omega) (keyOf_int_mk Tryd.underlying5 (hwf 43 (by decide) (by decide))) (opRead_mk 55 true 57)
  obtain ⟨w2, u2, o2, g2⟩ := o1.update law Tryd.underlying91 (by unfold maxLen; omega) (keyOf_int_mk Tryd.underlying5 (hwf 45 (by decide) (by decide))) (opRead_mk 55 true 58)
  obtain ⟨w3, u3, o3, g3⟩ := o2.update law Tryd.underlying91 (by unfold maxLen; omega) (keyOf_int_mk Tryd.underlying5 (hwf 42 (by decide) (by decide))) (opRead_mk 56 false 60)
  obtain ⟨w4, u4, o4, g4⟩ := o3.update law Tryd.underlying91 (by unfold maxLen; omega) (keyOf_int_mk Tryd.underlying5 (hwf 47 (by decide) (by decide))) (opRead_mk 62 false 63)
  obtain ⟨v, ps, hl, hv⟩ := o4.look_ok law Tryd.underlying91 (find_zero _) opRead_nil (keyOf_int_mk Tryd.underlying5 (hwf op h0 h1))
  have hM : (w.alloc (.cells #[.nilFunc, .bool false, .nilFunc] 57)).heap.size = w.heap.size + 1 := by simp
  have hB : Below w.heap.size w w4 := by
    have b0 := (b2 : Below w.heap.size w ((w.alloc (.cells #[.nilFunc, .bool false, .nilFunc] 57)).alloc (.map #[] 0)))
    have z0 : w.heap.size + 1 ≤ ((w.alloc (.cells #[.nilFunc, .bool false, .nilFunc] 57)).alloc (.map #[] 0)).heap.size := by simp
    have b1 := b0.grown g1 (Nat.le_trans (Nat.le_succ _) z0) (fun k hk => by cases hk; simp)
    have z1 := Nat.le_trans z0 g1.size
    have b2 := b1.grown g2 (Nat.le_trans (Nat.le_succ _) z1) (fun k hk => by cases hk; simp)
    have z2 := Nat.le_trans z1 g2.size
    have b3 := b2.grown g3 (Nat.le_trans (Nat.le_succ _) z2) (fun k hk => by cases hk; simp)
    have z3 := Nat.le_trans z2 g3.size
    exact b3.grown g4 (Nat.le_trans (Nat.le_succ _) z3) (fun k hk => by cases hk; simp)
  have hz4 : w.heap.size + 1 < w4.heap.size := by
    have z0 : w.heap.size + 1 < ((w.alloc (.cells #[.nilFunc, .bool false, .nilFunc] 57)).alloc (.map #[] 0)).heap.size := by simp
    have := g1.size; have := g2.size; have := g3.size; have := g4.size; omega
  have hkc : ∀ j, w4.cell? ⟨w.heap.size, j, none⟩ = (w.alloc (.cells #[.nilFunc, .bool false, .nilFunc] 57)).cell? ⟨w.heap.size, j, none⟩ ∧ w4.frozen? ⟨w.heap.size, j, none⟩ = (w.alloc (.cells #[.nilFunc, .bool false, .nilFunc] 57)).frozen? ⟨w.heap.size, j, none⟩ := fun j => by
    have hb : Below (w.alloc (.cells #[.nilFunc, .bool false, .nilFunc] 57)).heap.size (w.alloc (.cells #[.nilFunc, .bool false, .nilFunc] 57)) w4 := by
      have b0 := (b1 : Below _ (w.alloc (.cells #[.nilFunc, .bool false, .nilFunc] 57)) ((w.alloc (.cells #[.nilFunc, .bool false, .nilFunc] 57)).alloc (.map #[] 0)))
      have b1 := b0.grown g1 b0.size (fun k hk => by cases hk; exact Nat.le_refl _)
      have b2 := b1.grown g2 b1.size (fun k hk => by cases hk; exact Nat.le_refl _)
      have b3 := b2.grown g3 b2.size (fun k hk => by cases hk; exact Nat.le_refl _)
      exact b3.grown g4 b3.size (fun k hk => by cases hk; exact Nat.le_refl _)
    exact ⟨hb.cell (p := ⟨w.heap.size, j, none⟩) (by show w.heap.size < _; simp), hb.frozen (p := ⟨w.heap.size, j, none⟩) (by show w.heap.size < _; simp)⟩
  have q0 : w4.cell? ⟨w.heap.size, 0, none⟩ = some .nilFunc := (hkc 0).1.trans (by go_simp)
  have q1 : w4.cell? ⟨w.heap.size, 1, none⟩ = some (.bool false) := (hkc 1).1.trans (by go_simp)
  have q2 : w4.cell? ⟨w.heap.size, 2, none⟩ = some .nilFunc := (hkc 2).1.trans (by go_simp)
  have p0 : w4.frozen? ⟨w.heap.size, 0, none⟩ = false := (hkc 0).2.trans (by go_simp)
  have p1 : w4.frozen? ⟨w.heap.size, 1, none⟩ = false := (hkc 1).2.trans (by go_simp)
  have p2 : w4.frozen? ⟨w.heap.size, 2, none⟩ = false := (hkc 2).2.trans (by go_simp)
  rw [hM] at u1 u2 u3 u4 hl
  clear o1 g1 o2 g2 o3 g3 o4 g4 o0 hkc hM hwf law
  have hz5 : w.heap.size < w4.heap.size := by omega
  have ne : ∀ {k : Int}, op ≠ k → Lit.int .u8 op ≠ Lit.int .u8 k := fun h e => h (by injection e)
  by_cases k1 : op = 43
  · subst k1
    obtain rfl := opRead_op (a := 55) (b := 57) (e := true) (ps := ps) hv
    have hh : Value.bool (Maps.has findD (.int .u8 43)) = .bool true := by rfl
    unfold findD at hh
    rw [hh] at hl
    clear hv hh ne
    go_enter Tryd.func44, Tryd.ntmps44
    go_wp2
    refine bodyPost_ret (v := .tuple #[.agg #[.func (.func 55) #[] #[], .bool true, .func (.func 57) #[] #[]], .bool true]) ?_ rfl ⟨rfl, ?_⟩
    · rw [results_cell_tmp rfl]; go_simp
    · refine Below.alloc ?_ (by simpa using hB.size) _
      repeat (refine Below.setCell ?_ (by first | (simp; done) | (simp; omega)) _)
      exact hB
  by_cases k2 : op = 45
  · subst k2
    obtain rfl := opRead_op (a := 55) (b := 58) (e := true) (ps := ps) hv
    have hh : Value.bool (Maps.has findD (.int .u8 45)) = .bool true := by rfl
    unfold findD at hh
    rw [hh] at hl
    clear hv hh ne
    go_enter Tryd.func44, Tryd.ntmps44
    go_wp2
    refine bodyPost_ret (v := .tuple #[.agg #[.func (.func 55) #[] #[], .bool true, .func (.func 58) #[] #[]], .bool true]) ?_ rfl ⟨rfl, ?_⟩
    · rw [results_cell_tmp rfl]; go_simp
    · refine Below.alloc ?_ (by simpa using hB.size) _
      repeat (refine Below.setCell ?_ (by first | (simp; done) | (simp; omega)) _)
      exact hB
  by_cases k3 : op = 42
  · subst k3
    obtain rfl := opRead_op (a := 56) (b := 60) (e := false) (ps := ps) hv
    have hh : Value.bool (Maps.has findD (.int .u8 42)) = .bool true := by rfl
    unfold findD at hh
    rw [hh] at hl
    clear hv hh ne
    go_enter Tryd.func44, Tryd.ntmps44
    go_wp2
    refine bodyPost_ret (v := .tuple #[.agg #[.func (.func 56) #[] #[], .bool false, .func (.func 60) #[] #[]], .bool true]) ?_ rfl ⟨rfl, ?_⟩
    · rw [results_cell_tmp rfl]; go_simp
    · refine Below.alloc ?_ (by simpa using hB.size) _
      repeat (refine Below.setCell ?_ (by first | (simp; done) | (simp; omega)) _)
      exact hB
  by_cases k4 : op = 47
  · subst k4
    obtain rfl := opRead_op (a := 62) (b := 63) (e := false) (ps := ps) hv
    have hh : Value.bool (Maps.has findD (.int .u8 47)) = .bool true := by rfl
    unfold findD at hh
    rw [hh] at hl
    clear hv hh ne
    go_enter Tryd.func44, Tryd.ntmps44
    go_wp2
    refine bodyPost_ret (v := .tuple #[.agg #[.func (.func 62) #[] #[], .bool false, .func (.func 63) #[] #[]], .bool true]) ?_ rfl ⟨rfl, ?_⟩
    · rw [results_cell_tmp rfl]; go_simp
    · refine Below.alloc ?_ (by simpa using hB.size) _
      repeat (refine Below.setCell ?_ (by first | (simp; done) | (simp; omega)) _)
      exact hB
  have e1 : Maps.has findD (.int .u8 op) = false := by
    unfold findD
    rw [has_put_other (ne k4), has_put_other (ne k3), has_put_other (ne k2), has_put_other (ne k1)]
    rfl
  have e2 : findD.atKey (.int .u8 op) .nil = .nil := by
    unfold findD
    rw [atKey_put_other (ne k4), atKey_put_other (ne k3), atKey_put_other (ne k2), atKey_put_other (ne k1)]
    rfl
  have hf : found op = .agg #[.nilFunc, .bool false, .nilFunc] := by unfold found; rw [if_neg k1, if_neg k2, if_neg k3, if_neg k4]
  have hi : isOp op = false := by unfold isOp; simp [k1, k2, k3, k4]
  unfold findD at e1 e2
  rw [e2] at hv
  rw [e1] at hl
  obtain rfl := opRead_none hv
  rw [hf, hi]
  clear e1 e2 hf hi hv ne k1 k2 k3 k4
  go_enter Tryd.func44, Tryd.ntmps44
  go_wp2
  refine bodyPost_ret (v := .tuple #[.agg #[.nilFunc, .bool false, .nilFunc], .bool false]) ?_ rfl ⟨rfl, ?_⟩
  · rw [results_cell_tmp rfl]; go_simp
  · refine Below.alloc ?_ (by simpa using hB.size) _
    repeat (refine Below.setCell ?_ (by first | (simp; done) | (simp; omega)) _)
    exact hB
end Go.Proofs.YtfjoobopfjahcaaDoor
