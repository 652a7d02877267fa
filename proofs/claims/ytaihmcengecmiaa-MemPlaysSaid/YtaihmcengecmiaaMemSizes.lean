/-
  Package mem's map of sizes: made, and what is found in it. Contracts that the proofs call; no statement is proved here.
-/
import Derived.Test.YtaihmcengecmiaaProg
import Derived.WalkKit
import Derived.WalkArith
import Derived.Maps.Own
import Derived.Maps.OwnSet
import Derived.Below
import Derived.Lib.Hide
namespace Go.Proofs.Ytaihmcengecmiaa
open Go.RowKit Go.Maps
set_option linter.unusedVariables false

theorem in_heap {w : World} {b : Nat} {o : Obj} (h : w.heap[b]? = some o) : b < w.heap.size := (Array.getElem?_eq_some_iff.1 h).1
theorem ownsMap_same {P : Program} {k : TypeId} {R : Value → Option (DataW Unit × List MemPlace)} {b n : Nat} {D : DataW Unit} {w w' : World} (h : w.ownsMap P k R b n D) (e : w'.heap[b]? = w.heap[b]?) : w'.ownsMap P k R b n D := by
  obtain ⟨es, c, h1, h2⟩ := h
  exact ⟨es, c, e.trans h1, h2⟩
theorem ownsMap_in {P : Program} {k : TypeId} {R : Value → Option (DataW Unit × List MemPlace)} {b n : Nat} {D : DataW Unit} {w : World} (h : w.ownsMap P k R b n D) : b < w.heap.size := by
  obtain ⟨es, c, h1, h2⟩ := h
  exact in_heap h1
def sizesD : DataW Unit := (((((.map [] : DataW Unit).put (.int .i64 1) (.lit (.int .i64 8))).put (.int .i64 2) (.lit (.int .i64 16))).put (.int .i64 4) (.lit (.int .i64 32))).put (.int .i64 8) (.lit (.int .i64 64)))
def Sizes (w : World) (b : Nat) : Prop := w.ownsMap Try.prog 3 (plainElem (H := Unit) Try.prog 3) b 4 sizesD
theorem Sizes.same {w w' : World} {b : Nat} (h : Sizes w b) (e : w'.heap[b]? = w.heap[b]?) : Sizes w' b := ownsMap_same h e
theorem int_wf {a : Int} (h1 : -9223372036854775808 ≤ a) (h2 : a ≤ 9223372036854775807) : (Lit.int .i64 a).wf = true := WalkArith.wf_i64 ⟨h1, h2⟩
set_option maxRecDepth 100000 in
set_option maxHeartbeats 2000000 in
theorem sizes_is (w : World) : Calls Try.prog 19 #[] w fun e w' => e = .returned (.map (some w.heap.size)) ∧ Sizes w' w.heap.size ∧ Below w.heap.size w w' ∧ w'.heap.size = w.heap.size + 1 := by
  have law : Keyed Try.prog 3 := int_keyed Try.underlying3
  have hmm := @run_makeMap Try.prog
  have hp : ∀ a : Int, -9223372036854775808 ≤ a → a ≤ 9223372036854775807 → plainElem (H := Unit) Try.prog 3 (.int .i64 a) = some (.lit (.int .i64 a), []) := fun a h1 h2 => plainElem_int Try.underlying3 (int_wf h1 h2)
  have o0 := World.ownsMap_made w Try.prog 3 (plainElem (H := Unit) Try.prog 3)
  obtain ⟨w1, u1, o1, g1⟩ := o0.store law Try.underlying51 (by unfold maxLen; omega) (keyOf_int_mk Try.underlying3 (int_wf (a := 1) (by decide) (by decide))) (hp 8 (by decide) (by decide))
  obtain ⟨w2, u2, o2, g2⟩ := o1.store law Try.underlying51 (by unfold maxLen; omega) (keyOf_int_mk Try.underlying3 (int_wf (a := 2) (by decide) (by decide))) (hp 16 (by decide) (by decide))
  obtain ⟨w3, u3, o3, g3⟩ := o2.store law Try.underlying51 (by unfold maxLen; omega) (keyOf_int_mk Try.underlying3 (int_wf (a := 4) (by decide) (by decide))) (hp 32 (by decide) (by decide))
  obtain ⟨w4, u4, o4, g4⟩ := o3.store law Try.underlying51 (by unfold maxLen; omega) (keyOf_int_mk Try.underlying3 (int_wf (a := 8) (by decide) (by decide))) (hp 64 (by decide) (by decide))
  have hb : Below w.heap.size w w4 ∧ w4.heap.size = w.heap.size + 1 := by
    obtain ⟨_, _, es, c, _, rfl⟩ := ((g1.trans g2).trans g3).trans g4
    refine ⟨((Below.refl w.heap.size w).alloc (Nat.le_refl _) (.map #[] 0)).trans ⟨rfl, rfl, rfl, by simp [ChangeMaps.setBlock], fun i hi => ?_⟩, by simp [ChangeMaps.setBlock]⟩
    simp only [ChangeMaps.setBlock, Array.getElem?_setIfInBounds]
    rw [if_neg (by omega)]
  obtain ⟨hb, hz⟩ := hb
  have hK : Sizes w4 w.heap.size := o4
  clear o1 g1 o2 g2 o3 g3 o4 g4 o0 hp
  have HZ := Lib.hid hz
  clear hz
  go_enter Try.func19, Try.ntmps19
  go_wp2
  go_ret
  exact ⟨rfl, hK, hb, HZ.out⟩
/-- How many bits a number of so many bytes has; 0: there is none. -/
def bitsOf (n : Int) : Int := if n = 1 then 8 else if n = 2 then 16 else if n = 4 then 32 else if n = 8 then 64 else 0
def isSize (n : Int) : Bool := decide (n = 1 ∨ n = 2 ∨ n = 4 ∨ n = 8)
theorem sizes_look {w : World} {b : Nat} (h : Sizes w b) (n : Int) (h1 : -9223372036854775808 ≤ n) (h2 : n ≤ 9223372036854775807) : (Instr.lookup 51 (.map (some b)) (.int .i64 n) true).run Try.prog w = .ok (.tuple #[.int .i64 (bitsOf n), .bool (isSize n)]) w := by
  have law : Keyed Try.prog 3 := int_keyed Try.underlying3
  obtain ⟨v, ps, hl, hv⟩ := World.ownsMap.look_ok h law Try.underlying51 (Try.zeroValue3 w) (plainElem_int Try.underlying3 (int_wf (a := 0) (by decide) (by decide))) (keyOf_int_mk Try.underlying3 (int_wf h1 h2))
  obtain ⟨c, rfl, hc, hwc⟩ := plainElem_int_inv Try.underlying3 hv
  rw [hl]
  have hk : sizesD.atKey (.int .i64 n) (.lit (.int .i64 0)) = .lit (.int .i64 (bitsOf n)) ∧ Maps.has sizesD (.int .i64 n) = isSize n := by
    unfold bitsOf isSize sizesD
    by_cases e1 : n = 1
    · subst e1; exact ⟨rfl, rfl⟩
    by_cases e2 : n = 2
    · subst e2; exact ⟨rfl, rfl⟩
    by_cases e4 : n = 4
    · subst e4; exact ⟨rfl, rfl⟩
    by_cases e8 : n = 8
    · subst e8; exact ⟨rfl, rfl⟩
    have q : ∀ a : Int, n ≠ a → (Lit.int .i64 n : Lit) ≠ .int .i64 a := fun a h e => h (by cases e; rfl)
    rw [atKey_put_other (q 8 e8), atKey_put_other (q 4 e4), atKey_put_other (q 2 e2), atKey_put_other (q 1 e1), has_put_other (q 8 e8), has_put_other (q 4 e4), has_put_other (q 2 e2), has_put_other (q 1 e1)]
    rw [if_neg e1, if_neg e2, if_neg e4, if_neg e8]
    exact ⟨rfl, by rw [decide_eq_false (by omega)]; rfl⟩
  have e := congrArg Prod.fst hc
  simp only at e
  rw [hk.1] at e
  simp only [DataW.lit.injEq, Lit.int.injEq, true_and] at e
  rw [hk.2, e]
end Go.Proofs.Ytaihmcengecmiaa
