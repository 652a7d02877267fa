/-
  The library's two tables, as a row lists them, lie in the memory that the walks start in; and the start-up code's own memory bears them. No statement is proved here.
-/
import Derived.Test.YtfbgejgapdpjcaaDoorNumZeros
import Derived.ProofKit
import Derived.LaidMore
import Derived.OpenShut
import Derived.ShutString
import Derived.Stop.Joined
namespace Go.Proofs.YtfbgejgapdpjcaaDoor
open Go.ChangeShapes Go.WideShapes Go.ChangeAt Go.RowKit

theorem own : ownKnob Tryd.prog.godebug = none := by kernel_rfl

/-- An array of bytes that reads as a list lies cell by cell. -/
theorem tab_of {H : Type} {enc : TypeId × Value → H} {P : Program} {w : World} {base : Nat} {sp : Nat → Bool} {held : Bool} {m t e n : Nat} {cs : List Value} {d : DataW H} {ps : List MemPlace} (ht : P.underlying t = some (.array n e)) (he : P.underlying e = some (.int .u8)) (hc : P.cellsOf e = 1)
    (h : DataW.trod enc P w base sp held m t cs = some (d, ps)) (tab : List Nat) (hd : d = .agg (tab.map fun (k : Nat) => .lit (.int .u8 (k : Int)))) (hn : tab.length = n) (j : Nat) (hj : j < tab.length) : cs[j]? = some (.int .u8 (tab.getD j 0 : Nat)) := by
  obtain ⟨xs, m1, rfl, hx, hlen, hl, hel⟩ := DataW.trod_array ht h
  simp only [Prod.mk.injEq] at hx
  have hh := hel j (by omega)
  have hjx : j < xs.length := by omega
  rw [hc, List.getElem?_eq_getElem hjx] at hh
  obtain ⟨k, e1, e2, _⟩ := DataW.trod_int he hh
  have hmap : (xs.map (·.1))[j]? = (tab.map fun (k : Nat) => DataW.lit (H := H) (.int .u8 (k : Int)))[j]? := by
    have := hx.1.symm.trans hd
    injection this with this
    rw [this]
  rw [List.getElem?_map, List.getElem?_map, List.getElem?_eq_getElem hjx, List.getElem?_eq_getElem hj] at hmap
  simp only [Option.map_some, Option.some.injEq] at hmap
  rw [e2] at hmap
  injection hmap with hmap
  injection hmap with _ hmap
  have hcs : cs[j]? = ((cs.drop (j * 1)).take 1)[0]? := by simp
  rw [hcs, e1, hmap]
  simp [List.getD_eq_getElem?_getD, List.getElem?_eq_getElem hj]

theorem in_heap {w : World} {b o : Nat} {v : Value} (h : w.cell? ⟨b, o, none⟩ = some v) : b < w.heap.size := by
  refine Nat.lt_of_not_le fun hge => ?_
  have : w.heap[b]? = none := by simp; omega
  simp [World.cell?, this] at h

theorem g32 : Tryd.prog.globalNamed "math/bits.deBruijn32tab" = some 0 := by kernel_rfl
theorem g64 : Tryd.prog.globalNamed "math/bits.deBruijn64tab" = some 1 := by kernel_rfl
theorem y32 : (Tryd.prog.globals[0]?).map (·.type) = some 66 := by kernel_rfl
theorem y64 : (Tryd.prog.globals[1]?).map (·.type) = some 68 := by kernel_rfl
theorem cellU8 : Tryd.prog.cellsOf 5 = 1 := by kernel_rfl

abbrev laid2 : List (String × DataW Unit) := [("math/bits.deBruijn32tab", Rows.laid_math_bits_deBruijn32tab), ("math/bits.deBruijn64tab", Rows.laid_math_bits_deBruijn64tab)]

/-- The start-up code's own memory meets the condition. -/
theorem door_met (os : Os) (args : Array Value) : laidMetH Tryd.prog laid2 ((World.doorLaid Tryd.prog 400 os).forCall (fun _ _ => 0) ⟨#[], args, []⟩).memory :=
  laidMetH_of_parts3 (fuel := 8) (laidMet_of_run' 8 (by kernel_rfl) (by kernel_rfl)) (by kernel_rfl) (by kernel_rfl)

theorem of_laid {W : World} (h : laidMetH Tryd.prog laid2 W) : Laid W := by
  rw [MakeChecks.laidMetH_plain _ _ _ (by kernel_rfl)] at h
  obtain ⟨ps, ⟨g0, t0, cs0, f0, p0, q0, hg0, ht0, hv0, hd0, ⟨g1, t1, cs1, f1, p1, q1, hg1, ht1, hv1, hd1, _, _⟩, _⟩, _, _⟩ := h
  obtain rfl := Option.some.inj (g32.symm.trans hg0)
  obtain rfl := Option.some.inj (g64.symm.trans hg1)
  obtain rfl := Option.some.inj (y32.symm.trans ht0)
  obtain rfl := Option.some.inj (y64.symm.trans ht1)
  have a0 := tab_of Tryd.underlying66 Tryd.underlying5 cellU8 hd0 Lib.deBruijn32tab rfl rfl
  have a1 := tab_of Tryd.underlying68 Tryd.underlying5 cellU8 hd1 Lib.deBruijn64tab rfl rfl
  have c0 : TabAt 0 Lib.deBruijn32tab W := fun j hj => by rw [World.var?_cell hg0 hv0 j]; simpa using a0 j hj
  have c1 : TabAt 1 Lib.deBruijn64tab W := fun j hj => by rw [World.var?_cell hg1 hv1 j]; simpa using a1 j hj
  exact ⟨c0, c1, in_heap (c1 0 (by decide))⟩
end Go.Proofs.YtfbgejgapdpjcaaDoor
