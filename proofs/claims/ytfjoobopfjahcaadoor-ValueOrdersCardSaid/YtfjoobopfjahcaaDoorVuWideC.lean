/-
  Package value's numbers of 128 bits, walked: how two compare, tens. Contracts that the proofs call; no statement is proved here.
-/
import Derived.Test.YtfjoobopfjahcaaDoorVuWideB
import Derived.StillTailTactics
namespace Go.Proofs.YtfjoobopfjahcaaDoor
open Go.RowKit

theorem orI_cmp (a b : Int) (ha : W128 a) (hb : W128 b) : orI (cmpI (whi a) (whi b)) (cmpI (wlo a) (wlo b)) = cmpI a b := cmpI_halves ha hb

set_option maxRecDepth 100000 in
set_option maxHeartbeats 4000000 in
theorem w_compare (a b : Int) (ha : W128 a) (hb : W128 b) (w : World) :
    Calls Tryd.prog 38 #[.agg #[.int .i64 (whi a), .int .u64 (wlo a)], .agg #[.int .i64 (whi b), .int .u64 (wlo b)]] w fun e w' => e = .returned (.int .i64 (cmpI a b)) ∧ Below w.heap.size w w' := by
  have ho := Lib.hid (orI_cmp a b ha hb)
  generalize whi a = a1 at *
  generalize whi b = c1 at *
  generalize wlo a = a0 at *
  generalize wlo b = c0 at *
  have hc1 := fun w => w_cmp64 a1 c1 w
  have hc2 := fun w => w_cmpu64 a0 c0 w
  generalize cmpI a1 c1 = x at *
  generalize cmpI a0 c0 = y at *
  obtain ⟨W, hW⟩ : ∃ W, W = (w.alloc (.cells #[.int .i64 a1, .int .u64 a0] 64)).alloc (.cells #[.int .i64 c1, .int .u64 c0] 64) := ⟨_, rfl⟩
  have f0 : W.cell? ⟨w.heap.size, 0, none⟩ = some (.int .i64 a1) := by rw [hW]; go_simp
  have f1 : W.cell? ⟨w.heap.size, 1, none⟩ = some (.int .u64 a0) := by rw [hW]; go_simp
  have f2 : W.cell? ⟨w.heap.size + 1, 0, none⟩ = some (.int .i64 c1) := by rw [hW]; go_simp
  have f3 : W.cell? ⟨w.heap.size + 1, 1, none⟩ = some (.int .u64 c0) := by rw [hW]; go_simp
  have hs : W.heap.size = w.heap.size + 1 + 1 := by rw [hW]; simp
  have hB : Below w.heap.size w W := by rw [hW]; exact b2
  go_enter Tryd.func38, Tryd.ntmps38
  go_wp2
  rw [← hW]
  clear hW
  have HS := Lib.hid hs
  clear hs
  go_still_tail 10, (by kernel_rfl)
  repeat still_step
  still_call ((hc1 _).mono fun e w' ⟨h1, h2⟩ => ⟨h1, h2.symm⟩)
  repeat still_step
  still_call ((hc2 _).mono fun e w' ⟨h1, h2⟩ => ⟨h1, h2.symm⟩)
  repeat still_step
  refine wpStill_nil ?_
  change wpList _ _ _ _ _ W.drew
  have hB2 := hB.drew
  have hs2 : Hid (W.drew.heap.size = w.heap.size + 1 + 1) := HS
  generalize W.drew = W2 at *
  go_wp2_with (go_at_call 48; (with_reducible refine (w_or x y _ _ _ ?_ ?_).mono ?_); (rw [World.cell?_alloc_new]; rfl); (rw [World.cell?_alloc_new]; rfl); rintro e w1 ⟨rfl, rfl⟩)
  go_ret
  exact ⟨congrArg (fun x => Ending.returned (.int .i64 x)) ho.out, hB2.alloc hB2.size _⟩
end Go.Proofs.YtfjoobopfjahcaaDoor
