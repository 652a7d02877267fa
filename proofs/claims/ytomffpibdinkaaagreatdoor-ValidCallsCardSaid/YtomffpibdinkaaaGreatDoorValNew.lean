/-
  Package valid's walk: a new one. A contract that the proofs call; no statement is proved here.
-/
import Derived.Test.YtomffpibdinkaaaGreatDoorValStep
namespace Go.Proofs.YtomffpibdinkaaaGreatDoor
open Go.RowKit Go.Maps
set_option linter.unusedVariables false
set_option linter.unusedSimpArgs false
variable {w0 : World} {B M : Nat} {m : MoV} {lo wh : ByteArray} {s : VS} {sv ov : Value} {w : World}

def zeroWalk (m : MoV) : Obj := .cells #[.slice m.tp m.types.length m.tc, .slice m.fp m.funcs.length m.fc, .slice m.mp m.memory.length m.mc, .slice m.gp m.globals.length m.gc, .slice m.ep m.exports.length m.ec, .int .i64 m.start, .slice m.dp m.data.length m.dc, .map none, .string ⟨#[]⟩, .string ⟨#[]⟩, .slice none 0 0, .slice none 0 0, .bool false] 112
def modObj (m : MoV) : Obj := .cells #[.slice m.tp m.types.length m.tc, .slice m.fp m.funcs.length m.fc, .slice m.mp m.memory.length m.mc, .slice m.gp m.globals.length m.gc, .slice m.ep m.exports.length m.ec, .int .i64 m.start, .slice m.dp m.data.length m.dc] 31
set_option maxRecDepth 100000 in
set_option maxHeartbeats 4000000 in
theorem v_new (m : MoV) (w : World) : Calls Tryz.prog 25 #[m.val] w fun e w' => e = .returned (.pointer (some ⟨w.heap.size + 1, 0, none⟩)) ∧ WSt w (w.heap.size + 1) (w.heap.size + 1 + 1) m ⟨#[]⟩ ⟨#[]⟩ ⟨[], [], false⟩ (.slice none 0 0) (.slice none 0 0) w' ∧ Below w.heap.size w w' := by
  obtain ⟨W1, hW1⟩ : ∃ W, W = (w.alloc (modObj m)).alloc (zeroWalk m) := ⟨_, rfl⟩
  have hB1 : Below w.heap.size w W1 := by rw [hW1]; exact ((Below.refl _ _).alloc (Nat.le_refl _) _).alloc (by simp) _
  have hs1 : W1.heap.size = w.heap.size + 1 + 1 := by rw [hW1]; simp only [push_size7]
  have hb1 : W1.heap[w.heap.size + 1]? = some (zeroWalk m) := by
    rw [hW1, push7, push_size7, if_pos rfl]
  have ck := v_known (w.heap.size + 1) W1
  rw [hs1] at ck
  unfold zeroWalk modObj at hW1
  unfold MoV.val
  go_enter Tryz.func25, Tryz.ntmps25
  go_wp2_with fail
  rw [← hW1]
  clear hW1
  refine ck.mono ?_
  rintro e w2 ⟨rfl, hS, hb2, hl2⟩
  have hx2 := (hb2.block (w.heap.size + 1) (by omega)).trans hb1
  have x7 : w2.cell? ⟨w.heap.size + 1, 7, none⟩ = some (.map none) := by rw [World.cell?, hx2]; rfl
  have f7 : w2.frozen? ⟨w.heap.size + 1, 7, none⟩ = false := by simp [World.frozen?, hx2, zeroWalk]
  clear ck
  go_wp2
  go_ret
  have hBF : Below w.heap.size w (w2.setCell ⟨w.heap.size + 1, 7, none⟩ (.map (some (w.heap.size + 1 + 1)))) := (hB1.trans (hb2.mono (by omega))).setCell (Nat.le_succ _) _
  refine ⟨rfl, ⟨⟨hBF, by rw [heap_setCell_same w2 (w.heap.size + 1) 7 _ _ _ hx2]; rfl, ⟨rfl, .inl ⟨rfl, rfl⟩⟩, ⟨rfl, .inl ⟨rfl, rfl⟩⟩, fun g hg => (by cases hg), Nat.le_succ _, Nat.lt_succ_self _, by simpa [World.setCell] using hl2, ⟨List.Pairwise.nil, Nat.zero_le _⟩, ⟨Nat.zero_le _, Nat.zero_le _⟩⟩, _, hS.same (Below.heap_setCell _ _ _ _ (by show w.heap.size + 1 + 1 ≠ w.heap.size + 1; omega))⟩, hBF⟩
end Go.Proofs.YtomffpibdinkaaaGreatDoor
