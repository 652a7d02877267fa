/-
  Facts and contracts that the proof calls.
-/
import Derived.Test.YtdinpakclmnacaaGreatDoorKfDecRd
import Derived.Deep.RegionHeld3
namespace Go.Proofs.YtdinpakclmnacaaGreatDoor
set_option maxRecDepth 100000
set_option maxHeartbeats 16000000
open Go.RowKit
set_option linter.unusedVariables false
theorem rem_cons {r : RV} (h : r.pos < r.s.size) : r.rem = r.s[r.pos] :: r.s.data.toList.drop (r.pos + 1) := by
  unfold RV.rem
  rw [List.drop_eq_getElem_cons (by rw [Array.length_toList]; exact h)]
  rfl
theorem rem_nil {r : RV} (h : r.s.size ≤ r.pos) : r.rem = [] := by
  unfold RV.rem
  exact List.drop_eq_nil_of_le (by rw [Array.length_toList]; exact h)
def valU8 (n : Int) : Value := .int .u8 n
def okU8 (_ _ : World) (n : Int) : Prop := 0 ≤ n ∧ n < 256
theorem got_one {r : RV} (h : r.pos < r.s.size) : Got pOne r ⟨r.s, r.pos + 1, r.e⟩ (r.s[r.pos].toNat : Int) := by
  refine ⟨rfl, ?_⟩
  by_cases he : r.e = 0
  · exact .inr (.inl ⟨he, he, by rw [rem_cons h]; rfl⟩)
  · exact .inl ⟨he, rfl⟩
theorem got_end {r : RV} (h : r.s.size ≤ r.pos) : Got pOne r (r.bad 2) 0 := by
  refine ⟨rfl, ?_⟩
  unfold RV.bad
  by_cases he : r.e = 0
  · exact .inr (.inr ⟨he, by simp [he], by rw [rem_nil h]; simp [he, pOne]⟩)
  · exact .inl ⟨he, by simp [he]⟩
theorem one_yes {w0 : World} {B M : Nat} {T : TypeId} {rest : List Value} {r : RV} {w : World} (hlt : r.pos < r.s.size) (h : RdAt w0 B M T rest r w) :
    Calls Tryz.prog 114 #[.pointer (some ⟨B, 0, none⟩)] w fun e w' => e = .returned (.int .u8 (r.s[r.pos].toNat : Int)) ∧ RdAt w0 B M T rest ⟨r.s, r.pos + 1, r.e⟩ w' ∧ Mov B M w w' := by
  obtain ⟨c0, c1, c2, c3, f0, f1, f2, f3⟩ := h.reads
  have hsz := h.size
  have hps := h.pos
  have hq : ((r.pos : Int) == (r.s.size : Int)) = false := beq_eq_false_iff_ne.2 (by omega)
  have h1 := fun q => (h.drewN q).set1 (r.pos + 1) hlt
  have m1 := fun q => ((Mov.refl B M w).drewN q).set 1 (.int .i64 ((r.pos + 1 : Nat) : Int))
  have hb := UInt8.toNat_lt r.s[r.pos]
  have hcast : ((r.pos + 1 : Nat) : Int) = (r.pos : Int) + 1 := by omega
  rw [hcast] at m1 h1
  clear h
  go_enter Tryz.func114, Tryz.ntmps114
  go_wp2
  go_quiet (fail)
  go_wp2
  replace h1 := h1 nq
  replace m1 := m1 nq
  generalize (w.drewN nq).setCell ⟨B, 1, none⟩ (.int .i64 ((r.pos : Int) + 1)) = W at *
  obtain ⟨d0, d1, d2, d3, g0, g1, g2, g3⟩ := h1.reads
  simp only [hcast] at d1
  clear c0 c1 c2 c3 f0 f1 f2 f3
  go_quiet (fail)
  go_wp2
  go_ret
  exact ⟨rfl, h1.drewN _, m1.drewN _⟩
theorem one_no {w0 : World} {B M : Nat} {T : TypeId} {rest : List Value} {r : RV} {w : World} (hlt : r.s.size ≤ r.pos) (h : RdAt w0 B M T rest r w) :
    Calls Tryz.prog 114 #[.pointer (some ⟨B, 0, none⟩)] w fun e w' => e = .returned (.int .u8 0) ∧ RdAt w0 B M T rest (r.bad 2) w' ∧ Mov B M w w' := by
  obtain ⟨c0, c1, c2, c3, f0, f1, f2, f3⟩ := h.reads
  have hsz := h.size
  have hps := h.pos
  have hq : ((r.pos : Int) == (r.s.size : Int)) = true := beq_iff_eq.2 (by omega)
  have hf := fun q => fail_of (h.drewN q) 2
  clear h
  go_enter Tryz.func114, Tryz.ntmps114
  go_wp2
  go_quiet (fail)
  go_wp2_with (go_at_call 115; (with_reducible refine (hf _).mono ?_); rintro e w1 ⟨rfl, h1, m1⟩)
  go_ret
  exact ⟨rfl, h1, ((Mov.refl B M w).drewN _).trans m1⟩
theorem one_reads (w0 : World) : Reads6 w0 114 pOne valU8 okU8 := by
  intro B M T rest r w h
  by_cases hlt : r.pos < r.s.size
  · have hb := UInt8.toNat_lt r.s[r.pos]
    exact (one_yes hlt h).mono fun e w' ⟨h1, h2, h3⟩ => ⟨_, _, h1, got_one hlt, h2, h3, by omega, by omega⟩
  · exact (one_no (by omega) h).mono fun e w' ⟨h1, h2, h3⟩ => ⟨0, _, h1, got_end (by omega), h2, h3, by decide, by decide⟩
end Go.Proofs.YtdinpakclmnacaaGreatDoor
