/-
  Any instruction is right, or not, as the document says. No condition.
-/
import Derived.Test.YtjpcobfaojjceaaDoorOpRightsWalk
import Derived.Test.YtjpcobfaojjceaaDoorOpLaid
import Derived.Test.YtjpcobfaojjceaaDoorTie
import Derived.Test.YtjpcobfaojjceaaDoorCards
import Derived.SevenTiedAt
import Derived.Lib.SmallJoins
namespace Go.Proofs.YtjpcobfaojjceaaDoor.opRights
open Go Go.ChangeShapes Go.WideShapes Go.ChangeAt Go.RowKit
set_option linter.unusedVariables false

theorem cellInt : Tryd.prog.cellsOf 3 = 1 := by kernel_rfl
theorem cellInstr : Tryd.prog.cellsOf 36 = 4 := by kernel_rfl
theorem bytesInt : Tryd.prog.bytesOf 3 = 8 := by kernel_rfl

set_option maxRecDepth 100000 in
theorem lifted (os : Os) (started : os.Started) (H : Type) (enc : TypeId × Value → H) :
    ReturnsInHanded {} Tryd.checked os 4 .any (fun w args => (Rows.opRightsSpec.pre enc Tryd.prog Tryd.f4 [] false w args ∧ laidMetH Tryd.prog laid2 w) ∧ sizedMet enc Tryd.prog Tryd.f4 (OpenSpec.ofChange Rows.opRightsSpec) false w args)
      (Rows.opRightsSpec.post enc Tryd.prog Tryd.f4 false true false false) := by
  refine handed_of (C := Tryd.checked) (X := fun w _ => laidMetH Tryd.prog laid2 w) (fun _ _ _ hh h => h.of_heap hh) own started (by kernel_rfl) Tryd.func4
    (ChangeSpec.witness_shaped (enc := enc) (C := Tryd.checked) (os := os) (X := fun w _ => laidMetH Tryd.prog laid2 w) false (World.doorLaid Tryd.prog 400 os) #[.agg #[.int .i64 0, .int .i64 0, .int .i64 0, .slice none 0 0]] 8 rfl (World.shaped_of_RefB (by kernel_rfl) (by kernel_rfl)) (by kernel_rfl) (by kernel_rfl) (by kernel_rfl) (door_met os _)) ?_
  intro W base args ds gs before hval0 hW hsz0 hL hS
  have hval : ∀ (j : Nat) t v, Tryd.f4.params[j]? = some t → args[j]? = some v → Value.okWide Tryd.prog W .any base t v := hval0
  have hsz : (DataW.weightsEach Tryd.prog (Tryd.f4.params.toList ++ Rows.opRightsSpec.plain.varTypes Tryd.prog) (ds ++ gs)).all (· ≤ reachBytes) = true := hsz0
  have hW' := hW
  obtain ⟨p, q, hA0, hV, rfl, hfz, hnd⟩ := hW
  have hA : DataW.TrodAll enc Tryd.prog W 0 (fun _ => true) true Tryd.f4.params.toList args.toList ds p := hA0
  rw [Tryd.params4] at hA hval hsz
  obtain ⟨v0, vs0, d0, ds0, p0, q0, hargs, rfl, rfl, h0, r0⟩ := trodAll_cons hA
  obtain ⟨rfl, rfl, rfl⟩ := trodAll_nil r0
  obtain rfl : args = #[v0] := by cases args; simp_all
  obtain ⟨rfl, rfl⟩ := trodVars_none hV
  have h0k := h0
  obtain ⟨c0, c1, c2, c3, y0, y1, y2, y3, m, rfl, rfl, rfl, hy0, hy1, hy2, hy3⟩ := Joins.open_agg4 Tryd.underlying36 (by kernel_rfl) cellInstr (hval 0 36 v0 rfl rfl) h0
  obtain ⟨x0, e0, rfl, w0⟩ := DataW.trod_int Tryd.underlying3 hy0
  obtain ⟨x1, e1, rfl, w1⟩ := DataW.trod_int Tryd.underlying2 hy1
  obtain ⟨x2, e2, rfl, w2⟩ := DataW.trod_int Tryd.underlying2 hy2
  simp only [List.cons.injEq, and_true] at e0 e1 e2
  subst e0 e1 e2
  have b0 := bounds_i64 w0
  clear hA0 hval0
  simp only [List.append_nil, List.nil_append] at hW' h0k
  rcases open_ints Tryd.underlying34 Tryd.underlying3 cellInt hy3 with ⟨e3, rfl⟩ | ⟨ad, len, cap, zs, e3, hab, hlc, hcm, hzl, rfl, hcell, hzw⟩
  · simp only [List.cons.injEq, and_true] at e3
    subst e3
    have hlt : ∀ x ∈ ([] : List MemPlace), x.block < W.heap.size := fun x hx => by cases hx
    refine (opRights_walk x0 x1 x2 none 0 0 [] b0.1 b0.2 rfl (by decide) W (of_laid hL hS) (fun j hj => absurd hj (by simp))).mono fun e W' ⟨he, bel⟩ => ?_
    subst he
    exact ⟨_, rfl, _, _, _, [], _, [], hW', trodAll_mk1 (shut_bool Tryd.underlying4 _), trodAll_mk1 (Below.trod laidOut (by kernel_rfl) (of_decide_eq_true (by kernel_rfl)) h0k bel hlt), rfl, bel.frame _, fun h => by cases h⟩
  · simp only [List.cons.injEq, and_true] at e3
    subst e3
    have hlt : ∀ x ∈ MemPlace.row ad zs.length, x.block < W.heap.size := fun x hx => by simpa using hW'.lt x hx
    have hzl' : zs.length = cap := by simpa using hzl
    have hreach : cap * 8 ≤ 140737488351232 := by
      have := List.all_eq_true.1 hsz _ (DataW.weights_mem_each (j := 0) (t := 36) rfl rfl (cap * 8) (by
        have e : cap * 8 = ((lits (H := H) IntKind.i64 (zs.take len)).length + (lits (H := H) IntKind.i64 (zs.drop len)).length) * 8 := by
          simp [lits]; omega
        simp [DataW.weights, DataW.weightsEach, Tryd.underlying36, Tryd.underlying34, bytesInt]
        exact .inl e))
      have := of_decide_eq_true this
      simpa [reachBytes] using this
    have hll : len = (zs.take len).length := by simp; omega
    have hI : IntsAt W (some ad) (zs.take len) := fun j hj => by
      have hj' : j < zs.length := by simp at hj; omega
      obtain ⟨b, o, rfl, hc⟩ := ints_at hcell (by omega)
      have hcj := hc j hj'
      refine ⟨b, o, rfl, ?_, ?_⟩
      · exact hlt (.cell b o) (List.mem_map.2 ⟨0, List.mem_range.2 (by omega), by simp⟩)
      · rw [hcj]; congr 2; simp [List.getD_eq_getElem?_getD, List.getElem_take, List.getElem?_eq_getElem hj']
    refine (opRights_walk x0 x1 x2 (some ad) len cap (zs.take len) b0.1 b0.2 hll (by omega) W (of_laid hL hS) hI).mono fun e W' ⟨he, bel⟩ => ?_
    subst he
    exact ⟨_, rfl, _, _, _, [], _, [], hW', trodAll_mk1 (shut_bool Tryd.underlying4 _), trodAll_mk1 (Below.trod laidOut (by kernel_rfl) (of_decide_eq_true (by kernel_rfl)) h0k bel hlt), rfl, bel.frame _, fun h => by cases h⟩

theorem over : Rows.OpRightsSaid :=
  OpenClaim.holds_of_wide 4 Tryd.f4 rfl rfl rfl rfl rfl rfl rfl ⟨rfl, rfl, rfl, rfl, rfl⟩ rfl rfl rfl rfl rfl (by kernel_rfl) Tryd.func4 (by kernel_rfl)
    (of_decide_eq_true (by kernel_rfl)) (by unfold Func.isWrapper; first | (rw [if_pos (by decide +kernel)]; kernel_rfl) | (rw [if_neg (by decide +kernel)]; exact ⟨rfl, rfl⟩))
    (fun os started H enc _ => lifted os started H enc)

theorem proved : Rows.OpRightsCardSaid :=
  Claim7.holds_tied_plain_at .later [] [.listed, .data] true Rows.opRightsCard.stood.harness false
    over (fun _ h => by cases h) (by kernel_rfl) (fun _ h => by cases h) opRights_row_tie rfl ⟨rfl, rfl⟩ (by kernel_rfl) rfl
    (fun f fn hf hfn => by
      obtain rfl : f = 4 := Option.some.inj ((show Tryd.prog.funcNamed "tuckmill/tuckmilllaw03.OpRights" = some 4 by kernel_rfl).symm.trans hf) |>.symm
      obtain rfl : fn = Tryd.f4 := (Option.some.inj (Tryd.func4.symm.trans hfn)).symm
      exact ⟨by kernel_rfl, fun j t ht => by
        rw [Tryd.params4] at ht
        have hm : t ∈ [36] := by simpa using Array.mem_of_getElem? ht
        have hall : ([36].all fun u => !Tryd.prog.wantsStandIn u) = true := by kernel_rfl
        exact (show Tryd.prog.wantsStandIn t = false by simpa using List.all_eq_true.1 hall t hm)⟩)
    (by kernel_rfl)
end Go.Proofs.YtjpcobfaojjceaaDoor.opRights
