/-
  The tables that a row lists (three of the library's, powers of ten, and package value's truths) lie in the memory that the walks start in; and a start-up memory bears them. No statement is proved here.
-/
import Derived.Test.YtfjoobopfjahcaaDoorVuText
import Derived.ProofKit
import Derived.LaidMore
import Derived.OpenShut
import Derived.ShutString
import Derived.Stop.Joined
import Derived.SizedLaws
import Derived.Shelf.Vars
import Derived.Lay
import Derived.Lib.LaidU8T
namespace Go.Proofs.YtfjoobopfjahcaaDoor
set_option linter.unusedVariables false
open Go.ChangeShapes Go.WideShapes Go.ChangeAt Go.RowKit

/-- The plain wrap over a condition on the world, with the world's shape and the reach handed on. -/
theorem handed_of {H : Type} {enc : TypeId × Value → H} {a : Assume} {C : Checked} {os : Os} {f : FuncId} {fn : Func} {s : ChangeSpec} {conds : List PathCond} {apart fresh handsOn again : Bool} {X : World → Array Value → Prop}
    (hX : ∀ (w w' : World) (args : Array Value), w.heap = w'.heap → X w args → X w' args)
    (own : ownKnob C.prog.godebug = none) (started : os.Started) (noInit : C.prog.inits.idxOf? f = none) (hfn : C.prog.funcs[f]? = some fn)
    (witness : ∃ (w : World) (tape : Tape) (i : Input), w.os = os ∧ (w.forCall tape i).Shaped C.prog ∧ i.vars = [] ∧ Input.okWide C.prog (w.forCall tape i) .any w.heap.size f i ∧
      ((s.pre enc C.prog fn conds apart (w.forCall tape i).memory i.args ∧ X (w.forCall tape i).memory i.args) ∧ sizedMet enc C.prog fn (OpenSpec.ofChange s) apart (w.forCall tape i).memory i.args) ∧ a.holds C.prog (lone (Frame.enter C.prog f i.args .normal) [] (w.forCall tape i)))
    (contract : ∀ (W : World) (base : Nat) (args : Array Value) (ds gs : List (DataW H)) (before : List MemPlace),
      (∀ (j : Nat) t v, fn.params[j]? = some t → args[j]? = some v → Value.okWide C.prog W .any base t v) →
      DataW.Whole enc C.prog fn.params.toList s.vars apart W args.toList ds gs before →
      (DataW.weightsEach C.prog (fn.params.toList ++ s.plain.varTypes C.prog) (ds ++ gs)).all (· ≤ reachBytes) = true → X W args → W.ShapedOpen C.prog →
      Calls C.prog f args W fun e W' => ∃ v, e = .returned v ∧ s.post enc C.prog fn apart fresh handsOn again W args v W') :
    ReturnsInHanded a C os f .any (fun w args => (s.pre enc C.prog fn conds apart w args ∧ X w args) ∧ sizedMet enc C.prog fn (OpenSpec.ofChange s) apart w args) (s.post enc C.prog fn apart fresh handsOn again) := by
  refine returnsInHanded_of_calls own started noInit witness ?_
  intro w tape i _ hsh _ hok hpre _
  obtain ⟨_, _, _, fn', hfn', _, _, _, _, hval⟩ := hok
  have e : fn' = fn := Option.some.inj (hfn'.symm.trans hfn)
  subst e
  obtain ⟨⟨⟨ds, gs, before, hw, _⟩, hx⟩, hz⟩ := hpre
  have hw' := DataW.Whole.of_heap (w' := w.forCall tape i) (by rfl) hw
  refine (contract (w.forCall tape i) w.heap.size i.args ds gs before hval hw' (hz.weights hw) (hX _ _ _ (by rfl) hx) hsh).mono fun e W' ⟨v, he, hp⟩ => ?_
  subst he
  exact ChangeSpec.post_blind hp

theorem own : ownKnob Tryd.prog.godebug = none := by kernel_rfl
theorem laidOut : laidOutB Tryd.prog = true := by kernel_rfl
theorem cellU64 : Tryd.prog.cellsOf 62 = 1 := by kernel_rfl
abbrev laid6 : List (String × DataW Unit) := [("math/bits.deBruijn32tab", Rows.laid_math_bits_deBruijn32tab), ("math/bits.deBruijn64tab", Rows.laid_math_bits_deBruijn64tab), ("internal/strconv.uint64pow10", Rows.laid_internal_strconv_uint64pow10), ("unicode/utf8.acceptRanges", Rows.laid_unicode_utf8_acceptRanges), ("tuckmill/value.truths", Rows.laid_tuckmill_value_truths), ("unicode/utf8.first", Rows.laid_unicode_utf8_first)]
theorem tens_row : (Rows.laid_internal_strconv_uint64pow10 : DataW Unit) = Lib.tabData .u64 Lib.pow10Tab := by kernel_rfl

/-- A memory where they lie, all of them. -/
theorem door_met (os : Os) (args : Array Value) : laidMetH Tryd.prog laid6 ((World.laidAll Tryd.prog os laid6).forCall (fun _ _ => 0) ⟨#[], args, []⟩).memory := by
  rw [MakeChecks.laidMetH_plain _ _ _ (by kernel_rfl)]
  exact laidMet_laidAll _ (by kernel_rfl) (by kernel_rfl)
theorem door_shaped (os : Os) : (World.laidAll Tryd.prog os laid6).Shaped Tryd.prog := World.shaped_of_ZipB (by kernel_rfl) (by kernel_rfl)

theorem tab_reads {P : Program} {W : World} {name : String} {k : IntKind} {zs : List Int} {g : Nat} {t e : TypeId} {n : Nat} {d : DataW Unit}
    (hg : P.globalNamed name = some g) (hty : (P.globals[g]?).map (·.type) = some t) (ht : P.underlying t = some (.array n e)) (he : P.underlying e = some (.int k)) (hce : P.cellsOf e = 1) (hct : P.cellsOf t = n) (hd : d = Lib.tabData k zs)
    (h : Lib.VarReads P W name d) : Lib.TabIs P W name k zs := by
  subst hd
  obtain ⟨g', t', cs, fuel, p, hg', ht', hvar, hd⟩ := h
  obtain rfl := Option.some.inj (hg.symm.trans hg')
  obtain rfl := Option.some.inj (hty.symm.trans ht')
  unfold Lib.TabIs
  rw [hvar, ← Lib.cells_of_tab ht he hce hct hd]

/-- An array of structs of a truth, a number and a text, read as what a row lists: each cell. -/
theorem truths_at {H : Type} {enc : TypeId × Value → H} {P : Program} {w : World} {base : Nat} {sp : Nat → Bool} {held : Bool} {m n : Nat} {t e tb ti ts : TypeId} {f0 f1 f2 : Field} {cs : List Value} {ds : List (DataW H)} {ps : List MemPlace}
    (ht : P.underlying t = some (.array n e)) (he : P.underlying e = some (.struct #[f0, f1, f2])) (hce : P.cellsOf e = 3)
    (e0 : f0.type = tb) (e1 : f1.type = ti) (e2 : f2.type = ts) (o0 : f0.offset = 0) (o1 : f1.offset = 1) (o2 : f2.offset = 2)
    (u0 : P.underlying tb = some .bool) (u1 : P.underlying ti = some (.int .i64)) (u2 : P.underlying ts = some .string) (c0 : P.cellsOf tb = 1) (c1 : P.cellsOf ti = 1) (c2 : P.cellsOf ts = 1)
    (h : DataW.trod enc P w base sp held m t cs = some (.agg ds, ps)) (i : Nat) (hi : i < n) {b : Bool} {k : Int} {s : List UInt8} (hd : ds[i]? = some (.agg [.lit (.bool b), .lit (.int .i64 k), .lit (.string s)])) :
    cs[i * 3]? = some (.bool b) ∧ cs[i * 3 + 1]? = some (.int .i64 k) ∧ cs[i * 3 + 2]? = some (.string ⟨s.toArray⟩) := by
  obtain ⟨xs, m1, rfl, hx, hlen, hl, hel⟩ := DataW.trod_array ht h
  simp only [Prod.mk.injEq, DataW.agg.injEq] at hx
  obtain ⟨rfl, _⟩ := hx
  have hh := hel i hi
  rw [hce, List.getElem?_eq_getElem (by omega)] at hh
  rw [List.getElem?_map, List.getElem?_eq_getElem (by omega)] at hd
  simp only [Option.map_some, Option.some.injEq] at hd
  obtain ⟨ys, m2, rfl, hy, hlen2, hl2, hel2⟩ := DataW.trod_struct he hh
  have a0 := hel2 0 f0 rfl
  have a1 := hel2 1 f1 rfl
  have a2 := hel2 2 f2 rfl
  rw [e0, o0, c0] at a0
  rw [e1, o1, c1] at a1
  rw [e2, o2, c2] at a2
  match ys, hl2 with
  | [y0, y1, y2], _ =>
    simp only [List.getElem?_cons_zero, List.getElem?_cons_succ] at a0 a1 a2
    obtain ⟨b', q0, z0⟩ := DataW.trod_bool u0 a0
    obtain ⟨k', q1, z1, _⟩ := DataW.trod_int u1 a1
    obtain ⟨s', q2, z2, _⟩ := DataW.trod_string u2 a2
    subst z0 z1 z2
    rw [hy] at hd
    simp only [List.map_cons, List.map_nil, DataW.agg.injEq, List.cons.injEq, DataW.lit.injEq, Lit.bool.injEq, Lit.int.injEq, Lit.string.injEq, true_and, and_true] at hd
    obtain ⟨rfl, rfl, rfl⟩ := hd
    have g0 := congrArg (·[0]?) q0
    have g1 := congrArg (·[0]?) q1
    have g2 := congrArg (·[0]?) q2
    simp at g0 g1 g2
    exact ⟨g0, g1, g2⟩

theorem of_laid {W : World} (h : laidMetH Tryd.prog laid6 W) (hs : W.ShapedOpen Tryd.prog) : Laid W := by
  rw [MakeChecks.laidMetH_plain _ _ _ (by kernel_rfl)] at h
  have r1 := Lib.laidMet.reads h (n := "internal/strconv.uint64pow10") (d := Rows.laid_internal_strconv_uint64pow10) (by simp [laid6])
  have r2 := Lib.laidMet.reads h (n := "tuckmill/value.truths") (d := Rows.laid_tuckmill_value_truths) (by simp [laid6])
  refine ⟨?_, ?_, cell_of_shapedOpen_int (zero := #[.int .i64 0]) (t := 3) hs (of_decide_eq_true (by kernel_rfl)) (by kernel_rfl) rfl (by kernel_rfl) (by kernel_rfl) Tryd.underlying3⟩
  · obtain ⟨g, t, cs, fuel, p, hg, hty, hvar, hd⟩ := r2
    obtain rfl := Option.some.inj ((show Tryd.prog.globalNamed "tuckmill/value.truths" = some 0 by kernel_rfl).symm.trans hg)
    obtain rfl := Option.some.inj ((show (Tryd.prog.globals[0]?).map (·.type) = some 70 by kernel_rfl).symm.trans hty)
    have hat := fun i hi b k s hds => truths_at (tb := 4) (ti := 2) (ts := 9) Tryd.underlying70 Tryd.underlying25 (by kernel_rfl) rfl rfl rfl rfl rfl rfl Tryd.underlying4 Tryd.underlying2 Tryd.underlying9 (by kernel_rfl) (by kernel_rfl) (by kernel_rfl) hd i hi (b := b) (k := k) (s := s) hds
    obtain ⟨p0, p1, p2⟩ := hat 0 (by omega) _ _ _ rfl
    obtain ⟨p3, p4, p5⟩ := hat 1 (by omega) _ _ _ rfl
    obtain ⟨p6, p7, p8⟩ := hat 2 (by omega) _ _ _ rfl
    have c := fun i => World.var?_cell hg hvar i
    have cc : ∀ i v, cs.toList[i]? = some v → W.cell? ⟨0, i, none⟩ = some v := fun i v hv => by rw [c i, ← Array.getElem?_toList]; exact hv
    exact ⟨World.block_lt_of_cell? W _ (cc 0 _ p0), cc 0 _ p0, cc 1 _ p1, cc 2 _ p2, cc 3 _ p3, cc 4 _ p4, cc 5 _ p5, cc 6 _ p6, cc 7 _ p7, cc 8 _ p8⟩
  · exact tab_reads (g := 4) (by kernel_rfl) (by kernel_rfl) Tryd.underlying135 Tryd.underlying62 cellU64 (by kernel_rfl) tens_row r1
end Go.Proofs.YtfjoobopfjahcaaDoor
