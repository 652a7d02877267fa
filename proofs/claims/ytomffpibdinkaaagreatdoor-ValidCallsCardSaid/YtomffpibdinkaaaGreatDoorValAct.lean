/-
  Package valid: an instruction's step, whichever: what is found in the map does what the chapter says. A contract that the proofs call; no statement is proved here.
-/
import Derived.Test.YtomffpibdinkaaaGreatDoorValNew
namespace Go.Proofs.YtomffpibdinkaaaGreatDoor
open Go.RowKit Go.Maps
set_option linter.unusedVariables false
set_option linter.unusedSimpArgs false
variable {w0 : World} {B M : Nat} {m : MoV} {lo wh : ByteArray} {s : VS} {sv ov : Value} {w : World}

theorem rows_short : ∀ r ∈ allRows, r.params.size ≤ 3 ∧ r.results.size ≤ 1 := by decide +kernel
theorem row_short {c : Int} {r : Rw} (h : byCode c = some r) : r.params.size ≤ 3 ∧ r.results.size ≤ 1 := rows_short r (List.mem_of_find?_eq_some h)
theorem ask_true7 (s : VS) : s.ask true = s := by unfold VS.ask; simp
theorem call_eq7 (m : MoV) (n : Int) (s : VS) : ((s.ask (typeOf7 m n).isSome).take (tyOr (typeOf7 m n)).params.data.toList).put (tyOr (typeOf7 m n)).results.data.toList = (match typeOf7 m n with | some t => ((s.take t.params.data.toList)).put t.results.data.toList | none => s.ask false) := by
  cases typeOf7 m n with
  | none => rfl
  | some t => rw [show (some t : Option TyV).isSome = true from rfl, ask_true7]; rfl
/-- A function with a body is gone into. -/
def Enters (n : Nat) : Prop := ∀ args (w : World), (callFunc n args).run Tryz.prog w = .ok (.enter n args) w
theorem enters_of {n : Nat} (h : (Tryz.prog.funcs[n]?).map (fun fn => (fn.name == "runtime.NumGoroutine", fn.body.isNone)) = some (false, false)) : Enters n := fun args w => by
  cases hf : Tryz.prog.funcs[n]? with
  | none => rw [hf] at h; cases h
  | some fn =>
    rw [hf] at h
    simp only [Option.map_some, Option.some.injEq, Prod.mk.injEq] at h
    have h1 : ¬ fn.name = "runtime.NumGoroutine" := fun e => by rw [e] at h; exact absurd h.1 (by decide)
    have h2 : ¬ fn.body = none := fun e => by rw [e] at h; exact absurd h.2 (by decide)
    simp [callFunc, Sem.run_bind, hf, h1, h2, Result.andThen]
/-- Which function is called, with what. -/
def Acts (w0 : World) (B M : Nat) (m : MoV) (lo wh : ByteArray) (s : VS) (x : InsV) (r : Rw) : Prop :=
  ∃ n bd, valOf7 B x.op r = .func (.func n) #[bd] #[] ∧ Enters n ∧ ∀ w sv ov, WAt w0 B M m lo wh s sv ov w → Calls Tryz.prog n #[bd, x.val] w (DidV w0 B M m lo wh (vstep (vc7 m lo wh) x s) sv ov w (.tuple #[]))
theorem acts {r : Rw} (hr : Room7 s) (hm : ModAt w0 m) (hts : ∀ t ∈ m.types, t.params.size ≤ 1000000 ∧ t.results.size ≤ 1) (hlo : lo.size ≤ 1000000000) (hwh : wh.size ≤ 1000000000) (x : InsV) (hx : InsAt w0 x) (hc : byCode x.op = some r) : Acts w0 B M m lo wh s x r := by
  have ha := hx.2.2.2.1
  by_cases h0 : x.op = 0
  · refine ⟨71, .pointer (some ⟨B, 0, none⟩), by unfold valOf7; rw [h0]; rfl, enters_of (by kernel_rfl), fun w sv ov h => ?_⟩
    have e := s_unreachable h hr x
    have e2 : vstep (vc7 m lo wh) x s = _ := (by unfold vstep; rw [if_pos h0] : vstep (vc7 m lo wh) x s = _)
    rw [e2]
    exact e
  by_cases h23 : x.op = 2 ∨ x.op = 3
  · refine ⟨72, .pointer (some ⟨B, 0, none⟩), by rcases h23 with e | e <;> (unfold valOf7; rw [e]; rfl), enters_of (by kernel_rfl), fun w sv ov h => ?_⟩
    have e : vstep (vc7 m lo wh) x s = s.enter x.op x.a := by unfold vstep; rw [if_neg h0, if_pos h23]
    rw [e]
    exact v_enter h x (by have := hr.opn; omega)
  by_cases h4 : x.op = 4
  · refine ⟨73, .pointer (some ⟨B, 0, none⟩), by unfold valOf7; rw [h4]; rfl, enters_of (by kernel_rfl), fun w sv ov h => ?_⟩
    have e := s_when h hr x
    have e2 : vstep (vc7 m lo wh) x s = _ := (by unfold vstep; rw [if_neg h0, if_neg h23, if_pos h4] : vstep (vc7 m lo wh) x s = _)
    rw [e2]
    exact e
  by_cases h5 : x.op = 5
  · refine ⟨74, .pointer (some ⟨B, 0, none⟩), by unfold valOf7; rw [h5]; rfl, enters_of (by kernel_rfl), fun w sv ov h => ?_⟩
    have e : vstep (vc7 m lo wh) x s = { s.leave with opens := ⟨x.op, s.inner.result, s.inner.height, false⟩ :: s.leave.opens } := by unfold vstep; rw [if_neg h0, if_neg h23, if_neg h4, if_pos h5]; rw [h5]
    rw [e]
    exact s_other h hr x
  by_cases h11 : x.op = 11
  · refine ⟨75, .pointer (some ⟨B, 0, none⟩), by unfold valOf7; rw [h11]; rfl, enters_of (by kernel_rfl), fun w sv ov h => ?_⟩
    have e := s_end h hr x
    have e2 : vstep (vc7 m lo wh) x s = _ := (by unfold vstep; rw [if_neg h0, if_neg h23, if_neg h4, if_neg h5, if_pos h11] : vstep (vc7 m lo wh) x s = _)
    rw [e2]
    exact e
  by_cases h12 : x.op = 12
  · refine ⟨76, .pointer (some ⟨B, 0, none⟩), by unfold valOf7; rw [h12]; rfl, enters_of (by kernel_rfl), fun w sv ov h => ?_⟩
    have e := s_br h hr x ha
    have e2 : vstep (vc7 m lo wh) x s = _ := (by unfold vstep; rw [if_neg h0, if_neg h23, if_neg h4, if_neg h5, if_neg h11, if_pos h12] : vstep (vc7 m lo wh) x s = _)
    rw [e2]
    exact e
  by_cases h13 : x.op = 13
  · refine ⟨77, .pointer (some ⟨B, 0, none⟩), by unfold valOf7; rw [h13]; rfl, enters_of (by kernel_rfl), fun w sv ov h => ?_⟩
    have e := s_brIf h hr x ha
    have e2 : vstep (vc7 m lo wh) x s = _ := (by unfold vstep; rw [if_neg h0, if_neg h23, if_neg h4, if_neg h5, if_neg h11, if_neg h12, if_pos h13] : vstep (vc7 m lo wh) x s = _)
    rw [e2]
    exact e
  by_cases h14 : x.op = 14
  · refine ⟨78, .pointer (some ⟨B, 0, none⟩), by unfold valOf7; rw [h14]; rfl, enters_of (by kernel_rfl), fun w sv ov h => ?_⟩
    have e := s_brTable h hr x hx
    have e2 : vstep (vc7 m lo wh) x s = _ := (by unfold vstep; rw [if_neg h0, if_neg h23, if_neg h4, if_neg h5, if_neg h11, if_neg h12, if_neg h13, if_pos h14] : vstep (vc7 m lo wh) x s = _)
    rw [e2]
    exact e
  by_cases h15 : x.op = 15
  · refine ⟨79, .pointer (some ⟨B, 0, none⟩), by unfold valOf7; rw [h15]; rfl, enters_of (by kernel_rfl), fun w sv ov h => ?_⟩
    have e : vstep (vc7 m lo wh) x s = (s.take wh.data.toList).kill := by unfold vstep; rw [if_neg h0, if_neg h23, if_neg h4, if_neg h5, if_neg h11, if_neg h12, if_neg h13, if_neg h14, if_pos h15]; rfl
    rw [e]
    exact s_giveBack h hr hwh x
  by_cases h16 : x.op = 16
  · refine ⟨80, .pointer (some ⟨B, 0, none⟩), by unfold valOf7; rw [h16]; rfl, enters_of (by kernel_rfl), fun w sv ov h => ?_⟩
    have e : vstep (vc7 m lo wh) x s = (match typeOf7 m x.a with | some t => ((s.take t.params.data.toList)).put t.results.data.toList | none => s.ask false) := by unfold vstep; rw [if_neg h0, if_neg h23, if_neg h4, if_neg h5, if_neg h11, if_neg h12, if_neg h13, if_neg h14, if_neg h15, if_pos h16]; rfl
    rw [e, ← call_eq7]
    exact s_call h hr hm hts x ha
  by_cases h26 : x.op = 26
  · refine ⟨81, .pointer (some ⟨B, 0, none⟩), by unfold valOf7; rw [h26]; rfl, enters_of (by kernel_rfl), fun w sv ov h => ?_⟩
    have e := s_drop h hr x
    have e2 : vstep (vc7 m lo wh) x s = _ := (by unfold vstep; rw [if_neg h0, if_neg h23, if_neg h4, if_neg h5, if_neg h11, if_neg h12, if_neg h13, if_neg h14, if_neg h15, if_neg h16, if_pos h26] : vstep (vc7 m lo wh) x s = _)
    rw [e2]
    exact e
  by_cases h27 : x.op = 27
  · refine ⟨82, .pointer (some ⟨B, 0, none⟩), by unfold valOf7; rw [h27]; rfl, enters_of (by kernel_rfl), fun w sv ov h => ?_⟩
    have e := s_choose h hr x
    have e2 : vstep (vc7 m lo wh) x s = _ := (by unfold vstep; rw [if_neg h0, if_neg h23, if_neg h4, if_neg h5, if_neg h11, if_neg h12, if_neg h13, if_neg h14, if_neg h15, if_neg h16, if_neg h26, if_pos h27] : vstep (vc7 m lo wh) x s = _)
    rw [e2]
    exact e
  by_cases h32 : x.op = 32
  · refine ⟨83, .pointer (some ⟨B, 0, none⟩), by unfold valOf7; rw [h32]; rfl, enters_of (by kernel_rfl), fun w sv ov h => ?_⟩
    have e := s_localGet h hr hlo x ha
    have e2 : vstep (vc7 m lo wh) x s = _ := (by unfold vstep; rw [if_neg h0, if_neg h23, if_neg h4, if_neg h5, if_neg h11, if_neg h12, if_neg h13, if_neg h14, if_neg h15, if_neg h16, if_neg h26, if_neg h27, if_pos h32] : vstep (vc7 m lo wh) x s = _)
    rw [e2]
    exact e
  by_cases h33 : x.op = 33
  · refine ⟨84, .pointer (some ⟨B, 0, none⟩), by unfold valOf7; rw [h33]; rfl, enters_of (by kernel_rfl), fun w sv ov h => ?_⟩
    have e := s_localSet h hr hlo x ha
    have e2 : vstep (vc7 m lo wh) x s = _ := (by unfold vstep; rw [if_neg h0, if_neg h23, if_neg h4, if_neg h5, if_neg h11, if_neg h12, if_neg h13, if_neg h14, if_neg h15, if_neg h16, if_neg h26, if_neg h27, if_neg h32, if_pos h33] : vstep (vc7 m lo wh) x s = _)
    rw [e2]
    exact e
  by_cases h34 : x.op = 34
  · refine ⟨85, .pointer (some ⟨B, 0, none⟩), by unfold valOf7; rw [h34]; rfl, enters_of (by kernel_rfl), fun w sv ov h => ?_⟩
    have e := s_localTee h hr hlo x ha
    have e2 : vstep (vc7 m lo wh) x s = _ := (by unfold vstep; rw [if_neg h0, if_neg h23, if_neg h4, if_neg h5, if_neg h11, if_neg h12, if_neg h13, if_neg h14, if_neg h15, if_neg h16, if_neg h26, if_neg h27, if_neg h32, if_neg h33, if_pos h34] : vstep (vc7 m lo wh) x s = _)
    rw [e2]
    exact e
  by_cases h35 : x.op = 35
  · refine ⟨86, .pointer (some ⟨B, 0, none⟩), by unfold valOf7; rw [h35]; rfl, enters_of (by kernel_rfl), fun w sv ov h => ?_⟩
    have e := s_globalGet h hr hm x ha
    have e2 : vstep (vc7 m lo wh) x s = _ := (by unfold vstep; rw [if_neg h0, if_neg h23, if_neg h4, if_neg h5, if_neg h11, if_neg h12, if_neg h13, if_neg h14, if_neg h15, if_neg h16, if_neg h26, if_neg h27, if_neg h32, if_neg h33, if_neg h34, if_pos h35] : vstep (vc7 m lo wh) x s = _)
    rw [e2]
    exact e
  by_cases h36 : x.op = 36
  · refine ⟨87, .pointer (some ⟨B, 0, none⟩), by unfold valOf7; rw [h36]; rfl, enters_of (by kernel_rfl), fun w sv ov h => ?_⟩
    have e := s_globalSet h hr hm x ha
    have e2 : vstep (vc7 m lo wh) x s = _ := (by unfold vstep; rw [if_neg h0, if_neg h23, if_neg h4, if_neg h5, if_neg h11, if_neg h12, if_neg h13, if_neg h14, if_neg h15, if_neg h16, if_neg h26, if_neg h27, if_neg h32, if_neg h33, if_neg h34, if_neg h35, if_pos h36] : vstep (vc7 m lo wh) x s = _)
    rw [e2]
    exact e
  have hn : fnOf7 x.op = none := by
    unfold fnOf7 fnList findFn findFn findFn findFn findFn findFn findFn findFn findFn findFn findFn findFn findFn findFn findFn findFn findFn findFn findFn
    rw [if_neg h36, if_neg h35, if_neg h34, if_neg h33, if_neg h32, if_neg h27, if_neg h26, if_neg h16, if_neg h15, if_neg h14, if_neg h13, if_neg h12, if_neg h11, if_neg h5, if_neg h4, if_neg (fun e => h23 (.inr e)), if_neg (fun e => h23 (.inl e)), if_neg h0]
  obtain ⟨hp, hq⟩ := row_short hc
  have e : vstep (vc7 m lo wh) x s = (((if r.shape = 5 ∨ r.shape = 6 then s.ask (decide (0 < m.memory.length) && decide (x.a ≤ power7 x.op)) else s).take r.params.data.toList).put r.results.data.toList) := by
    unfold vstep; rw [if_neg h0, if_neg h23, if_neg h4, if_neg h5, if_neg h11, if_neg h12, if_neg h13, if_neg h14, if_neg h15, if_neg h16, if_neg h26, if_neg h27, if_neg h32, if_neg h33, if_neg h34, if_neg h35, if_neg h36, hc]; rfl
  by_cases hs : r.shape = 5 ∨ r.shape = 6
  · refine ⟨89, toldV B r, ?_, enters_of (by kernel_rfl), fun w sv ov h => ?_⟩
    · unfold valOf7 toldF toldFn; rw [hn, if_pos hs]
    · rw [e, if_pos hs]
      exact s_toldMem h hr r (by omega) (by omega) x
  · refine ⟨88, toldV B r, ?_, enters_of (by kernel_rfl), fun w sv ov h => ?_⟩
    · unfold valOf7 toldF toldFn; rw [hn, if_neg hs]
    · rw [e, if_neg hs]
      exact s_told h hr r (by omega) (by omega) x
end Go.Proofs.YtomffpibdinkaaaGreatDoor
