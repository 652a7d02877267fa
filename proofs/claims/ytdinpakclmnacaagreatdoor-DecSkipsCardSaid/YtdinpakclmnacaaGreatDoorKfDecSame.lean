/-
  Facts and contracts that the proof calls.
-/
import Derived.Test.YtdinpakclmnacaaGreatDoorKfDecSect
import Derived.Test.YtdinpakclmnacaaGreatDoorKfModEqual
namespace Go.Proofs.YtdinpakclmnacaaGreatDoor
set_option maxRecDepth 100000
set_option maxHeartbeats 16000000
set_option linter.unusedVariables false
theorem sameL6_of {α : Type} {p : α → α → Bool} : ∀ {l m : List α}, l.length = m.length → (∀ j (a : j < l.length) (b : j < m.length), p l[j] m[j] = true) → sameL p l m = true
  | [], [], _, _ => rfl
  | [], _ :: _, h, _ => by simp at h
  | _ :: _, [], h, _ => by simp at h
  | x :: l, y :: m, h, hp => by
    rw [sameL, sameL6_of (by simpa using h) (fun j a b => by have := hp (j + 1) (by simpa using a) (by simpa using b); simpa using this)]
    have := hp 0 (by simp) (by simp)
    simp at this
    rw [this]; rfl
theorem sameL6_self {α : Type} {p : α → α → Bool} (hp : ∀ x, p x x = true) (l : List α) : sameL p l l = true := sameL6_of rfl fun _ _ _ => hp _
theorem bare_fn {f g : FnV} (h : f.bare = g.bare) : sameFn f g = true := by
  obtain ⟨ty, lo, cp, cc, code⟩ := f
  obtain ⟨ty', lo', cp', cc', code'⟩ := g
  simp only [FnV.bare, FnV.mk.injEq] at h
  obtain ⟨rfl, rfl, _, _, hc⟩ := h
  unfold sameFn
  rw [bare_code hc]
  simp
theorem same_bare {a b : MoV} (h : a.bare = b.bare) : sameMod a b = true := by
  rw [sameMod_is]
  obtain ⟨tp, tc, types, fp, fc, funcs, mp, mc, memory, gp, gc, globals, ep, ec, exports, start, dp, dc, data⟩ := a
  obtain ⟨tp', tc', types', fp', fc', funcs', mp', mc', memory', gp', gc', globals', ep', ec', exports', start', dp', dc', data'⟩ := b
  simp only [MoV.bare, MoV.mk.injEq, true_and] at h
  obtain ⟨rfl, hf, rfl, rfl, rfl, rfl, rfl⟩ := h
  have hl : funcs.length = funcs'.length := by simpa using congrArg List.length hf
  have e1 : sameL sameFn funcs funcs' = true := sameL6_of hl fun j a b => bare_fn (by
    have := congrArg (fun l => l[j]?) hf
    simp only [List.getElem?_map, List.getElem?_eq_getElem a, List.getElem?_eq_getElem b, Option.map_some, Option.some.injEq] at this
    exact this)
  simp only [e1, sameL6_self (fun x => show sameTy x x = true by simp [sameTy]), sameL6_self (fun x => show sameMem x x = true by simp [sameMem]), sameL6_self (fun x => show sameGlob x x = true by simp [sameGlob]), sameL6_self (fun x => show sameExp x x = true by simp [sameExp]), sameL6_self (fun x => show sameDat x x = true by simp [sameDat])]
  simp
theorem rightIns_bare (x : InsV) : rightIns x.bare = rightIns x := by obtain ⟨op, a, b, lp, lc, ls⟩ := x; rfl
theorem rightFn_bare (f : FnV) : rightFn f.bare = rightFn f := by
  unfold rightFn FnV.bare opsOf
  simp only [List.all_map, List.map_map]
  rw [show (rightIns ∘ InsV.bare) = rightIns from funext rightIns_bare, show ((fun x : InsV => x.op) ∘ InsV.bare) = (fun x : InsV => x.op) from rfl]
theorem rightMod_bare (m : MoV) : rightMod m.bare = rightMod m := by
  unfold rightMod fewMod MoV.bare
  simp only [List.length_map, List.all_map]
  rw [show (rightFn ∘ FnV.bare) = rightFn from funext rightFn_bare]
end Go.Proofs.YtdinpakclmnacaaGreatDoor
