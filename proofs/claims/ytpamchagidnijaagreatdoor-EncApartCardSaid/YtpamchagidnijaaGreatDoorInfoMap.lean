/-
  A map of what is told of instructions, by their codes, made in the call: how an element reads, and what is found in it. No program is looked at.
-/
import Derived.Maps.Own
import Derived.Maps.OwnSet
import Derived.Test.YtpamchagidnijaaGreatDoorOpLists
namespace Go.Proofs.YtpamchagidnijaaGreatDoor
open Go.Maps

def infoD {H : Type} (n : ByteArray) (s : Int) (p r : ByteArray) : DataW H := .agg [.lit (.string n.data.toList), .lit (.int .i64 s), .lit (.string p.data.toList), .lit (.string r.data.toList)]
/-- What is told of an instruction reads as its four parts. -/
def infoRead {H : Type} : Value → Option (DataW H × List MemPlace)
  | .agg ⟨[.string n, .int .i64 s, .string p, .string r]⟩ => some (infoD n s p r, [])
  | _ => none
theorem infoRead_mk {H : Type} (n : ByteArray) (s : Int) (p r : ByteArray) : infoRead (H := H) (.agg #[.string n, .int .i64 s, .string p, .string r]) = some (infoD n s p r, []) := rfl
theorem bytes_inj {a b : ByteArray} (h : a.data.toList = b.data.toList) : a = b := by
  obtain ⟨⟨a⟩⟩ := a
  obtain ⟨⟨b⟩⟩ := b
  simp only at h
  rw [h]
theorem infoRead_inv {H : Type} {v : Value} {n : ByteArray} {s : Int} {p r : ByteArray} {ps : List MemPlace} (h : infoRead (H := H) v = some (infoD n s p r, ps)) : v = .agg #[.string n, .int .i64 s, .string p, .string r] := by
  unfold infoRead at h
  split at h
  · simp only [infoD, Option.some.injEq, Prod.mk.injEq, DataW.agg.injEq, List.cons.injEq, DataW.lit.injEq, Lit.string.injEq, Lit.int.injEq, true_and, and_true] at h
    obtain ⟨⟨h1, h2, h3, h4⟩, _⟩ := h
    rw [bytes_inj h1, h2, bytes_inj h3, bytes_inj h4]
  · cases h

/-- The first k of a list, as a map. -/
def mapD (l : Ls) : Nat → DataW Unit
  | 0 => .map []
  | k + 1 => (mapD l k).put (.int .i64 (l.first + k)) (infoD (l.name ++ l.parts.getD k ByteArray.empty) l.shape l.params l.results)
theorem key_ne {a b : Int} (h : a ≠ b) : Lit.int .i64 a ≠ Lit.int .i64 b := fun e => h (by injection e)
theorem mapD_map (l : Ls) : ∀ k, IsMap (mapD l k)
  | 0 => isMap_empty
  | k + 1 => (mapD_map l k).put _ _
theorem mapD_in (l : Ls) (code : Int) (zd : DataW Unit) : ∀ (k j : Nat), j < k → code = l.first + j → Maps.has (mapD l k) (.int .i64 code) = true ∧ (mapD l k).atKey (.int .i64 code) zd = infoD (l.name ++ l.parts.getD j ByteArray.empty) l.shape l.params l.results
  | 0, j, h, _ => by omega
  | k + 1, j, h, e => by
    unfold mapD
    by_cases hj : j = k
    · subst hj e
      have hk : WideAt.IsKeyLit (.int .i64 (l.first + j)) := trivial
      exact ⟨has_put_same (mapD_map l j) hk _, atKey_put_same (mapD_map l j) hk _ _⟩
    · rw [has_put_other (key_ne (by omega)), atKey_put_other (key_ne (by omega))]
      exact mapD_in l code zd k j (by omega) e
theorem mapD_out (l : Ls) (code : Int) (zd : DataW Unit) : ∀ (k : Nat), (code < l.first ∨ l.first + k ≤ code) → Maps.has (mapD l k) (.int .i64 code) = false ∧ (mapD l k).atKey (.int .i64 code) zd = zd
  | 0, _ => ⟨rfl, rfl⟩
  | k + 1, h => by
    unfold mapD
    rw [has_put_other (key_ne (by omega)), atKey_put_other (key_ne (by omega))]
    exact mapD_out l code zd k (by omega)
/-- What is found of a code is what its list tells. -/
theorem mapD_row (l : Ls) (code : Int) : Maps.has (mapD l l.parts.length) (.int .i64 code) = (rowIn l code).isSome ∧
    (mapD l l.parts.length).atKey (.int .i64 code) (infoD ⟨#[]⟩ 0 ⟨#[]⟩ ⟨#[]⟩) = match rowIn l code with | some r => infoD r.name r.shape r.params r.results | none => infoD ⟨#[]⟩ 0 ⟨#[]⟩ ⟨#[]⟩ := by
  by_cases h : 0 ≤ code - l.first ∧ (code - l.first).toNat < l.parts.length
  · have e : rowIn l code = some ⟨code, l.name ++ l.parts.getD (code - l.first).toNat ByteArray.empty, l.shape, l.params, l.results⟩ := by
      unfold rowIn
      rw [if_pos h.1, List.getElem?_eq_getElem h.2]
      simp [List.getD_eq_getElem?_getD, List.getElem?_eq_getElem h.2]
    rw [e]
    have m := mapD_in l code (infoD ⟨#[]⟩ 0 ⟨#[]⟩ ⟨#[]⟩) l.parts.length (code - l.first).toNat h.2 (by omega)
    exact ⟨m.1, m.2⟩
  · have e : rowIn l code = none := by
      unfold rowIn
      by_cases h0 : 0 ≤ code - l.first
      · rw [if_pos h0, List.getElem?_eq_none (by have : ¬ _ := fun x => h ⟨h0, x⟩; omega)]
        rfl
      · rw [if_neg h0]
    rw [e]
    have m := mapD_out l code (infoD ⟨#[]⟩ 0 ⟨#[]⟩ ⟨#[]⟩) l.parts.length (by
      by_cases h0 : 0 ≤ code - l.first
      · have : ¬ _ := fun x => h ⟨h0, x⟩
        omega
      · omega)
    exact ⟨m.1, m.2⟩
end Go.Proofs.YtpamchagidnijaaGreatDoor
