/-
  Facts and contracts that the proof calls.
-/
import Derived.Test.YtomffpibdinkaaaGreatDoorVbOpRefRows
import Derived.Lib.FieldsLaws
import Derived.Lib.SlicesS
namespace Go.Proofs.YtomffpibdinkaaaGreatDoor
set_option maxRecDepth 100000
set_option maxHeartbeats 16000000
structure Ls where
  first : Int
  name : ByteArray
  shape : Int
  params : ByteArray
  results : ByteArray
  ends : ByteArray
def Ls.val (l : Ls) : Value := .agg #[.int .i64 l.first, .agg #[.string l.name, .int .i64 l.shape, .string l.params, .string l.results], .string l.ends]
def Ls.none : Ls := ⟨0, ⟨#[]⟩, 0, ⟨#[]⟩, ⟨#[]⟩, ⟨#[]⟩⟩
def Ls.parts (l : Ls) : List ByteArray := (Lib.fields l.ends.data.toList).map fun x => ⟨x.toArray⟩
def flowL : List Ls := [⟨0, ⟨#[]⟩, 0, ⟨#[]⟩, ⟨#[]⟩, ⟨#[117, 110, 114, 101, 97, 99, 104, 97, 98, 108, 101, 32, 110, 111, 112]⟩⟩,
  ⟨2, ⟨#[]⟩, 1, ⟨#[]⟩, ⟨#[]⟩, ⟨#[98, 108, 111, 99, 107, 32, 108, 111, 111, 112, 32, 105, 102]⟩⟩,
  ⟨5, ⟨#[]⟩, 0, ⟨#[]⟩, ⟨#[]⟩, ⟨#[101, 108, 115, 101]⟩⟩,
  ⟨11, ⟨#[]⟩, 0, ⟨#[]⟩, ⟨#[]⟩, ⟨#[101, 110, 100]⟩⟩,
  ⟨12, ⟨#[]⟩, 2, ⟨#[]⟩, ⟨#[]⟩, ⟨#[98, 114, 32, 98, 114, 95, 105, 102]⟩⟩,
  ⟨14, ⟨#[]⟩, 3, ⟨#[]⟩, ⟨#[]⟩, ⟨#[98, 114, 95, 116, 97, 98, 108, 101]⟩⟩,
  ⟨15, ⟨#[]⟩, 0, ⟨#[]⟩, ⟨#[]⟩, ⟨#[114, 101, 116, 117, 114, 110]⟩⟩,
  ⟨16, ⟨#[]⟩, 4, ⟨#[]⟩, ⟨#[]⟩, ⟨#[99, 97, 108, 108]⟩⟩,
  ⟨26, ⟨#[]⟩, 0, ⟨#[]⟩, ⟨#[]⟩, ⟨#[100, 114, 111, 112, 32, 115, 101, 108, 101, 99, 116]⟩⟩,
  ⟨32, ⟨#[108, 111, 99, 97, 108, 46]⟩, 4, ⟨#[]⟩, ⟨#[]⟩, ⟨#[103, 101, 116, 32, 115, 101, 116, 32, 116, 101, 101]⟩⟩,
  ⟨35, ⟨#[103, 108, 111, 98, 97, 108, 46]⟩, 4, ⟨#[]⟩, ⟨#[]⟩, ⟨#[103, 101, 116, 32, 115, 101, 116]⟩⟩]
def memL : List Ls := [⟨40, ⟨#[105, 51, 50, 46]⟩, 5, ⟨#[127]⟩, ⟨#[127]⟩, ⟨#[108, 111, 97, 100]⟩⟩,
  ⟨41, ⟨#[105, 54, 52, 46]⟩, 5, ⟨#[127]⟩, ⟨#[126]⟩, ⟨#[108, 111, 97, 100]⟩⟩,
  ⟨44, ⟨#[105, 51, 50, 46]⟩, 5, ⟨#[127]⟩, ⟨#[127]⟩, ⟨#[108, 111, 97, 100, 56, 95, 115, 32, 108, 111, 97, 100, 56, 95, 117, 32, 108, 111, 97, 100, 49, 54, 95, 115, 32, 108, 111, 97, 100, 49, 54, 95, 117]⟩⟩,
  ⟨48, ⟨#[105, 54, 52, 46]⟩, 5, ⟨#[127]⟩, ⟨#[126]⟩, ⟨#[108, 111, 97, 100, 56, 95, 115, 32, 108, 111, 97, 100, 56, 95, 117, 32, 108, 111, 97, 100, 49, 54, 95, 115, 32, 108, 111, 97, 100, 49, 54, 95, 117, 32, 108, 111, 97, 100, 51, 50, 95, 115, 32, 108, 111, 97, 100, 51, 50, 95, 117]⟩⟩,
  ⟨54, ⟨#[105, 51, 50, 46]⟩, 5, ⟨#[127, 127]⟩, ⟨#[]⟩, ⟨#[115, 116, 111, 114, 101]⟩⟩,
  ⟨55, ⟨#[105, 54, 52, 46]⟩, 5, ⟨#[127, 126]⟩, ⟨#[]⟩, ⟨#[115, 116, 111, 114, 101]⟩⟩,
  ⟨58, ⟨#[105, 51, 50, 46]⟩, 5, ⟨#[127, 127]⟩, ⟨#[]⟩, ⟨#[115, 116, 111, 114, 101, 56, 32, 115, 116, 111, 114, 101, 49, 54]⟩⟩,
  ⟨60, ⟨#[105, 54, 52, 46]⟩, 5, ⟨#[127, 126]⟩, ⟨#[]⟩, ⟨#[115, 116, 111, 114, 101, 56, 32, 115, 116, 111, 114, 101, 49, 54, 32, 115, 116, 111, 114, 101, 51, 50]⟩⟩,
  ⟨63, ⟨#[109, 101, 109, 111, 114, 121, 46]⟩, 6, ⟨#[]⟩, ⟨#[127]⟩, ⟨#[115, 105, 122, 101]⟩⟩,
  ⟨64, ⟨#[109, 101, 109, 111, 114, 121, 46]⟩, 6, ⟨#[127]⟩, ⟨#[127]⟩, ⟨#[103, 114, 111, 119]⟩⟩]
def numL (name one two : ByteArray) (asked made : Int) : List Ls := [⟨asked, name, 0, one, ⟨#[127]⟩, ⟨#[101, 113, 122]⟩⟩,
  ⟨asked + 1, name, 0, two, ⟨#[127]⟩, ⟨#[101, 113, 32, 110, 101]⟩⟩,
  ⟨asked + 3, name, 0, two, ⟨#[127]⟩, ⟨#[108, 116, 95, 115, 32, 108, 116, 95, 117, 32, 103, 116, 95, 115, 32, 103, 116, 95, 117, 32, 108, 101, 95, 115, 32, 108, 101, 95, 117, 32, 103, 101, 95, 115, 32, 103, 101, 95, 117]⟩⟩,
  ⟨made, name, 0, one, one, ⟨#[99, 108, 122, 32, 99, 116, 122, 32, 112, 111, 112, 99, 110, 116]⟩⟩,
  ⟨made + 3, name, 0, two, one, ⟨#[97, 100, 100, 32, 115, 117, 98, 32, 109, 117, 108, 32, 100, 105, 118, 95, 115, 32, 100, 105, 118, 95, 117, 32, 114, 101, 109, 95, 115, 32, 114, 101, 109, 95, 117]⟩⟩,
  ⟨made + 10, name, 0, two, one, ⟨#[97, 110, 100, 32, 111, 114, 32, 120, 111, 114, 32, 115, 104, 108, 32, 115, 104, 114, 95, 115, 32, 115, 104, 114, 95, 117, 32, 114, 111, 116, 108, 32, 114, 111, 116, 114]⟩⟩]
def constL : List Ls := [⟨65, ⟨#[105, 51, 50, 46]⟩, 7, ⟨#[]⟩, ⟨#[127]⟩, ⟨#[99, 111, 110, 115, 116]⟩⟩,
  ⟨66, ⟨#[105, 54, 52, 46]⟩, 7, ⟨#[]⟩, ⟨#[126]⟩, ⟨#[99, 111, 110, 115, 116]⟩⟩]
def endL : List Ls := [⟨167, ⟨#[105, 51, 50, 46]⟩, 0, ⟨#[126]⟩, ⟨#[127]⟩, ⟨#[119, 114, 97, 112, 95, 105, 54, 52]⟩⟩,
  ⟨172, ⟨#[105, 54, 52, 46]⟩, 0, ⟨#[127]⟩, ⟨#[126]⟩, ⟨#[101, 120, 116, 101, 110, 100, 95, 105, 51, 50, 95, 115, 32, 101, 120, 116, 101, 110, 100, 95, 105, 51, 50, 95, 117]⟩⟩]
def allL : List Ls := flowL ++ memL ++ constL ++ numL ⟨#[105, 51, 50, 46]⟩ ⟨#[127]⟩ ⟨#[127, 127]⟩ 69 103 ++ numL ⟨#[105, 54, 52, 46]⟩ ⟨#[126]⟩ ⟨#[126, 126]⟩ 80 121 ++ endL
def nearStep (code : Int) (l t : Ls) : Ls := if l.first ≤ t.first ∧ t.first ≤ code then t else l
def near (code : Int) : Ls := allL.foldl (nearStep code) Ls.none
def rowIn (l : Ls) (code : Int) : Option Rw :=
  if 0 ≤ code - l.first then (l.parts[(code - l.first).toNat]?).map fun e => ⟨code, l.name ++ e, l.shape, l.params, l.results⟩ else none
instance : DecidableEq Rw := fun a b => by
  obtain ⟨a1, a2, a3, a4, a5⟩ := a
  obtain ⟨b1, b2, b3, b4, b5⟩ := b
  exact decidable_of_iff (a1 = b1 ∧ a2 = b2 ∧ a3 = b3 ∧ a4 = b4 ∧ a5 = b5) (by simp)
theorem first_bd : ∀ t ∈ allL, 0 ≤ t.first ∧ t.first ≤ 172 ∧ t.ends.size ≤ 60 ∧ t.name.size ≤ 10 ∧ t.parts.length ≤ 8 ∧ 0 ≤ t.shape ∧ t.shape ≤ 7 ∧ t.params.size ≤ 2 ∧ t.results.size ≤ 1 ∧ t.parts.all (fun e => decide (e.size ≤ 20)) = true ∧ t.ends.data.toList.all (fun b => decide (b.toNat < 128)) = true := by decide +kernel
theorem fold_low (code : Int) (h : code < 0) : ∀ (ts : List Ls) (l : Ls), (∀ t ∈ ts, 0 ≤ t.first) → ts.foldl (nearStep code) l = l
  | [], _, _ => rfl
  | t :: ts, l, ht => by
    have h0 := ht t (List.mem_cons_self ..)
    rw [List.foldl_cons, show nearStep code l t = l from if_neg (by omega)]
    exact fold_low code h ts l fun x hx => ht x (List.mem_cons_of_mem _ hx)
theorem fold_high (code : Int) (h : 172 ≤ code) : ∀ (ts : List Ls) (l : Ls), (∀ t ∈ ts, t.first ≤ 172) → ts.foldl (nearStep code) l = ts.foldl (nearStep 172) l
  | [], _, _ => rfl
  | t :: ts, l, ht => by
    have h0 := ht t (List.mem_cons_self ..)
    have e : nearStep code l t = nearStep 172 l t := by
      unfold nearStep
      by_cases h1 : l.first ≤ t.first
      · rw [if_pos ⟨h1, by omega⟩, if_pos ⟨h1, by omega⟩]
      · rw [if_neg (fun x => h1 x.1), if_neg (fun x => h1 x.1)]
    rw [List.foldl_cons, List.foldl_cons, e]
    exact fold_high code h ts _ fun x hx => ht x (List.mem_cons_of_mem _ hx)
theorem near_low (code : Int) (h : code < 0) : near code = Ls.none := fold_low code h allL Ls.none fun t ht => (first_bd t ht).1
theorem near_high (code : Int) (h : 172 ≤ code) : near code = near 172 := fold_high code h allL Ls.none fun t ht => (first_bd t ht).2.1
theorem near_mem (code : Int) : near code = Ls.none ∨ near code ∈ allL := by
  have : ∀ (ts : List Ls) (l : Ls), ts.foldl (nearStep code) l = l ∨ ts.foldl (nearStep code) l ∈ ts := by
    intro ts
    induction ts with
    | nil => intro l; exact .inl rfl
    | cons t ts ih =>
      intro l
      rw [List.foldl_cons]
      rcases ih (nearStep code l t) with e | e
      · rw [e]
        unfold nearStep
        split
        · exact .inr (List.mem_cons_self ..)
        · exact .inl rfl
      · exact .inr (List.mem_cons_of_mem _ e)
  exact this allL Ls.none
theorem near_bd (code : Int) : 0 ≤ (near code).first ∧ (near code).first ≤ 172 ∧ (near code).ends.size ≤ 60 ∧ (near code).name.size ≤ 10 ∧ (near code).parts.length ≤ 8 ∧ (near code).parts.all (fun e => decide (e.size ≤ 20)) = true ∧ (near code).ends.data.toList.all (fun b => decide (b.toNat < 128)) = true := by
  rcases near_mem code with e | e
  · rw [e]; decide +kernel
  · have := first_bd _ e
    exact ⟨this.1, this.2.1, this.2.2.1, this.2.2.2.1, this.2.2.2.2.1, this.2.2.2.2.2.2.2.2.2.1, this.2.2.2.2.2.2.2.2.2.2⟩
theorem byCode_out (code : Int) (h : code < 0 ∨ 255 < code) : byCode code = none := by
  refine List.find?_eq_none.2 fun r hr => ?_
  have := allRows_bd r hr
  simp only [beq_iff_eq]
  omega
theorem near_all : ∀ n : Fin 256, rowIn (near ((n.1 : Nat) : Int)) ((n.1 : Nat) : Int) = byCode ((n.1 : Nat) : Int) := by decide +kernel
theorem near_row (code : Int) : rowIn (near code) code = byCode code := by
  by_cases h : code < 0
  · rw [near_low code h, byCode_out code (.inl h)]
    exact if_neg (by show ¬ 0 ≤ code - 0; omega)
  · by_cases h2 : code < 256
    · obtain ⟨n, rfl⟩ : ∃ n : Nat, code = n := ⟨code.toNat, by omega⟩
      exact near_all ⟨n, by omega⟩
    · rw [near_high code (by omega), byCode_out code (.inr (by omega))]
      have e : (near 172).first = 172 ∧ (near 172).parts.length = 2 := by decide +kernel
      unfold rowIn
      rw [if_pos (by omega), List.getElem?_eq_none (by omega)]
      rfl
end Go.Proofs.YtomffpibdinkaaaGreatDoor
namespace Go.Proofs.YtomffpibdinkaaaGreatDoor
set_option maxRecDepth 100000
set_option maxHeartbeats 16000000
open Go.Maps
def infoD {H : Type} (n : ByteArray) (s : Int) (p r : ByteArray) : DataW H := .agg [.lit (.string n.data.toList), .lit (.int .i64 s), .lit (.string p.data.toList), .lit (.string r.data.toList)]
def infoRead {H : Type} : Value → Option (DataW H × List MemPlace)
  | .agg ⟨[.string n, .int .i64 s, .string p, .string r]⟩ => some (infoD n s p r, [])
  | _ => none
theorem infoRead_mk {H : Type} (n : ByteArray) (s : Int) (p r : ByteArray) : infoRead (H := H) (.agg #[.string n, .int .i64 s, .string p, .string r]) = some (infoD n s p r, []) := rfl
theorem bytes_inj {a b : ByteArray} (h : a.data.toList = b.data.toList) : a = b := by
  obtain ⟨⟨a⟩⟩ := a
  obtain ⟨⟨b⟩⟩ := b
  simp only at h
  rw [h]
theorem infoRead_inv {H : Type} {v : Value} {n : ByteArray} {s : Int} {p r : ByteArray} {ps : List MemPlace} (h : infoRead (H := H) v = some (infoD n s p r, ps)) : v = .agg #[.string n, .int .i64 s, .string p, .string r] := by
  unfold infoRead at h
  split at h
  · simp only [infoD, Option.some.injEq, Prod.mk.injEq, DataW.agg.injEq, List.cons.injEq, DataW.lit.injEq, Lit.string.injEq, Lit.int.injEq, true_and, and_true] at h
    obtain ⟨⟨h1, h2, h3, h4⟩, _⟩ := h
    rw [bytes_inj h1, h2, bytes_inj h3, bytes_inj h4]
  · cases h
def mapD (l : Ls) : Nat → DataW Unit
  | 0 => .map []
  | k + 1 => (mapD l k).put (.int .i64 (l.first + k)) (infoD (l.name ++ l.parts.getD k ByteArray.empty) l.shape l.params l.results)
theorem key_ne {a b : Int} (h : a ≠ b) : Lit.int .i64 a ≠ Lit.int .i64 b := fun e => h (by injection e)
theorem mapD_map (l : Ls) : ∀ k, IsMap (mapD l k)
  | 0 => isMap_empty
  | k + 1 => (mapD_map l k).put _ _
theorem mapD_in (l : Ls) (code : Int) (zd : DataW Unit) : ∀ (k j : Nat), j < k → code = l.first + j → Maps.has (mapD l k) (.int .i64 code) = true ∧ (mapD l k).atKey (.int .i64 code) zd = infoD (l.name ++ l.parts.getD j ByteArray.empty) l.shape l.params l.results
  | 0, j, h, _ => by omega
  | k + 1, j, h, e => by
    unfold mapD
    by_cases hj : j = k
    · subst hj e
      have hk : WideAt.IsKeyLit (.int .i64 (l.first + j)) := trivial
      exact ⟨has_put_same (mapD_map l j) hk _, atKey_put_same (mapD_map l j) hk _ _⟩
    · rw [has_put_other (key_ne (by omega)), atKey_put_other (key_ne (by omega))]
      exact mapD_in l code zd k j (by omega) e
theorem mapD_out (l : Ls) (code : Int) (zd : DataW Unit) : ∀ (k : Nat), (code < l.first ∨ l.first + k ≤ code) → Maps.has (mapD l k) (.int .i64 code) = false ∧ (mapD l k).atKey (.int .i64 code) zd = zd
  | 0, _ => ⟨rfl, rfl⟩
  | k + 1, h => by
    unfold mapD
    rw [has_put_other (key_ne (by omega)), atKey_put_other (key_ne (by omega))]
    exact mapD_out l code zd k (by omega)
theorem mapD_row (l : Ls) (code : Int) : Maps.has (mapD l l.parts.length) (.int .i64 code) = (rowIn l code).isSome ∧
    (mapD l l.parts.length).atKey (.int .i64 code) (infoD ⟨#[]⟩ 0 ⟨#[]⟩ ⟨#[]⟩) = match rowIn l code with | some r => infoD r.name r.shape r.params r.results | none => infoD ⟨#[]⟩ 0 ⟨#[]⟩ ⟨#[]⟩ := by
  by_cases h : 0 ≤ code - l.first ∧ (code - l.first).toNat < l.parts.length
  · have e : rowIn l code = some ⟨code, l.name ++ l.parts.getD (code - l.first).toNat ByteArray.empty, l.shape, l.params, l.results⟩ := by
      unfold rowIn
      rw [if_pos h.1, List.getElem?_eq_getElem h.2]
      simp [List.getD_eq_getElem?_getD, List.getElem?_eq_getElem h.2]
    rw [e]
    have m := mapD_in l code (infoD ⟨#[]⟩ 0 ⟨#[]⟩ ⟨#[]⟩) l.parts.length (code - l.first).toNat h.2 (by omega)
    exact ⟨m.1, m.2⟩
  · have e : rowIn l code = none := by
      unfold rowIn
      by_cases h0 : 0 ≤ code - l.first
      · rw [if_pos h0, List.getElem?_eq_none (by have : ¬ _ := fun x => h ⟨h0, x⟩; omega)]
        rfl
      · rw [if_neg h0]
    rw [e]
    have m := mapD_out l code (infoD ⟨#[]⟩ 0 ⟨#[]⟩ ⟨#[]⟩) l.parts.length (by
      by_cases h0 : 0 ≤ code - l.first
      · have : ¬ _ := fun x => h ⟨h0, x⟩
        omega
      · omega)
    exact ⟨m.1, m.2⟩
end Go.Proofs.YtomffpibdinkaaaGreatDoor
