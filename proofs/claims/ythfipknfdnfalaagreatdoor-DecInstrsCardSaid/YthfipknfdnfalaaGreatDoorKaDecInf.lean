/-
  Package dec's infos: what is told of a code, kept in a map: walked. A contract that the proofs call; no statement is proved here.
-/
import Derived.Test.YthfipknfdnfalaaGreatDoorKaDecRdB
import Derived.Test.YthfipknfdnfalaaGreatDoorKaOpFields
import Derived.Test.YthfipknfdnfalaaGreatDoorKaModLib
import Derived.Test.YthfipknfdnfalaaGreatDoorKaEncSpec
namespace Go.Proofs.YthfipknfdnfalaaGreatDoor
open Go.RowKit Go.Maps
set_option linter.unusedVariables false
theorem Infos.put {M : Nat} {w w' : World} {D : DataW Unit} (h : Infos M w D) {c : Int} {r : Rw} (hc : byCode c = some r) (hno : Maps.has D (.int .i64 c) = false)
    (hown : w'.ownsMap Tryz.prog 3 (infoRead (H := Unit)) M (cnt6 (fun c => Maps.has D (.int .i64 (c : Int))) 256 + 1) (D.put (.int .i64 c) (infoD r.name r.shape r.params r.results))) : Infos M w' (D.put (.int .i64 c) (infoD r.name r.shape r.params r.results)) := by
  have h6 := byCode_6 hc
  obtain ⟨k, rfl⟩ := Int.eq_ofNat_of_zero_le h6.2.2.2.1
  have hk : WideAt.IsKeyLit (.int .i64 (k : Int)) := trivial
  refine ⟨?_, h.map.put _ _, fun c' hc' => ?_⟩
  · have e := cnt6_more (p := fun c => Maps.has D (.int .i64 (c : Int))) (q := fun c => Maps.has (D.put (.int .i64 (k : Int)) (infoD r.name r.shape r.params r.results)) (.int .i64 (c : Int))) (c := k) hno (has_put_same h.map hk _) (fun j hj => has_put_other (key_ne (by omega)) _) 256
    rw [if_pos (by omega)] at e
    rw [e]
    exact hown
  · by_cases he : c' = (k : Int)
    · subst he
      exact ⟨r, hc, atKey_put_same h.map hk _ _⟩
    · rw [has_put_other (key_ne he)] at hc'
      rw [atKey_put_other (key_ne he)]
      exact h.known c' hc'
theorem RdAt.map {w0 : World} {B M : Nat} {T : TypeId} {rest : List Value} {r : RV} {w w' : World} {D : DataW Unit} (h : RdAt w0 B M T rest r w) (hg : w.grownBy w' (some M)) (hD : Infos M w' D) : RdAt w0 B M T rest r w' :=
  ⟨h.below.trans ⟨hg.os, hg.tape, hg.output, hg.size, fun k hk => hg.block k (Nat.lt_of_lt_of_le hk h.below.size) (fun e => by injection e with e; have := h.hM; omega)⟩, (hg.block B (in_heap6 h.box) (fun e => h.ne (by injection e with e; exact e.symm))).trans h.box, ⟨D, hD⟩, h.ne, h.hB, h.hM, h.size, h.pos⟩
theorem Mov.map {B M : Nat} {w w1 w2 : World} (h : Mov B M w w1) (g : w1.grownBy w2 (some M)) : Mov B M w w2 :=
  ⟨g.os.trans h.os, g.tape.trans h.tape, g.output.trans h.output, Nat.le_trans h.size g.size, fun k hk h1 h2 => (g.block k (Nat.lt_of_lt_of_le hk h.size) (fun e => by injection e with e; exact h2 e)).trans (h.block k hk h1 h2)⟩
theorem Mov.trans' {B M : Nat} {a b c : World} (h : Mov B M a b) (hk : ∀ k, k < a.heap.size → c.heap[k]? = b.heap[k]?) (e1 : c.os = b.os) (e2 : c.tape = b.tape) (e3 : c.output = b.output) (e4 : b.heap.size ≤ c.heap.size) : Mov B M a c :=
  ⟨e1.trans h.os, e2.trans h.tape, e3.trans h.output, Nat.le_trans h.size e4, fun k h0 h1 h2 => (hk k h0).trans (h.block k h0 h1 h2)⟩
theorem RdAt.other {w0 : World} {B M : Nat} {T : TypeId} {rest : List Value} {r : RV} {w : World} (h : RdAt w0 B M T rest r w) {b : Nat} (j : Nat) (v : Value) (h1 : b ≠ B) (h2 : b ≠ M) (h3 : w0.heap.size ≤ b) : RdAt w0 B M T rest r (w.setCell ⟨b, j, none⟩ v) := by
  obtain ⟨D, hD⟩ := h.infos
  exact ⟨h.below.setCell h3 v, (Below.heap_setCell _ _ _ _ (fun e => h1 e.symm)).trans h.box, ⟨D, hD.same (Below.heap_setCell _ _ _ _ (fun e => h2 e.symm))⟩, h.ne, h.hB, h.hM, h.size, h.pos⟩
theorem Mov.setNew {B M : Nat} {w w' : World} (h : Mov B M w w') {b : Nat} (j : Nat) (v : Value) (hb : w.heap.size ≤ b) : Mov B M w (w'.setCell ⟨b, j, none⟩ v) :=
  h.trans' (fun k hk => Below.heap_setCell _ _ _ _ (by show k ≠ b; omega)) rfl rfl rfl (by simp [World.setCell])
theorem box6_4 {W : World} {b : Nat} {u0 u1 u2 u3 : Value} {t : TypeId} (h : W.heap[b]? = some (.cells #[u0, u1, u2, u3] t)) : W.heap[b]? = some (.cells #[u0, u1, u2, u3] t) ∧ W.cell? ⟨b, 0, none⟩ = some u0 ∧ W.cell? ⟨b, 1, none⟩ = some u1 ∧ W.cell? ⟨b, 2, none⟩ = some u2 ∧ W.cell? ⟨b, 3, none⟩ = some u3 := ⟨h, by simp [World.cell?, h], by simp [World.cell?, h], by simp [World.cell?, h], by simp [World.cell?, h]⟩
theorem info_parts6 (o : Option Rw) : ∃ n s p r, infoVal o = .agg #[.string n, .int .i64 s, .string p, .string r] := by
  cases o
  · exact ⟨_, _, _, _, rfl⟩
  · exact ⟨_, _, _, _, rfl⟩
set_option maxRecDepth 100000 in
set_option maxHeartbeats 8000000 in
theorem infos_of {w0 : World} (hL : Spaces w0) {B M : Nat} {T : TypeId} {rest : List Value} {r : RV} {w : World} (h : RdAt w0 B M T rest r w) (c : Int) (hc : 0 ≤ c ∧ c < 256) :
    Calls Tryz.prog 147 #[.map (some M), .int .i64 c] w fun e w' => e = .returned (.tuple #[infoVal (byCode c), .bool (byCode c).isSome]) ∧ RdAt w0 B M T rest r w' ∧ Mov B M w w' := by
  obtain ⟨D, hD⟩ := h.infos
  have law : Keyed Tryz.prog 3 := int_keyed Tryz.underlying3
  have hz : infoRead (H := Unit) (.agg #[.string ⟨#[]⟩, .int .i64 0, .string ⟨#[]⟩, .string ⟨#[]⟩]) = some (infoD ⟨#[]⟩ 0 ⟨#[]⟩ ⟨#[]⟩, []) := rfl
  have hkey := keyOf_int_mk Tryz.underlying3 (WalkArith.wf_i64 (⟨by omega, by omega⟩ : -9223372036854775808 ≤ c ∧ c ≤ 9223372036854775807))
  have h1 := h.alloc (.cells #[.string ⟨#[]⟩, .int .i64 0, .string ⟨#[]⟩, .string ⟨#[]⟩] 200)
  have ho := hD.own.alloc (.cells #[.string ⟨#[]⟩, .int .i64 0, .string ⟨#[]⟩, .string ⟨#[]⟩] 200)
  obtain ⟨v, vp, hlk, hv⟩ := ho.look_ok law Tryz.underlying109 (info_zero _) hz hkey
  by_cases hh : Maps.has D (.int .i64 c) = true
  · obtain ⟨R, hR, hat⟩ := hD.known c hh
    rw [hh] at hlk
    rw [show infoD ⟨#[]⟩ 0 ⟨#[]⟩ ⟨#[]⟩ = zinfo from rfl, hat] at hv
    have e := infoRead_inv hv
    subst e
    rw [hR]
    obtain ⟨vn, vs, vq, vr, hI⟩ := info_parts6 (some R)
    rw [show (Value.agg #[.string R.name, .int .i64 R.shape, .string R.params, .string R.results]) = infoVal (some R) from rfl, hI] at hlk
    rw [hI]
    clear hI hv hat hD ho h1
    go_enter Tryz.func147, Tryz.ntmps147
    go_wp2
    refine bodyPost_ret (v := .tuple #[.agg #[.string vn, .int .i64 vs, .string vq, .string vr], .bool true]) ?_ rfl ?_
    · rw [results_cell_tmp rfl]; go_simp
    · exact ⟨rfl, (h.alloc _).alloc _, ((Mov.refl _ _ _).alloc _).alloc _⟩
  · have hh : Maps.has D (.int .i64 c) = false := by simpa using hh
    rw [hh] at hlk
    have hat : D.atKey (.int .i64 c) (infoD ⟨#[]⟩ 0 ⟨#[]⟩ ⟨#[]⟩) = infoD ⟨#[]⟩ 0 ⟨#[]⟩ ⟨#[]⟩ := atKey_of_not_has hh _
    rw [hat] at hv
    have e := infoRead_inv hv
    subst e
    have hBa := (Below.refl w.heap.size w).alloc (Nat.le_refl _) (.cells #[.string ⟨#[]⟩, .int .i64 0, .string ⟨#[]⟩, .string ⟨#[]⟩] 200)
    have hBb := hBa.alloc (by simp) (.cells #[.string ⟨#[]⟩, .int .i64 0, .string ⟨#[]⟩, .string ⟨#[]⟩] 200)
    have co := op_of c (by omega) (by omega) _ (hL.below (h.below.trans (hBb.mono h.below.size)))
    clear hv hat h1
    obtain ⟨vn, vs, vq, vr, hI⟩ := info_parts6 (byCode c)
    obtain ⟨ok, hok⟩ : ∃ ok, (byCode c).isSome = ok := ⟨_, rfl⟩
    rw [hI, hok] at co ⊢
    have HI := Lib.hid hI
    have HO := Lib.hid hok
    have hwi : w.heap.size < ((w.alloc (.cells #[.string ⟨#[]⟩, .int .i64 0, .string ⟨#[]⟩, .string ⟨#[]⟩] 200)).alloc (.cells #[.string ⟨#[]⟩, .int .i64 0, .string ⟨#[]⟩, .string ⟨#[]⟩] 200)).heap.size := by simp; omega
    have hbox : ((w.alloc (.cells #[.string ⟨#[]⟩, .int .i64 0, .string ⟨#[]⟩, .string ⟨#[]⟩] 200)).alloc (.cells #[.string ⟨#[]⟩, .int .i64 0, .string ⟨#[]⟩, .string ⟨#[]⟩] 200)).heap[w.heap.size]? = some (.cells #[.string ⟨#[]⟩, .int .i64 0, .string ⟨#[]⟩, .string ⟨#[]⟩] 200) := by rw [Below.heap_alloc _ _ _ (by simp)]; exact heap_alloc_new _ _
    have HB := Lib.hid hBb
    clear hI hok ho hBa hBb
    cases ok with
    | false =>
      go_enter Tryz.func147, Tryz.ntmps147
      go_wp2_with (go_at_call 183; (with_reducible refine co.mono ?_); rintro e w3 ⟨rfl, hb3⟩; have hbx := (hb3.block _ hwi).trans hbox; obtain ⟨_, k0, k1, k2, k3⟩ := box6_4 hbx; have hlt3 : w.heap.size < w3.heap.size := Nat.lt_of_lt_of_le hwi hb3.size; have z := fun j => (by simp [World.frozen?, hbx] : w3.frozen? ⟨w.heap.size, j, none⟩ = false); have z0 := z 0; have z1 := z 1; have z2 := z 2; have z3 := z 3; clear z; have q0 := fun o => (World.cell?_alloc_lt w3 o (⟨w.heap.size, 0, none⟩ : Addr) hlt3).trans k0; have q1 := fun o => (World.cell?_alloc_lt w3 o (⟨w.heap.size, 1, none⟩ : Addr) hlt3).trans k1; have q2 := fun o => (World.cell?_alloc_lt w3 o (⟨w.heap.size, 2, none⟩ : Addr) hlt3).trans k2; have q3 := fun o => (World.cell?_alloc_lt w3 o (⟨w.heap.size, 3, none⟩ : Addr) hlt3).trans k3)
      refine bodyPost_ret (v := .tuple #[.agg #[.string vn, .int .i64 vs, .string vq, .string vr], .bool false]) ?_ rfl ?_
      · rw [results_cell_tmp rfl]; go_simp
      · have hW : ∀ W', Below w.heap.size w W' → RdAt w0 B M T rest r W' ∧ Mov B M w W' := fun W' hW => ⟨h.at' hW, Mov.of_below hW⟩
        have hB3 := HB.out.trans (hb3.mono HB.out.size)
        refine ⟨rfl, hW _ ?_⟩
        exact ((((hB3.setCell (Nat.le_refl _) _).setCell (Nat.le_refl _) _).setCell (Nat.le_refl _) _).setCell (Nat.le_refl _) _).alloc (by simp [World.setCell]; omega) _
    | true =>
      obtain ⟨R, hR⟩ : ∃ R, byCode c = some R := by
        cases hq : byCode c with
        | none => have := HO.out; rw [hq] at this; cases this
        | some R => exact ⟨R, rfl⟩
      have hI2 := HI.out
      rw [hR] at hI2
      have hinf : infoRead (H := Unit) (.agg #[.string vn, .int .i64 vs, .string vq, .string vr]) = some (infoD R.name R.shape R.params R.results, []) := by rw [← hI2]; rfl
      have HR := Lib.hid hR
      clear hI2 hR
      go_enter Tryz.func147, Tryz.ntmps147
      go_wp2_with (go_at_call 183; (with_reducible refine co.mono ?_); rintro e w3 ⟨rfl, hb3⟩; have hB3 := HB.out.trans (hb3.mono HB.out.size); have hMs := (ownsMap_in hD.own); have ho3 := (ownsMap_same hD.own (hB3.block M hMs)).alloc (.cells #[.string vn, .int .i64 vs, .string vq, .string vr] 200); obtain ⟨w4, hu, hown4, hg4⟩ := ho3.update law Tryz.underlying109 (by have := cnt6_le (fun c => Maps.has D (.int .i64 (c : Int))) 256; unfold maxLen; omega) hkey hinf; have hbx := (hb3.block _ hwi).trans hbox; have hlt3 : w.heap.size < w3.heap.size := Nat.lt_of_lt_of_le hwi hb3.size; have hne0 : w.heap.size ≠ M := (by omega); have hne3 : w3.heap.size ≠ M := (by omega); have hbx4 := (hg4.block w.heap.size (by simp; omega) (fun e => hne0 (by injection e))).trans ((Below.heap_alloc _ _ _ hlt3).trans hbx); have hin4 := (hg4.block w3.heap.size (by simp) (fun e => hne3 (by injection e))).trans (heap_alloc_new w3 _); obtain ⟨_, k0, k1, k2, k3⟩ := box6_4 hbx4; obtain ⟨_, i0, i1, i2, i3⟩ := box6_4 hin4; have z := fun j => (by simp [World.frozen?, hbx4] : w4.frozen? ⟨w.heap.size, j, none⟩ = false); have z0 := z 0; have z1 := z 1; have z2 := z 2; have z3 := z 3; clear z hbx hbx4 hin4 ho3)
      refine bodyPost_ret (v := .tuple #[.agg #[.string vn, .int .i64 vs, .string vq, .string vr], .bool true]) ?_ rfl ?_
      · rw [results_cell_tmp rfl]; go_simp
      · have hlt := h.lt
        have hw0 := h.below.size
        have h4 : RdAt w0 B M T rest r w4 := (h.at' (hB3.alloc (Nat.le_of_lt hlt3) _)).map hg4 (hD.put HR.out hh hown4)
        have m4 : Mov B M w w4 := (Mov.of_below (hB3.alloc (Nat.le_of_lt hlt3) _)).map hg4
        have n1 : w.heap.size ≠ B := by omega
        have n2 : w.heap.size ≠ M := by omega
        exact ⟨rfl, (((h4.other 0 _ n1 n2 hw0).other 1 _ n1 n2 hw0).other 2 _ n1 n2 hw0).other 3 _ n1 n2 hw0, (((m4.setNew 0 _ (Nat.le_refl _)).setNew 1 _ (Nat.le_refl _)).setNew 2 _ (Nat.le_refl _)).setNew 3 _ (Nat.le_refl _)⟩
end Go.Proofs.YthfipknfdnfalaaGreatDoor
