/-
  Package dec's infos: what is told of a code, kept in a map: walked. A contract that the proofs call; no statement is proved here.
-/
import Derived.Test.YthfipknfdnfalaaGreatDoorKbDecRdB
import Derived.Test.YthfipknfdnfalaaGreatDoorKbModLib
import Derived.Test.YthfipknfdnfalaaGreatDoorKbEncNum
namespace Go.Proofs.YthfipknfdnfalaaGreatDoor
set_option maxRecDepth 100000
set_option maxHeartbeats 16000000
open Go.RowKit Go.Maps
set_option linter.unusedVariables false
theorem Infos.put {M : Nat} {w w' : World} {D : DataW Unit} (h : Infos M w D) {c : Int} {r : Rw} (hc : byCode c = some r) (hno : Maps.has D (.int .i64 c) = false)
    (hown : w'.ownsMap Tryz.prog 3 (infoRead (H := Unit)) M (cnt6 (fun c => Maps.has D (.int .i64 (c : Int))) 256 + 1) (D.put (.int .i64 c) (infoD r.name r.shape r.params r.results))) : Infos M w' (D.put (.int .i64 c) (infoD r.name r.shape r.params r.results)) := by
  have h6 := byCode_6 hc
  obtain ⟨k, rfl⟩ := Int.eq_ofNat_of_zero_le h6.2.2.2.1
  have hk : WideAt.IsKeyLit (.int .i64 (k : Int)) := trivial
  refine ⟨?_, h.map.put _ _, fun c' hc' => ?_⟩
  · have e := cnt6_more (p := fun c => Maps.has D (.int .i64 (c : Int))) (q := fun c => Maps.has (D.put (.int .i64 (k : Int)) (infoD r.name r.shape r.params r.results)) (.int .i64 (c : Int))) (c := k) hno (has_put_same h.map hk _) (fun j hj => has_put_other (key_ne (by omega)) _) 256
    rw [if_pos (by omega)] at e
    rw [e]
    exact hown
  · by_cases he : c' = (k : Int)
    · subst he
      exact ⟨r, hc, atKey_put_same h.map hk _ _⟩
    · rw [has_put_other (key_ne he)] at hc'
      rw [atKey_put_other (key_ne he)]
      exact h.known c' hc'
theorem RdAt.map {w0 : World} {B M : Nat} {T : TypeId} {rest : List Value} {r : RV} {w w' : World} {D : DataW Unit} (h : RdAt w0 B M T rest r w) (hg : w.grownBy w' (some M)) (hD : Infos M w' D) : RdAt w0 B M T rest r w' :=
  ⟨h.below.trans ⟨hg.os, hg.tape, hg.output, hg.size, fun k hk => hg.block k (Nat.lt_of_lt_of_le hk h.below.size) (fun e => by injection e with e; have := h.hM; omega)⟩, (hg.block B (in_heap6 h.box) (fun e => h.ne (by injection e with e; exact e.symm))).trans h.box, ⟨D, hD⟩, h.ne, h.hB, h.hM, h.size, h.pos⟩
theorem Mov.map {B M : Nat} {w w1 w2 : World} (h : Mov B M w w1) (g : w1.grownBy w2 (some M)) : Mov B M w w2 :=
  ⟨g.os.trans h.os, g.tape.trans h.tape, g.output.trans h.output, Nat.le_trans h.size g.size, fun k hk h1 h2 => (g.block k (Nat.lt_of_lt_of_le hk h.size) (fun e => by injection e with e; exact h2 e)).trans (h.block k hk h1 h2)⟩
theorem Mov.trans' {B M : Nat} {a b c : World} (h : Mov B M a b) (hk : ∀ k, k < a.heap.size → c.heap[k]? = b.heap[k]?) (e1 : c.os = b.os) (e2 : c.tape = b.tape) (e3 : c.output = b.output) (e4 : b.heap.size ≤ c.heap.size) : Mov B M a c :=
  ⟨e1.trans h.os, e2.trans h.tape, e3.trans h.output, Nat.le_trans h.size e4, fun k h0 h1 h2 => (hk k h0).trans (h.block k h0 h1 h2)⟩
theorem RdAt.other {w0 : World} {B M : Nat} {T : TypeId} {rest : List Value} {r : RV} {w : World} (h : RdAt w0 B M T rest r w) {b : Nat} (j : Nat) (v : Value) (h1 : b ≠ B) (h2 : b ≠ M) (h3 : w0.heap.size ≤ b) : RdAt w0 B M T rest r (w.setCell ⟨b, j, none⟩ v) := by
  obtain ⟨D, hD⟩ := h.infos
  exact ⟨h.below.setCell h3 v, (Below.heap_setCell _ _ _ _ (fun e => h1 e.symm)).trans h.box, ⟨D, hD.same (Below.heap_setCell _ _ _ _ (fun e => h2 e.symm))⟩, h.ne, h.hB, h.hM, h.size, h.pos⟩
theorem Mov.setNew {B M : Nat} {w w' : World} (h : Mov B M w w') {b : Nat} (j : Nat) (v : Value) (hb : w.heap.size ≤ b) : Mov B M w (w'.setCell ⟨b, j, none⟩ v) :=
  h.trans' (fun k hk => Below.heap_setCell _ _ _ _ (by show k ≠ b; omega)) rfl rfl rfl (by simp [World.setCell])
theorem box6_4 {W : World} {b : Nat} {u0 u1 u2 u3 : Value} {t : TypeId} (h : W.heap[b]? = some (.cells #[u0, u1, u2, u3] t)) : W.heap[b]? = some (.cells #[u0, u1, u2, u3] t) ∧ W.cell? ⟨b, 0, none⟩ = some u0 ∧ W.cell? ⟨b, 1, none⟩ = some u1 ∧ W.cell? ⟨b, 2, none⟩ = some u2 ∧ W.cell? ⟨b, 3, none⟩ = some u3 := ⟨h, by simp [World.cell?, h], by simp [World.cell?, h], by simp [World.cell?, h], by simp [World.cell?, h]⟩
theorem info_parts6 (o : Option Rw) : ∃ n s p r, infoVal o = .agg #[.string n, .int .i64 s, .string p, .string r] := by
  cases o
  · exact ⟨_, _, _, _, rfl⟩
  · exact ⟨_, _, _, _, rfl⟩
theorem infos_of {w0 : World} (hL : Spaces w0) {B M : Nat} {T : TypeId} {rest : List Value} {r : RV} {w : World} (h : RdAt w0 B M T rest r w) (c : Int) (hc : 0 ≤ c ∧ c < 256) :
    Calls Tryz.prog 147 #[.map (some M), .int .i64 c] w fun e w' => e = .returned (.tuple #[infoVal (byCode c), .bool (byCode c).isSome]) ∧ RdAt w0 B M T rest r w' ∧ Mov B M w w' := by
  obtain ⟨D, hD⟩ := h.infos
  have law : Keyed Tryz.prog 3 := int_keyed Tryz.underlying3
  have hz : infoRead (H := Unit) (.agg #[.string ⟨#[]⟩, .int .i64 0, .string ⟨#[]⟩, .string ⟨#[]⟩]) = some (infoD ⟨#[]⟩ 0 ⟨#[]⟩ ⟨#[]⟩, []) := rfl
  have hkey := keyOf_int_mk Tryz.underlying3 (WalkArith.wf_i64 (⟨by omega, by omega⟩ : -9223372036854775808 ≤ c ∧ c ≤ 9223372036854775807))
  have h1 := h.alloc (.cells #[.string ⟨#[]⟩, .int .i64 0, .string ⟨#[]⟩, .string ⟨#[]⟩] 200)
  have ho := hD.own.alloc (.cells #[.string ⟨#[]⟩, .int .i64 0, .string ⟨#[]⟩, .string ⟨#[]⟩] 200)
  obtain ⟨v, vp, hlk, hv⟩ := ho.look_ok law Tryz.underlying109 (info_zero _) hz hkey
  by_cases hh : Maps.has D (.int .i64 c) = true
  · obtain ⟨R, hR, hat⟩ := hD.known c hh
    rw [hh] at hlk
    rw [show infoD ⟨#[]⟩ 0 ⟨#[]⟩ ⟨#[]⟩ = zinfo from rfl, hat] at hv
    have e := infoRead_inv hv
    subst e
    rw [hR]
    obtain ⟨vn, vs, vq, vr, hI⟩ := info_parts6 (some R)
    rw [show (Value.agg #[.string R.name, .int .i64 R.shape, .string R.params, .string R.results]) = infoVal (some R) from rfl, hI] at hlk
    rw [hI]
    clear hI hv hat hD ho h1
    go_enter Tryz.func147, Tryz.ntmps147
    go_wp2
    refine bodyPost_ret (v := .tuple #[.agg #[.string vn, .int .i64 vs, .string vq, .string vr], .bool true]) ?_ rfl ?_
    · rw [results_cell_tmp rfl]; go_simp
    · exact ⟨rfl, (h.alloc _).alloc _, ((Mov.refl _ _ _).alloc _).alloc _⟩
  · have hh : Maps.has D (.int .i64 c) = false := by simpa using hh
    rw [hh] at hlk
    have hat : D.atKey (.int .i64 c) (infoD ⟨#[]⟩ 0 ⟨#[]⟩ ⟨#[]⟩) = infoD ⟨#[]⟩ 0 ⟨#[]⟩ ⟨#[]⟩ := atKey_of_not_has hh _
    rw [hat] at hv
    have e := infoRead_inv hv
    subst e
    have hBa := (Below.refl w.heap.size w).alloc (Nat.le_refl _) (.cells #[.string ⟨#[]⟩, .int .i64 0, .string ⟨#[]⟩, .string ⟨#[]⟩] 200)
    have hBb := hBa.alloc (by simp) (.cells #[.string ⟨#[]⟩, .int .i64 0, .string ⟨#[]⟩, .string ⟨#[]⟩] 200)
    have co := op_of c (by omega) (by omega) _ (hL.below (h.below.trans (hBb.mono h.below.size)))
    clear hv hat h1
    obtain ⟨vn, vs, vq, vr, hI⟩ := info_parts6 (byCode c)
    obtain ⟨ok, hok⟩ : ∃ ok, (byCode c).isSome = ok := ⟨_, rfl⟩
    rw [hI, hok] at co ⊢
    have HI := Lib.hid hI
    have HO := Lib.hid hok
    have hwi : w.heap.size < ((w.alloc (.cells #[.string ⟨#[]⟩, .int .i64 0, .string ⟨#[]⟩, .string ⟨#[]⟩] 200)).alloc (.cells #[.string ⟨#[]⟩, .int .i64 0, .string ⟨#[]⟩, .string ⟨#[]⟩] 200)).heap.size := by simp; omega
    have hbox : ((w.alloc (.cells #[.string ⟨#[]⟩, .int .i64 0, .string ⟨#[]⟩, .string ⟨#[]⟩] 200)).alloc (.cells #[.string ⟨#[]⟩, .int .i64 0, .string ⟨#[]⟩, .string ⟨#[]⟩] 200)).heap[w.heap.size]? = some (.cells #[.string ⟨#[]⟩, .int .i64 0, .string ⟨#[]⟩, .string ⟨#[]⟩] 200) := by rw [Below.heap_alloc _ _ _ (by simp)]; exact heap_alloc_new _ _
    have HB := Lib.hid hBb
    clear hI hok ho hBa hBb
    cases ok with
    | false =>
      go_enter Tryz.func147, Tryz.ntmps147
      go_wp2_with (go_at_call 183; (with_reducible refine co.mono ?_); rintro e w3 ⟨rfl, hb3⟩; have hbx := (hb3.block _ hwi).trans hbox; obtain ⟨_, k0, k1, k2, k3⟩ := box6_4 hbx; have hlt3 : w.heap.size < w3.heap.size := Nat.lt_of_lt_of_le hwi hb3.size; have z := fun j => (by simp [World.frozen?, hbx] : w3.frozen? ⟨w.heap.size, j, none⟩ = false); have z0 := z 0; have z1 := z 1; have z2 := z 2; have z3 := z 3; clear z; have q0 := fun o => (World.cell?_alloc_lt w3 o (⟨w.heap.size, 0, none⟩ : Addr) hlt3).trans k0; have q1 := fun o => (World.cell?_alloc_lt w3 o (⟨w.heap.size, 1, none⟩ : Addr) hlt3).trans k1; have q2 := fun o => (World.cell?_alloc_lt w3 o (⟨w.heap.size, 2, none⟩ : Addr) hlt3).trans k2; have q3 := fun o => (World.cell?_alloc_lt w3 o (⟨w.heap.size, 3, none⟩ : Addr) hlt3).trans k3)
      refine bodyPost_ret (v := .tuple #[.agg #[.string vn, .int .i64 vs, .string vq, .string vr], .bool false]) ?_ rfl ?_
      · rw [results_cell_tmp rfl]; go_simp
      · have hW : ∀ W', Below w.heap.size w W' → RdAt w0 B M T rest r W' ∧ Mov B M w W' := fun W' hW => ⟨h.at' hW, Mov.of_below hW⟩
        have hB3 := HB.out.trans (hb3.mono HB.out.size)
        refine ⟨rfl, hW _ ?_⟩
        exact ((((hB3.setCell (Nat.le_refl _) _).setCell (Nat.le_refl _) _).setCell (Nat.le_refl _) _).setCell (Nat.le_refl _) _).alloc (by simp [World.setCell]; omega) _
    | true =>
      obtain ⟨R, hR⟩ : ∃ R, byCode c = some R := by
        cases hq : byCode c with
        | none => have := HO.out; rw [hq] at this; cases this
        | some R => exact ⟨R, rfl⟩
      have hI2 := HI.out
      rw [hR] at hI2
      have hinf : infoRead (H := Unit) (.agg #[.string vn, .int .i64 vs, .string vq, .string vr]) = some (infoD R.name R.shape R.params R.results, []) := by rw [← hI2]; rfl
      have HR := Lib.hid hR
      clear hI2 hR
      go_enter Tryz.func147, Tryz.ntmps147
      go_wp2_with (go_at_call 183; (with_reducible refine co.mono ?_); rintro e w3 ⟨rfl, hb3⟩; have hB3 := HB.out.trans (hb3.mono HB.out.size); have hMs := (ownsMap_in hD.own); have ho3 := (ownsMap_same hD.own (hB3.block M hMs)).alloc (.cells #[.string vn, .int .i64 vs, .string vq, .string vr] 200); obtain ⟨w4, hu, hown4, hg4⟩ := ho3.update law Tryz.underlying109 (by have := cnt6_le (fun c => Maps.has D (.int .i64 (c : Int))) 256; unfold maxLen; omega) hkey hinf; have hbx := (hb3.block _ hwi).trans hbox; have hlt3 : w.heap.size < w3.heap.size := Nat.lt_of_lt_of_le hwi hb3.size; have hne0 : w.heap.size ≠ M := (by omega); have hne3 : w3.heap.size ≠ M := (by omega); have hbx4 := (hg4.block w.heap.size (by simp; omega) (fun e => hne0 (by injection e))).trans ((Below.heap_alloc _ _ _ hlt3).trans hbx); have hin4 := (hg4.block w3.heap.size (by simp) (fun e => hne3 (by injection e))).trans (heap_alloc_new w3 _); obtain ⟨_, k0, k1, k2, k3⟩ := box6_4 hbx4; obtain ⟨_, i0, i1, i2, i3⟩ := box6_4 hin4; have z := fun j => (by simp [World.frozen?, hbx4] : w4.frozen? ⟨w.heap.size, j, none⟩ = false); have z0 := z 0; have z1 := z 1; have z2 := z 2; have z3 := z 3; clear z hbx hbx4 hin4 ho3)
      refine bodyPost_ret (v := .tuple #[.agg #[.string vn, .int .i64 vs, .string vq, .string vr], .bool true]) ?_ rfl ?_
      · rw [results_cell_tmp rfl]; go_simp
      · have hlt := h.lt
        have hw0 := h.below.size
        have h4 : RdAt w0 B M T rest r w4 := (h.at' (hB3.alloc (Nat.le_of_lt hlt3) _)).map hg4 (hD.put HR.out hh hown4)
        have m4 : Mov B M w w4 := (Mov.of_below (hB3.alloc (Nat.le_of_lt hlt3) _)).map hg4
        have n1 : w.heap.size ≠ B := by omega
        have n2 : w.heap.size ≠ M := by omega
        exact ⟨rfl, (((h4.other 0 _ n1 n2 hw0).other 1 _ n1 n2 hw0).other 2 _ n1 n2 hw0).other 3 _ n1 n2 hw0, (((m4.setNew 0 _ (Nat.le_refl _)).setNew 1 _ (Nat.le_refl _)).setNew 2 _ (Nat.le_refl _)).setNew 3 _ (Nat.le_refl _)⟩
end Go.Proofs.YthfipknfdnfalaaGreatDoor
namespace Go.Proofs.YthfipknfdnfalaaGreatDoor
set_option maxRecDepth 100000
set_option maxHeartbeats 16000000
open Go.RowKit
set_option linter.unusedVariables false
structure RunV where
  many : Nat
  kind : UInt8
def RunV.row (x : RunV) : List Value := [.int .i64 x.many, .int .u8 x.kind.toNat]
def RunV.val (x : RunV) : Value := .agg #[.int .i64 x.many, .int .u8 x.kind.toNat]
def intRow (n : Int) : List Value := [.int .i64 n]
def intVal (n : Int) : Value := .int .i64 n
def Puts {α : Type} (g : Nat) (val : α → Value) (ok : World → α → Prop) (F : List UInt8 → α → List UInt8) (w0 : World) : Prop :=
  ∀ (x : α) (W : World) (base : Nat) (v : Value) (d : List UInt8), Below w0.heap.size w0 W → w0.heap.size ≤ base → base ≤ W.heap.size → Own W base 5 v d → d.length ≤ 1048576 → ok W x →
    Calls Tryz.prog g #[v, val x] W (Adds5 W base (F d x))
structure Puttable {α : Type} (c : Nat) (row : α → List Value) (ok : World → α → Prop) (F : List UInt8 → α → List UInt8) (K : Nat) (w0 : World) (p : Option Addr) (n : Nat) (l : List α) : Prop where
  len : l.length = n
  most : n ≤ 281474976710656
  rows : RowsAt w0 p c row l
  fine : ∀ x ∈ l, ∀ W, Below w0.heap.size w0 W → ok W x
  adds : ∀ x ∈ l, Adds F K x
  few : K ≤ 1000000000
theorem each_TyV {g : Nat} {F : List UInt8 → TyV → List UInt8} {ok : World → TyV → Prop} {w0 : World} {K : Nat} (h : Puts g TyV.val ok F w0) (eg : ∀ args w, (callFunc g args).run Tryz.prog w = .ok (.enter g args) w) (p : Option Addr) (n cap : Nat) (l : List TyV) (H : Puttable 2 TyV.row ok F K w0 p n l) (base : Nat) (hb0 : w0.heap.size ≤ base) (w : World) (hB0 : Below w0.heap.size w0 w) (hb : base ≤ w.heap.size) (v : Value) (d : List UInt8) (hown : Own w base 5 v d) (hd : d.length ≤ 1002000000) :
    Calls Tryz.prog 293 #[v, .slice p n cap, .func (.func g) #[] #[]] w (Adds5 w base (eachC F d l)) := by
  obtain ⟨R, hR⟩ : ∃ R, R = eachC F d l := ⟨_, rfl⟩
  rw [← hR]
  have HR : Hid (R = eachC F d (l.drop 0)) := Lib.hid hR
  have HN := Lib.hid H.len
  have hm := H.most
  have hKb := H.few
  have hs0 := hB0.size
  clear hR
  obtain ⟨vp, vc, rfl⟩ := hown.any
  go_enter Tryz.func293, Tryz.ntmps293
  go_wp2
  go_loopw [0, 11] (fun u i wr => ∃ (k : Nat) (e : List UInt8), k ≤ n ∧ i = .int .i64 k ∧ Own wr base 5 u e ∧ Near base w wr ∧ e.length ≤ 1002000000 ∧ Hid (R = eachC F e (l.drop k))) (fun _ i _ => n - (intOf i).toNat)
  case atStart => exact ⟨0, d, by omega, rfl, hown, Near.refl _ _, by omega, HR⟩
  case round =>
    clear HR hown hd
    obtain ⟨k, e, hk, rfl, hown', hN, hel, HK⟩ := hrel
    obtain ⟨up, uc, rfl⟩ := hown'.any
    obtain ⟨en, hen⟩ : ∃ en, e.length = en := ⟨_, rfl⟩
    have hbr := Nat.le_trans hb hN.size
    by_cases hlt : k < n
    · have hlt' : k < l.length := by have := HN.out; omega
      have hD := HK.out
      rw [List.drop_eq_getElem_cons hlt', eachC_cons] at hD
      have hBw := hB0.trans ((hN.below hb).mono hb0)
      have hrows := H.rows.below hBw (Nat.le_refl _)
      obtain ⟨b, o, hp, hbb, e0⟩ := hrows k hlt' 0 _ rfl
      subst hp
      have e1 := hrows.cell hlt' 1 rfl
      by_cases hgo : (1048576 : Int) < en
      · rw [if_pos (by omega)] at hD
        have HD := Lib.hid hD
        have HE := Lib.hid hen
        rw [hen]
        rw [hen] at hown'
        clear hD hrows h H hen HK
        generalize l[k] = x at *
        obtain ⟨x0, x1⟩ := x
        simp only [Nat.add_zero] at e0
        go_wp2
        go_ret
        exact ⟨_, rfl, by rw [HD.out]; exact hown'.alloc _, hN.alloc _⟩
      · rw [if_neg (by omega)] at hD
        have hsw := Nat.le_trans hs0 hN.size
        have cq := fun (W : World) (hW : Below wr.heap.size wr W) => h l[k] W base _ e (hBw.trans (hW.mono hsw)) hb0 (Nat.le_trans hbr hW.size) (hown'.below hW) (by omega) (H.fine _ (List.getElem_mem hlt') W (hBw.trans (hW.mono hsw)))
        have hlen := H.adds _ (List.getElem_mem hlt') e (by omega)
        have HD := Lib.hid hD
        have HE := Lib.hid hen
        rw [hen]
        rw [hen] at cq
        clear hD hrows h H hen HK hown'
        generalize l[k] = x at *
        obtain ⟨r, hr⟩ : ∃ r, r = F e x := ⟨_, rfl⟩
        rw [← hr] at cq hlen
        have HF := Lib.hid hr
        clear hr
        obtain ⟨x0, x1⟩ := x
        simp only [Nat.add_zero, TyV.val] at e0 cq
        go_wp2_with fail
        refine (cq _ ?_).mono ?_
        · exact (Below.refl _ wr).alloc (Nat.le_refl _) _
        rintro e' w1 ⟨v1, rfl, h1, n1⟩
        dsimp only
        go_wp2
        go_roundw
        case rel => exact ⟨k + 1, r, by omega, by go_num, h1, (hN.alloc _).trans n1, by omega, Lib.hid (by rw [HD.out, HF.out])⟩
        case measure => simp [intOf]; omega
    · have hk' : l.length ≤ k := by have := HN.out; omega
      have hD := HK.out
      rw [List.drop_eq_nil_of_le hk'] at hD
      have HD : Hid (R = e) := Lib.hid hD
      have HE := Lib.hid hen
      rw [hen]
      rw [hen] at hown'
      clear hD hk' hen HK
      go_wp2
      go_ret
      exact ⟨_, rfl, by rw [HD.out]; exact hown', hN⟩
theorem list_TyV {g : Nat} {F : List UInt8 → TyV → List UInt8} {ok : World → TyV → Prop} {w0 : World} {K : Nat} (h : Puts g TyV.val ok F w0) (eg : ∀ args w, (callFunc g args).run Tryz.prog w = .ok (.enter g args) w) (p : Option Addr) (n cap : Nat) (l : List TyV) (H : Puttable 2 TyV.row ok F K w0 p n l) (base : Nat) (hb0 : w0.heap.size ≤ base) (w : World) (hB0 : Below w0.heap.size w0 w) (hb : base ≤ w.heap.size) (v : Value) (d : List UInt8) (hown : Own w base 5 v d) (hd : d.length ≤ 1001000000) :
    Calls Tryz.prog 231 #[v, .slice p n cap, .func (.func g) #[] #[]] w (Adds5 w base (listC F d l)) := by
  have hm := H.most
  have c1 := fun hx hy => number_of base v d (n : Int) w hown hb hx (by omega) hy
  have c2 := fun (w1 : World) (v1 : Value) (h1 : Own w1 base 5 v1 (numC d n)) (n1 : Near base w w1) hl => each_TyV h eg p n cap l H base hb0 w1 (hB0.trans ((n1.below hb).mono hb0)) (Nat.le_trans hb n1.size) v1 _ h1 hl
  have hq : eachC F (numC d n) l = listC F d l := by unfold listC; rw [H.len]
  have hl := num_len (b := d) (n := (n : Int)) (by omega) (by omega)
  have HQ := Lib.hid hq
  have c1 := c1 (by omega) (by omega)
  clear hq h H hown
  go_enter Tryz.func231, Tryz.ntmps231
  go_wp2_with (first
    | (go_at_call 160; (with_reducible refine c1.mono ?_); rintro e w1 ⟨v1, rfl, h1, n1⟩)
    | (go_at_call 293; (with_reducible refine (c2 _ _ h1 n1 (by omega)).mono ?_); rintro e w2 ⟨v2, rfl, h2, n2⟩))
  go_ret
  exact ⟨_, rfl, by rw [← HQ.out]; exact h2, n1.trans n2⟩
theorem each_FnV {g : Nat} {F : List UInt8 → FnV → List UInt8} {ok : World → FnV → Prop} {w0 : World} {K : Nat} (h : Puts g FnV.val ok F w0) (eg : ∀ args w, (callFunc g args).run Tryz.prog w = .ok (.enter g args) w) (p : Option Addr) (n cap : Nat) (l : List FnV) (H : Puttable 3 FnV.row ok F K w0 p n l) (base : Nat) (hb0 : w0.heap.size ≤ base) (w : World) (hB0 : Below w0.heap.size w0 w) (hb : base ≤ w.heap.size) (v : Value) (d : List UInt8) (hown : Own w base 5 v d) (hd : d.length ≤ 1002000000) :
    Calls Tryz.prog 294 #[v, .slice p n cap, .func (.func g) #[] #[]] w (Adds5 w base (eachC F d l)) := by
  obtain ⟨R, hR⟩ : ∃ R, R = eachC F d l := ⟨_, rfl⟩
  rw [← hR]
  have HR : Hid (R = eachC F d (l.drop 0)) := Lib.hid hR
  have HN := Lib.hid H.len
  have hm := H.most
  have hKb := H.few
  have hs0 := hB0.size
  clear hR
  obtain ⟨vp, vc, rfl⟩ := hown.any
  go_enter Tryz.func294, Tryz.ntmps294
  go_wp2
  go_loopw [0, 11] (fun u i wr => ∃ (k : Nat) (e : List UInt8), k ≤ n ∧ i = .int .i64 k ∧ Own wr base 5 u e ∧ Near base w wr ∧ e.length ≤ 1002000000 ∧ Hid (R = eachC F e (l.drop k))) (fun _ i _ => n - (intOf i).toNat)
  case atStart => exact ⟨0, d, by omega, rfl, hown, Near.refl _ _, by omega, HR⟩
  case round =>
    clear HR hown hd
    obtain ⟨k, e, hk, rfl, hown', hN, hel, HK⟩ := hrel
    obtain ⟨up, uc, rfl⟩ := hown'.any
    obtain ⟨en, hen⟩ : ∃ en, e.length = en := ⟨_, rfl⟩
    have hbr := Nat.le_trans hb hN.size
    by_cases hlt : k < n
    · have hlt' : k < l.length := by have := HN.out; omega
      have hD := HK.out
      rw [List.drop_eq_getElem_cons hlt', eachC_cons] at hD
      have hBw := hB0.trans ((hN.below hb).mono hb0)
      have hrows := H.rows.below hBw (Nat.le_refl _)
      obtain ⟨b, o, hp, hbb, e0⟩ := hrows k hlt' 0 _ rfl
      subst hp
      have e1 := hrows.cell hlt' 1 rfl
      have e2 := hrows.cell hlt' 2 rfl
      by_cases hgo : (1048576 : Int) < en
      · rw [if_pos (by omega)] at hD
        have HD := Lib.hid hD
        have HE := Lib.hid hen
        rw [hen]
        rw [hen] at hown'
        clear hD hrows h H hen HK
        generalize l[k] = x at *
        obtain ⟨x0, x1, x2, x3, x4⟩ := x
        simp only [Nat.add_zero] at e0
        go_wp2
        go_ret
        exact ⟨_, rfl, by rw [HD.out]; exact hown'.alloc _, hN.alloc _⟩
      · rw [if_neg (by omega)] at hD
        have hsw := Nat.le_trans hs0 hN.size
        have cq := fun (W : World) (hW : Below wr.heap.size wr W) => h l[k] W base _ e (hBw.trans (hW.mono hsw)) hb0 (Nat.le_trans hbr hW.size) (hown'.below hW) (by omega) (H.fine _ (List.getElem_mem hlt') W (hBw.trans (hW.mono hsw)))
        have hlen := H.adds _ (List.getElem_mem hlt') e (by omega)
        have HD := Lib.hid hD
        have HE := Lib.hid hen
        rw [hen]
        rw [hen] at cq
        clear hD hrows h H hen HK hown'
        generalize l[k] = x at *
        obtain ⟨r, hr⟩ : ∃ r, r = F e x := ⟨_, rfl⟩
        rw [← hr] at cq hlen
        have HF := Lib.hid hr
        clear hr
        obtain ⟨x0, x1, x2, x3, x4⟩ := x
        simp only [Nat.add_zero, FnV.val] at e0 cq
        go_wp2_with fail
        refine (cq _ ?_).mono ?_
        · exact (Below.refl _ wr).alloc (Nat.le_refl _) _
        rintro e' w1 ⟨v1, rfl, h1, n1⟩
        dsimp only
        go_wp2
        go_roundw
        case rel => exact ⟨k + 1, r, by omega, by go_num, h1, (hN.alloc _).trans n1, by omega, Lib.hid (by rw [HD.out, HF.out])⟩
        case measure => simp [intOf]; omega
    · have hk' : l.length ≤ k := by have := HN.out; omega
      have hD := HK.out
      rw [List.drop_eq_nil_of_le hk'] at hD
      have HD : Hid (R = e) := Lib.hid hD
      have HE := Lib.hid hen
      rw [hen]
      rw [hen] at hown'
      clear hD hk' hen HK
      go_wp2
      go_ret
      exact ⟨_, rfl, by rw [HD.out]; exact hown', hN⟩
theorem list_FnV {g : Nat} {F : List UInt8 → FnV → List UInt8} {ok : World → FnV → Prop} {w0 : World} {K : Nat} (h : Puts g FnV.val ok F w0) (eg : ∀ args w, (callFunc g args).run Tryz.prog w = .ok (.enter g args) w) (p : Option Addr) (n cap : Nat) (l : List FnV) (H : Puttable 3 FnV.row ok F K w0 p n l) (base : Nat) (hb0 : w0.heap.size ≤ base) (w : World) (hB0 : Below w0.heap.size w0 w) (hb : base ≤ w.heap.size) (v : Value) (d : List UInt8) (hown : Own w base 5 v d) (hd : d.length ≤ 1001000000) :
    Calls Tryz.prog 234 #[v, .slice p n cap, .func (.func g) #[] #[]] w (Adds5 w base (listC F d l)) := by
  have hm := H.most
  have c1 := fun hx hy => number_of base v d (n : Int) w hown hb hx (by omega) hy
  have c2 := fun (w1 : World) (v1 : Value) (h1 : Own w1 base 5 v1 (numC d n)) (n1 : Near base w w1) hl => each_FnV h eg p n cap l H base hb0 w1 (hB0.trans ((n1.below hb).mono hb0)) (Nat.le_trans hb n1.size) v1 _ h1 hl
  have hq : eachC F (numC d n) l = listC F d l := by unfold listC; rw [H.len]
  have hl := num_len (b := d) (n := (n : Int)) (by omega) (by omega)
  have HQ := Lib.hid hq
  have c1 := c1 (by omega) (by omega)
  clear hq h H hown
  go_enter Tryz.func234, Tryz.ntmps234
  go_wp2_with (first
    | (go_at_call 160; (with_reducible refine c1.mono ?_); rintro e w1 ⟨v1, rfl, h1, n1⟩)
    | (go_at_call 294; (with_reducible refine (c2 _ _ h1 n1 (by omega)).mono ?_); rintro e w2 ⟨v2, rfl, h2, n2⟩))
  go_ret
  exact ⟨_, rfl, by rw [← HQ.out]; exact h2, n1.trans n2⟩
theorem each_MemV {g : Nat} {F : List UInt8 → MemV → List UInt8} {ok : World → MemV → Prop} {w0 : World} {K : Nat} (h : Puts g MemV.val ok F w0) (eg : ∀ args w, (callFunc g args).run Tryz.prog w = .ok (.enter g args) w) (p : Option Addr) (n cap : Nat) (l : List MemV) (H : Puttable 2 MemV.row ok F K w0 p n l) (base : Nat) (hb0 : w0.heap.size ≤ base) (w : World) (hB0 : Below w0.heap.size w0 w) (hb : base ≤ w.heap.size) (v : Value) (d : List UInt8) (hown : Own w base 5 v d) (hd : d.length ≤ 1002000000) :
    Calls Tryz.prog 295 #[v, .slice p n cap, .func (.func g) #[] #[]] w (Adds5 w base (eachC F d l)) := by
  obtain ⟨R, hR⟩ : ∃ R, R = eachC F d l := ⟨_, rfl⟩
  rw [← hR]
  have HR : Hid (R = eachC F d (l.drop 0)) := Lib.hid hR
  have HN := Lib.hid H.len
  have hm := H.most
  have hKb := H.few
  have hs0 := hB0.size
  clear hR
  obtain ⟨vp, vc, rfl⟩ := hown.any
  go_enter Tryz.func295, Tryz.ntmps295
  go_wp2
  go_loopw [0, 11] (fun u i wr => ∃ (k : Nat) (e : List UInt8), k ≤ n ∧ i = .int .i64 k ∧ Own wr base 5 u e ∧ Near base w wr ∧ e.length ≤ 1002000000 ∧ Hid (R = eachC F e (l.drop k))) (fun _ i _ => n - (intOf i).toNat)
  case atStart => exact ⟨0, d, by omega, rfl, hown, Near.refl _ _, by omega, HR⟩
  case round =>
    clear HR hown hd
    obtain ⟨k, e, hk, rfl, hown', hN, hel, HK⟩ := hrel
    obtain ⟨up, uc, rfl⟩ := hown'.any
    obtain ⟨en, hen⟩ : ∃ en, e.length = en := ⟨_, rfl⟩
    have hbr := Nat.le_trans hb hN.size
    by_cases hlt : k < n
    · have hlt' : k < l.length := by have := HN.out; omega
      have hD := HK.out
      rw [List.drop_eq_getElem_cons hlt', eachC_cons] at hD
      have hBw := hB0.trans ((hN.below hb).mono hb0)
      have hrows := H.rows.below hBw (Nat.le_refl _)
      obtain ⟨b, o, hp, hbb, e0⟩ := hrows k hlt' 0 _ rfl
      subst hp
      have e1 := hrows.cell hlt' 1 rfl
      by_cases hgo : (1048576 : Int) < en
      · rw [if_pos (by omega)] at hD
        have HD := Lib.hid hD
        have HE := Lib.hid hen
        rw [hen]
        rw [hen] at hown'
        clear hD hrows h H hen HK
        generalize l[k] = x at *
        obtain ⟨x0, x1⟩ := x
        simp only [Nat.add_zero] at e0
        go_wp2
        go_ret
        exact ⟨_, rfl, by rw [HD.out]; exact hown'.alloc _, hN.alloc _⟩
      · rw [if_neg (by omega)] at hD
        have hsw := Nat.le_trans hs0 hN.size
        have cq := fun (W : World) (hW : Below wr.heap.size wr W) => h l[k] W base _ e (hBw.trans (hW.mono hsw)) hb0 (Nat.le_trans hbr hW.size) (hown'.below hW) (by omega) (H.fine _ (List.getElem_mem hlt') W (hBw.trans (hW.mono hsw)))
        have hlen := H.adds _ (List.getElem_mem hlt') e (by omega)
        have HD := Lib.hid hD
        have HE := Lib.hid hen
        rw [hen]
        rw [hen] at cq
        clear hD hrows h H hen HK hown'
        generalize l[k] = x at *
        obtain ⟨r, hr⟩ : ∃ r, r = F e x := ⟨_, rfl⟩
        rw [← hr] at cq hlen
        have HF := Lib.hid hr
        clear hr
        obtain ⟨x0, x1⟩ := x
        simp only [Nat.add_zero, MemV.val] at e0 cq
        go_wp2_with fail
        refine (cq _ ?_).mono ?_
        · exact (Below.refl _ wr).alloc (Nat.le_refl _) _
        rintro e' w1 ⟨v1, rfl, h1, n1⟩
        dsimp only
        go_wp2
        go_roundw
        case rel => exact ⟨k + 1, r, by omega, by go_num, h1, (hN.alloc _).trans n1, by omega, Lib.hid (by rw [HD.out, HF.out])⟩
        case measure => simp [intOf]; omega
    · have hk' : l.length ≤ k := by have := HN.out; omega
      have hD := HK.out
      rw [List.drop_eq_nil_of_le hk'] at hD
      have HD : Hid (R = e) := Lib.hid hD
      have HE := Lib.hid hen
      rw [hen]
      rw [hen] at hown'
      clear hD hk' hen HK
      go_wp2
      go_ret
      exact ⟨_, rfl, by rw [HD.out]; exact hown', hN⟩
theorem list_MemV {g : Nat} {F : List UInt8 → MemV → List UInt8} {ok : World → MemV → Prop} {w0 : World} {K : Nat} (h : Puts g MemV.val ok F w0) (eg : ∀ args w, (callFunc g args).run Tryz.prog w = .ok (.enter g args) w) (p : Option Addr) (n cap : Nat) (l : List MemV) (H : Puttable 2 MemV.row ok F K w0 p n l) (base : Nat) (hb0 : w0.heap.size ≤ base) (w : World) (hB0 : Below w0.heap.size w0 w) (hb : base ≤ w.heap.size) (v : Value) (d : List UInt8) (hown : Own w base 5 v d) (hd : d.length ≤ 1001000000) :
    Calls Tryz.prog 236 #[v, .slice p n cap, .func (.func g) #[] #[]] w (Adds5 w base (listC F d l)) := by
  have hm := H.most
  have c1 := fun hx hy => number_of base v d (n : Int) w hown hb hx (by omega) hy
  have c2 := fun (w1 : World) (v1 : Value) (h1 : Own w1 base 5 v1 (numC d n)) (n1 : Near base w w1) hl => each_MemV h eg p n cap l H base hb0 w1 (hB0.trans ((n1.below hb).mono hb0)) (Nat.le_trans hb n1.size) v1 _ h1 hl
  have hq : eachC F (numC d n) l = listC F d l := by unfold listC; rw [H.len]
  have hl := num_len (b := d) (n := (n : Int)) (by omega) (by omega)
  have HQ := Lib.hid hq
  have c1 := c1 (by omega) (by omega)
  clear hq h H hown
  go_enter Tryz.func236, Tryz.ntmps236
  go_wp2_with (first
    | (go_at_call 160; (with_reducible refine c1.mono ?_); rintro e w1 ⟨v1, rfl, h1, n1⟩)
    | (go_at_call 295; (with_reducible refine (c2 _ _ h1 n1 (by omega)).mono ?_); rintro e w2 ⟨v2, rfl, h2, n2⟩))
  go_ret
  exact ⟨_, rfl, by rw [← HQ.out]; exact h2, n1.trans n2⟩
theorem each_GlobV {g : Nat} {F : List UInt8 → GlobV → List UInt8} {ok : World → GlobV → Prop} {w0 : World} {K : Nat} (h : Puts g GlobV.val ok F w0) (eg : ∀ args w, (callFunc g args).run Tryz.prog w = .ok (.enter g args) w) (p : Option Addr) (n cap : Nat) (l : List GlobV) (H : Puttable 3 GlobV.row ok F K w0 p n l) (base : Nat) (hb0 : w0.heap.size ≤ base) (w : World) (hB0 : Below w0.heap.size w0 w) (hb : base ≤ w.heap.size) (v : Value) (d : List UInt8) (hown : Own w base 5 v d) (hd : d.length ≤ 1002000000) :
    Calls Tryz.prog 296 #[v, .slice p n cap, .func (.func g) #[] #[]] w (Adds5 w base (eachC F d l)) := by
  obtain ⟨R, hR⟩ : ∃ R, R = eachC F d l := ⟨_, rfl⟩
  rw [← hR]
  have HR : Hid (R = eachC F d (l.drop 0)) := Lib.hid hR
  have HN := Lib.hid H.len
  have hm := H.most
  have hKb := H.few
  have hs0 := hB0.size
  clear hR
  obtain ⟨vp, vc, rfl⟩ := hown.any
  go_enter Tryz.func296, Tryz.ntmps296
  go_wp2
  go_loopw [0, 11] (fun u i wr => ∃ (k : Nat) (e : List UInt8), k ≤ n ∧ i = .int .i64 k ∧ Own wr base 5 u e ∧ Near base w wr ∧ e.length ≤ 1002000000 ∧ Hid (R = eachC F e (l.drop k))) (fun _ i _ => n - (intOf i).toNat)
  case atStart => exact ⟨0, d, by omega, rfl, hown, Near.refl _ _, by omega, HR⟩
  case round =>
    clear HR hown hd
    obtain ⟨k, e, hk, rfl, hown', hN, hel, HK⟩ := hrel
    obtain ⟨up, uc, rfl⟩ := hown'.any
    obtain ⟨en, hen⟩ : ∃ en, e.length = en := ⟨_, rfl⟩
    have hbr := Nat.le_trans hb hN.size
    by_cases hlt : k < n
    · have hlt' : k < l.length := by have := HN.out; omega
      have hD := HK.out
      rw [List.drop_eq_getElem_cons hlt', eachC_cons] at hD
      have hBw := hB0.trans ((hN.below hb).mono hb0)
      have hrows := H.rows.below hBw (Nat.le_refl _)
      obtain ⟨b, o, hp, hbb, e0⟩ := hrows k hlt' 0 _ rfl
      subst hp
      have e1 := hrows.cell hlt' 1 rfl
      have e2 := hrows.cell hlt' 2 rfl
      by_cases hgo : (1048576 : Int) < en
      · rw [if_pos (by omega)] at hD
        have HD := Lib.hid hD
        have HE := Lib.hid hen
        rw [hen]
        rw [hen] at hown'
        clear hD hrows h H hen HK
        generalize l[k] = x at *
        obtain ⟨x0, x1, x2⟩ := x
        simp only [Nat.add_zero] at e0
        go_wp2
        go_ret
        exact ⟨_, rfl, by rw [HD.out]; exact hown'.alloc _, hN.alloc _⟩
      · rw [if_neg (by omega)] at hD
        have hsw := Nat.le_trans hs0 hN.size
        have cq := fun (W : World) (hW : Below wr.heap.size wr W) => h l[k] W base _ e (hBw.trans (hW.mono hsw)) hb0 (Nat.le_trans hbr hW.size) (hown'.below hW) (by omega) (H.fine _ (List.getElem_mem hlt') W (hBw.trans (hW.mono hsw)))
        have hlen := H.adds _ (List.getElem_mem hlt') e (by omega)
        have HD := Lib.hid hD
        have HE := Lib.hid hen
        rw [hen]
        rw [hen] at cq
        clear hD hrows h H hen HK hown'
        generalize l[k] = x at *
        obtain ⟨r, hr⟩ : ∃ r, r = F e x := ⟨_, rfl⟩
        rw [← hr] at cq hlen
        have HF := Lib.hid hr
        clear hr
        obtain ⟨x0, x1, x2⟩ := x
        simp only [Nat.add_zero, GlobV.val] at e0 cq
        go_wp2_with fail
        refine (cq _ ?_).mono ?_
        · exact (Below.refl _ wr).alloc (Nat.le_refl _) _
        rintro e' w1 ⟨v1, rfl, h1, n1⟩
        dsimp only
        go_wp2
        go_roundw
        case rel => exact ⟨k + 1, r, by omega, by go_num, h1, (hN.alloc _).trans n1, by omega, Lib.hid (by rw [HD.out, HF.out])⟩
        case measure => simp [intOf]; omega
    · have hk' : l.length ≤ k := by have := HN.out; omega
      have hD := HK.out
      rw [List.drop_eq_nil_of_le hk'] at hD
      have HD : Hid (R = e) := Lib.hid hD
      have HE := Lib.hid hen
      rw [hen]
      rw [hen] at hown'
      clear hD hk' hen HK
      go_wp2
      go_ret
      exact ⟨_, rfl, by rw [HD.out]; exact hown', hN⟩
theorem list_GlobV {g : Nat} {F : List UInt8 → GlobV → List UInt8} {ok : World → GlobV → Prop} {w0 : World} {K : Nat} (h : Puts g GlobV.val ok F w0) (eg : ∀ args w, (callFunc g args).run Tryz.prog w = .ok (.enter g args) w) (p : Option Addr) (n cap : Nat) (l : List GlobV) (H : Puttable 3 GlobV.row ok F K w0 p n l) (base : Nat) (hb0 : w0.heap.size ≤ base) (w : World) (hB0 : Below w0.heap.size w0 w) (hb : base ≤ w.heap.size) (v : Value) (d : List UInt8) (hown : Own w base 5 v d) (hd : d.length ≤ 1001000000) :
    Calls Tryz.prog 238 #[v, .slice p n cap, .func (.func g) #[] #[]] w (Adds5 w base (listC F d l)) := by
  have hm := H.most
  have c1 := fun hx hy => number_of base v d (n : Int) w hown hb hx (by omega) hy
  have c2 := fun (w1 : World) (v1 : Value) (h1 : Own w1 base 5 v1 (numC d n)) (n1 : Near base w w1) hl => each_GlobV h eg p n cap l H base hb0 w1 (hB0.trans ((n1.below hb).mono hb0)) (Nat.le_trans hb n1.size) v1 _ h1 hl
  have hq : eachC F (numC d n) l = listC F d l := by unfold listC; rw [H.len]
  have hl := num_len (b := d) (n := (n : Int)) (by omega) (by omega)
  have HQ := Lib.hid hq
  have c1 := c1 (by omega) (by omega)
  clear hq h H hown
  go_enter Tryz.func238, Tryz.ntmps238
  go_wp2_with (first
    | (go_at_call 160; (with_reducible refine c1.mono ?_); rintro e w1 ⟨v1, rfl, h1, n1⟩)
    | (go_at_call 296; (with_reducible refine (c2 _ _ h1 n1 (by omega)).mono ?_); rintro e w2 ⟨v2, rfl, h2, n2⟩))
  go_ret
  exact ⟨_, rfl, by rw [← HQ.out]; exact h2, n1.trans n2⟩
theorem each_ExpV {g : Nat} {F : List UInt8 → ExpV → List UInt8} {ok : World → ExpV → Prop} {w0 : World} {K : Nat} (h : Puts g ExpV.val ok F w0) (eg : ∀ args w, (callFunc g args).run Tryz.prog w = .ok (.enter g args) w) (p : Option Addr) (n cap : Nat) (l : List ExpV) (H : Puttable 3 ExpV.row ok F K w0 p n l) (base : Nat) (hb0 : w0.heap.size ≤ base) (w : World) (hB0 : Below w0.heap.size w0 w) (hb : base ≤ w.heap.size) (v : Value) (d : List UInt8) (hown : Own w base 5 v d) (hd : d.length ≤ 1002000000) :
    Calls Tryz.prog 297 #[v, .slice p n cap, .func (.func g) #[] #[]] w (Adds5 w base (eachC F d l)) := by
  obtain ⟨R, hR⟩ : ∃ R, R = eachC F d l := ⟨_, rfl⟩
  rw [← hR]
  have HR : Hid (R = eachC F d (l.drop 0)) := Lib.hid hR
  have HN := Lib.hid H.len
  have hm := H.most
  have hKb := H.few
  have hs0 := hB0.size
  clear hR
  obtain ⟨vp, vc, rfl⟩ := hown.any
  go_enter Tryz.func297, Tryz.ntmps297
  go_wp2
  go_loopw [0, 11] (fun u i wr => ∃ (k : Nat) (e : List UInt8), k ≤ n ∧ i = .int .i64 k ∧ Own wr base 5 u e ∧ Near base w wr ∧ e.length ≤ 1002000000 ∧ Hid (R = eachC F e (l.drop k))) (fun _ i _ => n - (intOf i).toNat)
  case atStart => exact ⟨0, d, by omega, rfl, hown, Near.refl _ _, by omega, HR⟩
  case round =>
    clear HR hown hd
    obtain ⟨k, e, hk, rfl, hown', hN, hel, HK⟩ := hrel
    obtain ⟨up, uc, rfl⟩ := hown'.any
    obtain ⟨en, hen⟩ : ∃ en, e.length = en := ⟨_, rfl⟩
    have hbr := Nat.le_trans hb hN.size
    by_cases hlt : k < n
    · have hlt' : k < l.length := by have := HN.out; omega
      have hD := HK.out
      rw [List.drop_eq_getElem_cons hlt', eachC_cons] at hD
      have hBw := hB0.trans ((hN.below hb).mono hb0)
      have hrows := H.rows.below hBw (Nat.le_refl _)
      obtain ⟨b, o, hp, hbb, e0⟩ := hrows k hlt' 0 _ rfl
      subst hp
      have e1 := hrows.cell hlt' 1 rfl
      have e2 := hrows.cell hlt' 2 rfl
      by_cases hgo : (1048576 : Int) < en
      · rw [if_pos (by omega)] at hD
        have HD := Lib.hid hD
        have HE := Lib.hid hen
        rw [hen]
        rw [hen] at hown'
        clear hD hrows h H hen HK
        generalize l[k] = x at *
        obtain ⟨x0, x1, x2⟩ := x
        simp only [Nat.add_zero] at e0
        go_wp2
        go_ret
        exact ⟨_, rfl, by rw [HD.out]; exact hown'.alloc _, hN.alloc _⟩
      · rw [if_neg (by omega)] at hD
        have hsw := Nat.le_trans hs0 hN.size
        have cq := fun (W : World) (hW : Below wr.heap.size wr W) => h l[k] W base _ e (hBw.trans (hW.mono hsw)) hb0 (Nat.le_trans hbr hW.size) (hown'.below hW) (by omega) (H.fine _ (List.getElem_mem hlt') W (hBw.trans (hW.mono hsw)))
        have hlen := H.adds _ (List.getElem_mem hlt') e (by omega)
        have HD := Lib.hid hD
        have HE := Lib.hid hen
        rw [hen]
        rw [hen] at cq
        clear hD hrows h H hen HK hown'
        generalize l[k] = x at *
        obtain ⟨r, hr⟩ : ∃ r, r = F e x := ⟨_, rfl⟩
        rw [← hr] at cq hlen
        have HF := Lib.hid hr
        clear hr
        obtain ⟨x0, x1, x2⟩ := x
        simp only [Nat.add_zero, ExpV.val] at e0 cq
        go_wp2_with fail
        refine (cq _ ?_).mono ?_
        · exact (Below.refl _ wr).alloc (Nat.le_refl _) _
        rintro e' w1 ⟨v1, rfl, h1, n1⟩
        dsimp only
        go_wp2
        go_roundw
        case rel => exact ⟨k + 1, r, by omega, by go_num, h1, (hN.alloc _).trans n1, by omega, Lib.hid (by rw [HD.out, HF.out])⟩
        case measure => simp [intOf]; omega
    · have hk' : l.length ≤ k := by have := HN.out; omega
      have hD := HK.out
      rw [List.drop_eq_nil_of_le hk'] at hD
      have HD : Hid (R = e) := Lib.hid hD
      have HE := Lib.hid hen
      rw [hen]
      rw [hen] at hown'
      clear hD hk' hen HK
      go_wp2
      go_ret
      exact ⟨_, rfl, by rw [HD.out]; exact hown', hN⟩
theorem list_ExpV {g : Nat} {F : List UInt8 → ExpV → List UInt8} {ok : World → ExpV → Prop} {w0 : World} {K : Nat} (h : Puts g ExpV.val ok F w0) (eg : ∀ args w, (callFunc g args).run Tryz.prog w = .ok (.enter g args) w) (p : Option Addr) (n cap : Nat) (l : List ExpV) (H : Puttable 3 ExpV.row ok F K w0 p n l) (base : Nat) (hb0 : w0.heap.size ≤ base) (w : World) (hB0 : Below w0.heap.size w0 w) (hb : base ≤ w.heap.size) (v : Value) (d : List UInt8) (hown : Own w base 5 v d) (hd : d.length ≤ 1001000000) :
    Calls Tryz.prog 241 #[v, .slice p n cap, .func (.func g) #[] #[]] w (Adds5 w base (listC F d l)) := by
  have hm := H.most
  have c1 := fun hx hy => number_of base v d (n : Int) w hown hb hx (by omega) hy
  have c2 := fun (w1 : World) (v1 : Value) (h1 : Own w1 base 5 v1 (numC d n)) (n1 : Near base w w1) hl => each_ExpV h eg p n cap l H base hb0 w1 (hB0.trans ((n1.below hb).mono hb0)) (Nat.le_trans hb n1.size) v1 _ h1 hl
  have hq : eachC F (numC d n) l = listC F d l := by unfold listC; rw [H.len]
  have hl := num_len (b := d) (n := (n : Int)) (by omega) (by omega)
  have HQ := Lib.hid hq
  have c1 := c1 (by omega) (by omega)
  clear hq h H hown
  go_enter Tryz.func241, Tryz.ntmps241
  go_wp2_with (first
    | (go_at_call 160; (with_reducible refine c1.mono ?_); rintro e w1 ⟨v1, rfl, h1, n1⟩)
    | (go_at_call 297; (with_reducible refine (c2 _ _ h1 n1 (by omega)).mono ?_); rintro e w2 ⟨v2, rfl, h2, n2⟩))
  go_ret
  exact ⟨_, rfl, by rw [← HQ.out]; exact h2, n1.trans n2⟩
theorem each_DatV {g : Nat} {F : List UInt8 → DatV → List UInt8} {ok : World → DatV → Prop} {w0 : World} {K : Nat} (h : Puts g DatV.val ok F w0) (eg : ∀ args w, (callFunc g args).run Tryz.prog w = .ok (.enter g args) w) (p : Option Addr) (n cap : Nat) (l : List DatV) (H : Puttable 2 DatV.row ok F K w0 p n l) (base : Nat) (hb0 : w0.heap.size ≤ base) (w : World) (hB0 : Below w0.heap.size w0 w) (hb : base ≤ w.heap.size) (v : Value) (d : List UInt8) (hown : Own w base 5 v d) (hd : d.length ≤ 1002000000) :
    Calls Tryz.prog 299 #[v, .slice p n cap, .func (.func g) #[] #[]] w (Adds5 w base (eachC F d l)) := by
  obtain ⟨R, hR⟩ : ∃ R, R = eachC F d l := ⟨_, rfl⟩
  rw [← hR]
  have HR : Hid (R = eachC F d (l.drop 0)) := Lib.hid hR
  have HN := Lib.hid H.len
  have hm := H.most
  have hKb := H.few
  have hs0 := hB0.size
  clear hR
  obtain ⟨vp, vc, rfl⟩ := hown.any
  go_enter Tryz.func299, Tryz.ntmps299
  go_wp2
  go_loopw [0, 11] (fun u i wr => ∃ (k : Nat) (e : List UInt8), k ≤ n ∧ i = .int .i64 k ∧ Own wr base 5 u e ∧ Near base w wr ∧ e.length ≤ 1002000000 ∧ Hid (R = eachC F e (l.drop k))) (fun _ i _ => n - (intOf i).toNat)
  case atStart => exact ⟨0, d, by omega, rfl, hown, Near.refl _ _, by omega, HR⟩
  case round =>
    clear HR hown hd
    obtain ⟨k, e, hk, rfl, hown', hN, hel, HK⟩ := hrel
    obtain ⟨up, uc, rfl⟩ := hown'.any
    obtain ⟨en, hen⟩ : ∃ en, e.length = en := ⟨_, rfl⟩
    have hbr := Nat.le_trans hb hN.size
    by_cases hlt : k < n
    · have hlt' : k < l.length := by have := HN.out; omega
      have hD := HK.out
      rw [List.drop_eq_getElem_cons hlt', eachC_cons] at hD
      have hBw := hB0.trans ((hN.below hb).mono hb0)
      have hrows := H.rows.below hBw (Nat.le_refl _)
      obtain ⟨b, o, hp, hbb, e0⟩ := hrows k hlt' 0 _ rfl
      subst hp
      have e1 := hrows.cell hlt' 1 rfl
      by_cases hgo : (1048576 : Int) < en
      · rw [if_pos (by omega)] at hD
        have HD := Lib.hid hD
        have HE := Lib.hid hen
        rw [hen]
        rw [hen] at hown'
        clear hD hrows h H hen HK
        generalize l[k] = x at *
        obtain ⟨x0, x1⟩ := x
        simp only [Nat.add_zero] at e0
        go_wp2
        go_ret
        exact ⟨_, rfl, by rw [HD.out]; exact hown'.alloc _, hN.alloc _⟩
      · rw [if_neg (by omega)] at hD
        have hsw := Nat.le_trans hs0 hN.size
        have cq := fun (W : World) (hW : Below wr.heap.size wr W) => h l[k] W base _ e (hBw.trans (hW.mono hsw)) hb0 (Nat.le_trans hbr hW.size) (hown'.below hW) (by omega) (H.fine _ (List.getElem_mem hlt') W (hBw.trans (hW.mono hsw)))
        have hlen := H.adds _ (List.getElem_mem hlt') e (by omega)
        have HD := Lib.hid hD
        have HE := Lib.hid hen
        rw [hen]
        rw [hen] at cq
        clear hD hrows h H hen HK hown'
        generalize l[k] = x at *
        obtain ⟨r, hr⟩ : ∃ r, r = F e x := ⟨_, rfl⟩
        rw [← hr] at cq hlen
        have HF := Lib.hid hr
        clear hr
        obtain ⟨x0, x1⟩ := x
        simp only [Nat.add_zero, DatV.val] at e0 cq
        go_wp2_with fail
        refine (cq _ ?_).mono ?_
        · exact (Below.refl _ wr).alloc (Nat.le_refl _) _
        rintro e' w1 ⟨v1, rfl, h1, n1⟩
        dsimp only
        go_wp2
        go_roundw
        case rel => exact ⟨k + 1, r, by omega, by go_num, h1, (hN.alloc _).trans n1, by omega, Lib.hid (by rw [HD.out, HF.out])⟩
        case measure => simp [intOf]; omega
    · have hk' : l.length ≤ k := by have := HN.out; omega
      have hD := HK.out
      rw [List.drop_eq_nil_of_le hk'] at hD
      have HD : Hid (R = e) := Lib.hid hD
      have HE := Lib.hid hen
      rw [hen]
      rw [hen] at hown'
      clear hD hk' hen HK
      go_wp2
      go_ret
      exact ⟨_, rfl, by rw [HD.out]; exact hown', hN⟩
theorem list_DatV {g : Nat} {F : List UInt8 → DatV → List UInt8} {ok : World → DatV → Prop} {w0 : World} {K : Nat} (h : Puts g DatV.val ok F w0) (eg : ∀ args w, (callFunc g args).run Tryz.prog w = .ok (.enter g args) w) (p : Option Addr) (n cap : Nat) (l : List DatV) (H : Puttable 2 DatV.row ok F K w0 p n l) (base : Nat) (hb0 : w0.heap.size ≤ base) (w : World) (hB0 : Below w0.heap.size w0 w) (hb : base ≤ w.heap.size) (v : Value) (d : List UInt8) (hown : Own w base 5 v d) (hd : d.length ≤ 1001000000) :
    Calls Tryz.prog 247 #[v, .slice p n cap, .func (.func g) #[] #[]] w (Adds5 w base (listC F d l)) := by
  have hm := H.most
  have c1 := fun hx hy => number_of base v d (n : Int) w hown hb hx (by omega) hy
  have c2 := fun (w1 : World) (v1 : Value) (h1 : Own w1 base 5 v1 (numC d n)) (n1 : Near base w w1) hl => each_DatV h eg p n cap l H base hb0 w1 (hB0.trans ((n1.below hb).mono hb0)) (Nat.le_trans hb n1.size) v1 _ h1 hl
  have hq : eachC F (numC d n) l = listC F d l := by unfold listC; rw [H.len]
  have hl := num_len (b := d) (n := (n : Int)) (by omega) (by omega)
  have HQ := Lib.hid hq
  have c1 := c1 (by omega) (by omega)
  clear hq h H hown
  go_enter Tryz.func247, Tryz.ntmps247
  go_wp2_with (first
    | (go_at_call 160; (with_reducible refine c1.mono ?_); rintro e w1 ⟨v1, rfl, h1, n1⟩)
    | (go_at_call 299; (with_reducible refine (c2 _ _ h1 n1 (by omega)).mono ?_); rintro e w2 ⟨v2, rfl, h2, n2⟩))
  go_ret
  exact ⟨_, rfl, by rw [← HQ.out]; exact h2, n1.trans n2⟩
theorem each_InsV {g : Nat} {F : List UInt8 → InsV → List UInt8} {ok : World → InsV → Prop} {w0 : World} {K : Nat} (h : Puts g InsV.val ok F w0) (eg : ∀ args w, (callFunc g args).run Tryz.prog w = .ok (.enter g args) w) (p : Option Addr) (n cap : Nat) (l : List InsV) (H : Puttable 4 InsV.row ok F K w0 p n l) (base : Nat) (hb0 : w0.heap.size ≤ base) (w : World) (hB0 : Below w0.heap.size w0 w) (hb : base ≤ w.heap.size) (v : Value) (d : List UInt8) (hown : Own w base 5 v d) (hd : d.length ≤ 1002000000) :
    Calls Tryz.prog 245 #[v, .slice p n cap, .func (.func g) #[] #[]] w (Adds5 w base (eachC F d l)) := by
  obtain ⟨R, hR⟩ : ∃ R, R = eachC F d l := ⟨_, rfl⟩
  rw [← hR]
  have HR : Hid (R = eachC F d (l.drop 0)) := Lib.hid hR
  have HN := Lib.hid H.len
  have hm := H.most
  have hKb := H.few
  have hs0 := hB0.size
  clear hR
  obtain ⟨vp, vc, rfl⟩ := hown.any
  go_enter Tryz.func245, Tryz.ntmps245
  go_wp2
  go_loopw [0, 11] (fun u i wr => ∃ (k : Nat) (e : List UInt8), k ≤ n ∧ i = .int .i64 k ∧ Own wr base 5 u e ∧ Near base w wr ∧ e.length ≤ 1002000000 ∧ Hid (R = eachC F e (l.drop k))) (fun _ i _ => n - (intOf i).toNat)
  case atStart => exact ⟨0, d, by omega, rfl, hown, Near.refl _ _, by omega, HR⟩
  case round =>
    clear HR hown hd
    obtain ⟨k, e, hk, rfl, hown', hN, hel, HK⟩ := hrel
    obtain ⟨up, uc, rfl⟩ := hown'.any
    obtain ⟨en, hen⟩ : ∃ en, e.length = en := ⟨_, rfl⟩
    have hbr := Nat.le_trans hb hN.size
    by_cases hlt : k < n
    · have hlt' : k < l.length := by have := HN.out; omega
      have hD := HK.out
      rw [List.drop_eq_getElem_cons hlt', eachC_cons] at hD
      have hBw := hB0.trans ((hN.below hb).mono hb0)
      have hrows := H.rows.below hBw (Nat.le_refl _)
      obtain ⟨b, o, hp, hbb, e0⟩ := hrows k hlt' 0 _ rfl
      subst hp
      have e1 := hrows.cell hlt' 1 rfl
      have e2 := hrows.cell hlt' 2 rfl
      have e3 := hrows.cell hlt' 3 rfl
      by_cases hgo : (1048576 : Int) < en
      · rw [if_pos (by omega)] at hD
        have HD := Lib.hid hD
        have HE := Lib.hid hen
        rw [hen]
        rw [hen] at hown'
        clear hD hrows h H hen HK
        generalize l[k] = x at *
        obtain ⟨x0, x1, x2, x3, x4, x5⟩ := x
        simp only [Nat.add_zero] at e0
        go_wp2
        go_ret
        exact ⟨_, rfl, by rw [HD.out]; exact hown'.alloc _, hN.alloc _⟩
      · rw [if_neg (by omega)] at hD
        have hsw := Nat.le_trans hs0 hN.size
        have cq := fun (W : World) (hW : Below wr.heap.size wr W) => h l[k] W base _ e (hBw.trans (hW.mono hsw)) hb0 (Nat.le_trans hbr hW.size) (hown'.below hW) (by omega) (H.fine _ (List.getElem_mem hlt') W (hBw.trans (hW.mono hsw)))
        have hlen := H.adds _ (List.getElem_mem hlt') e (by omega)
        have HD := Lib.hid hD
        have HE := Lib.hid hen
        rw [hen]
        rw [hen] at cq
        clear hD hrows h H hen HK hown'
        generalize l[k] = x at *
        obtain ⟨r, hr⟩ : ∃ r, r = F e x := ⟨_, rfl⟩
        rw [← hr] at cq hlen
        have HF := Lib.hid hr
        clear hr
        obtain ⟨x0, x1, x2, x3, x4, x5⟩ := x
        simp only [Nat.add_zero, InsV.val] at e0 cq
        go_wp2_with fail
        refine (cq _ ?_).mono ?_
        · exact (Below.refl _ wr).alloc (Nat.le_refl _) _
        rintro e' w1 ⟨v1, rfl, h1, n1⟩
        dsimp only
        go_wp2
        go_roundw
        case rel => exact ⟨k + 1, r, by omega, by go_num, h1, (hN.alloc _).trans n1, by omega, Lib.hid (by rw [HD.out, HF.out])⟩
        case measure => simp [intOf]; omega
    · have hk' : l.length ≤ k := by have := HN.out; omega
      have hD := HK.out
      rw [List.drop_eq_nil_of_le hk'] at hD
      have HD : Hid (R = e) := Lib.hid hD
      have HE := Lib.hid hen
      rw [hen]
      rw [hen] at hown'
      clear hD hk' hen HK
      go_wp2
      go_ret
      exact ⟨_, rfl, by rw [HD.out]; exact hown', hN⟩
theorem each_RunV {g : Nat} {F : List UInt8 → RunV → List UInt8} {ok : World → RunV → Prop} {w0 : World} {K : Nat} (h : Puts g RunV.val ok F w0) (eg : ∀ args w, (callFunc g args).run Tryz.prog w = .ok (.enter g args) w) (p : Option Addr) (n cap : Nat) (l : List RunV) (H : Puttable 2 RunV.row ok F K w0 p n l) (base : Nat) (hb0 : w0.heap.size ≤ base) (w : World) (hB0 : Below w0.heap.size w0 w) (hb : base ≤ w.heap.size) (v : Value) (d : List UInt8) (hown : Own w base 5 v d) (hd : d.length ≤ 1002000000) :
    Calls Tryz.prog 298 #[v, .slice p n cap, .func (.func g) #[] #[]] w (Adds5 w base (eachC F d l)) := by
  obtain ⟨R, hR⟩ : ∃ R, R = eachC F d l := ⟨_, rfl⟩
  rw [← hR]
  have HR : Hid (R = eachC F d (l.drop 0)) := Lib.hid hR
  have HN := Lib.hid H.len
  have hm := H.most
  have hKb := H.few
  have hs0 := hB0.size
  clear hR
  obtain ⟨vp, vc, rfl⟩ := hown.any
  go_enter Tryz.func298, Tryz.ntmps298
  go_wp2
  go_loopw [0, 11] (fun u i wr => ∃ (k : Nat) (e : List UInt8), k ≤ n ∧ i = .int .i64 k ∧ Own wr base 5 u e ∧ Near base w wr ∧ e.length ≤ 1002000000 ∧ Hid (R = eachC F e (l.drop k))) (fun _ i _ => n - (intOf i).toNat)
  case atStart => exact ⟨0, d, by omega, rfl, hown, Near.refl _ _, by omega, HR⟩
  case round =>
    clear HR hown hd
    obtain ⟨k, e, hk, rfl, hown', hN, hel, HK⟩ := hrel
    obtain ⟨up, uc, rfl⟩ := hown'.any
    obtain ⟨en, hen⟩ : ∃ en, e.length = en := ⟨_, rfl⟩
    have hbr := Nat.le_trans hb hN.size
    by_cases hlt : k < n
    · have hlt' : k < l.length := by have := HN.out; omega
      have hD := HK.out
      rw [List.drop_eq_getElem_cons hlt', eachC_cons] at hD
      have hBw := hB0.trans ((hN.below hb).mono hb0)
      have hrows := H.rows.below hBw (Nat.le_refl _)
      obtain ⟨b, o, hp, hbb, e0⟩ := hrows k hlt' 0 _ rfl
      subst hp
      have e1 := hrows.cell hlt' 1 rfl
      by_cases hgo : (1048576 : Int) < en
      · rw [if_pos (by omega)] at hD
        have HD := Lib.hid hD
        have HE := Lib.hid hen
        rw [hen]
        rw [hen] at hown'
        clear hD hrows h H hen HK
        generalize l[k] = x at *
        obtain ⟨x0, x1⟩ := x
        simp only [Nat.add_zero] at e0
        go_wp2
        go_ret
        exact ⟨_, rfl, by rw [HD.out]; exact hown'.alloc _, hN.alloc _⟩
      · rw [if_neg (by omega)] at hD
        have hsw := Nat.le_trans hs0 hN.size
        have cq := fun (W : World) (hW : Below wr.heap.size wr W) => h l[k] W base _ e (hBw.trans (hW.mono hsw)) hb0 (Nat.le_trans hbr hW.size) (hown'.below hW) (by omega) (H.fine _ (List.getElem_mem hlt') W (hBw.trans (hW.mono hsw)))
        have hlen := H.adds _ (List.getElem_mem hlt') e (by omega)
        have HD := Lib.hid hD
        have HE := Lib.hid hen
        rw [hen]
        rw [hen] at cq
        clear hD hrows h H hen HK hown'
        generalize l[k] = x at *
        obtain ⟨r, hr⟩ : ∃ r, r = F e x := ⟨_, rfl⟩
        rw [← hr] at cq hlen
        have HF := Lib.hid hr
        clear hr
        obtain ⟨x0, x1⟩ := x
        simp only [Nat.add_zero, RunV.val] at e0 cq
        go_wp2_with fail
        refine (cq _ ?_).mono ?_
        · exact (Below.refl _ wr).alloc (Nat.le_refl _) _
        rintro e' w1 ⟨v1, rfl, h1, n1⟩
        dsimp only
        go_wp2
        go_roundw
        case rel => exact ⟨k + 1, r, by omega, by go_num, h1, (hN.alloc _).trans n1, by omega, Lib.hid (by rw [HD.out, HF.out])⟩
        case measure => simp [intOf]; omega
    · have hk' : l.length ≤ k := by have := HN.out; omega
      have hD := HK.out
      rw [List.drop_eq_nil_of_le hk'] at hD
      have HD : Hid (R = e) := Lib.hid hD
      have HE := Lib.hid hen
      rw [hen]
      rw [hen] at hown'
      clear hD hk' hen HK
      go_wp2
      go_ret
      exact ⟨_, rfl, by rw [HD.out]; exact hown', hN⟩
theorem list_RunV {g : Nat} {F : List UInt8 → RunV → List UInt8} {ok : World → RunV → Prop} {w0 : World} {K : Nat} (h : Puts g RunV.val ok F w0) (eg : ∀ args w, (callFunc g args).run Tryz.prog w = .ok (.enter g args) w) (p : Option Addr) (n cap : Nat) (l : List RunV) (H : Puttable 2 RunV.row ok F K w0 p n l) (base : Nat) (hb0 : w0.heap.size ≤ base) (w : World) (hB0 : Below w0.heap.size w0 w) (hb : base ≤ w.heap.size) (v : Value) (d : List UInt8) (hown : Own w base 5 v d) (hd : d.length ≤ 1001000000) :
    Calls Tryz.prog 242 #[v, .slice p n cap, .func (.func g) #[] #[]] w (Adds5 w base (listC F d l)) := by
  have hm := H.most
  have c1 := fun hx hy => number_of base v d (n : Int) w hown hb hx (by omega) hy
  have c2 := fun (w1 : World) (v1 : Value) (h1 : Own w1 base 5 v1 (numC d n)) (n1 : Near base w w1) hl => each_RunV h eg p n cap l H base hb0 w1 (hB0.trans ((n1.below hb).mono hb0)) (Nat.le_trans hb n1.size) v1 _ h1 hl
  have hq : eachC F (numC d n) l = listC F d l := by unfold listC; rw [H.len]
  have hl := num_len (b := d) (n := (n : Int)) (by omega) (by omega)
  have HQ := Lib.hid hq
  have c1 := c1 (by omega) (by omega)
  clear hq h H hown
  go_enter Tryz.func242, Tryz.ntmps242
  go_wp2_with (first
    | (go_at_call 160; (with_reducible refine c1.mono ?_); rintro e w1 ⟨v1, rfl, h1, n1⟩)
    | (go_at_call 298; (with_reducible refine (c2 _ _ h1 n1 (by omega)).mono ?_); rintro e w2 ⟨v2, rfl, h2, n2⟩))
  go_ret
  exact ⟨_, rfl, by rw [← HQ.out]; exact h2, n1.trans n2⟩
theorem each_Int {g : Nat} {F : List UInt8 → Int → List UInt8} {ok : World → Int → Prop} {w0 : World} {K : Nat} (h : Puts g intVal ok F w0) (eg : ∀ args w, (callFunc g args).run Tryz.prog w = .ok (.enter g args) w) (p : Option Addr) (n cap : Nat) (l : List Int) (H : Puttable 1 intRow ok F K w0 p n l) (base : Nat) (hb0 : w0.heap.size ≤ base) (w : World) (hB0 : Below w0.heap.size w0 w) (hb : base ≤ w.heap.size) (v : Value) (d : List UInt8) (hown : Own w base 5 v d) (hd : d.length ≤ 1002000000) :
    Calls Tryz.prog 259 #[v, .slice p n cap, .func (.func g) #[] #[]] w (Adds5 w base (eachC F d l)) := by
  obtain ⟨R, hR⟩ : ∃ R, R = eachC F d l := ⟨_, rfl⟩
  rw [← hR]
  have HR : Hid (R = eachC F d (l.drop 0)) := Lib.hid hR
  have HN := Lib.hid H.len
  have hm := H.most
  have hKb := H.few
  have hs0 := hB0.size
  clear hR
  obtain ⟨vp, vc, rfl⟩ := hown.any
  go_enter Tryz.func259, Tryz.ntmps259
  go_wp2
  go_loopw [0, 11] (fun u i wr => ∃ (k : Nat) (e : List UInt8), k ≤ n ∧ i = .int .i64 k ∧ Own wr base 5 u e ∧ Near base w wr ∧ e.length ≤ 1002000000 ∧ Hid (R = eachC F e (l.drop k))) (fun _ i _ => n - (intOf i).toNat)
  case atStart => exact ⟨0, d, by omega, rfl, hown, Near.refl _ _, by omega, HR⟩
  case round =>
    clear HR hown hd
    obtain ⟨k, e, hk, rfl, hown', hN, hel, HK⟩ := hrel
    obtain ⟨up, uc, rfl⟩ := hown'.any
    obtain ⟨en, hen⟩ : ∃ en, e.length = en := ⟨_, rfl⟩
    have hbr := Nat.le_trans hb hN.size
    by_cases hlt : k < n
    · have hlt' : k < l.length := by have := HN.out; omega
      have hD := HK.out
      rw [List.drop_eq_getElem_cons hlt', eachC_cons] at hD
      have hBw := hB0.trans ((hN.below hb).mono hb0)
      have hrows := H.rows.below hBw (Nat.le_refl _)
      obtain ⟨b, o, hp, hbb, e0⟩ := hrows k hlt' 0 _ rfl
      subst hp
      by_cases hgo : (1048576 : Int) < en
      · rw [if_pos (by omega)] at hD
        have HD := Lib.hid hD
        have HE := Lib.hid hen
        rw [hen]
        rw [hen] at hown'
        clear hD hrows h H hen HK
        generalize l[k] = x at *
        simp only [Nat.add_zero, Nat.mul_one] at e0
        go_wp2
        go_ret
        exact ⟨_, rfl, by rw [HD.out]; exact hown', hN⟩
      · rw [if_neg (by omega)] at hD
        have hsw := Nat.le_trans hs0 hN.size
        have cq := fun (W : World) (hW : Below wr.heap.size wr W) => h l[k] W base _ e (hBw.trans (hW.mono hsw)) hb0 (Nat.le_trans hbr hW.size) (hown'.below hW) (by omega) (H.fine _ (List.getElem_mem hlt') W (hBw.trans (hW.mono hsw)))
        have hlen := H.adds _ (List.getElem_mem hlt') e (by omega)
        have HD := Lib.hid hD
        have HE := Lib.hid hen
        rw [hen]
        rw [hen] at cq
        clear hD hrows h H hen HK hown'
        generalize l[k] = x at *
        obtain ⟨r, hr⟩ : ∃ r, r = F e x := ⟨_, rfl⟩
        rw [← hr] at cq hlen
        have HF := Lib.hid hr
        clear hr
        simp only [Nat.add_zero, Nat.mul_one, intVal] at e0 cq
        go_wp2_with fail
        refine (cq _ ?_).mono ?_
        · exact Below.refl _ wr
        rintro e' w1 ⟨v1, rfl, h1, n1⟩
        dsimp only
        go_wp2
        go_roundw
        case rel => exact ⟨k + 1, r, by omega, by go_num, h1, hN.trans n1, by omega, Lib.hid (by rw [HD.out, HF.out])⟩
        case measure => simp [intOf]; omega
    · have hk' : l.length ≤ k := by have := HN.out; omega
      have hD := HK.out
      rw [List.drop_eq_nil_of_le hk'] at hD
      have HD : Hid (R = e) := Lib.hid hD
      have HE := Lib.hid hen
      rw [hen]
      rw [hen] at hown'
      clear hD hk' hen HK
      go_wp2
      go_ret
      exact ⟨_, rfl, by rw [HD.out]; exact hown', hN⟩
theorem list_Int {g : Nat} {F : List UInt8 → Int → List UInt8} {ok : World → Int → Prop} {w0 : World} {K : Nat} (h : Puts g intVal ok F w0) (eg : ∀ args w, (callFunc g args).run Tryz.prog w = .ok (.enter g args) w) (p : Option Addr) (n cap : Nat) (l : List Int) (H : Puttable 1 intRow ok F K w0 p n l) (base : Nat) (hb0 : w0.heap.size ≤ base) (w : World) (hB0 : Below w0.heap.size w0 w) (hb : base ≤ w.heap.size) (v : Value) (d : List UInt8) (hown : Own w base 5 v d) (hd : d.length ≤ 1001000000) :
    Calls Tryz.prog 188 #[v, .slice p n cap, .func (.func g) #[] #[]] w (Adds5 w base (listC F d l)) := by
  have hm := H.most
  have c1 := fun hx hy => number_of base v d (n : Int) w hown hb hx (by omega) hy
  have c2 := fun (w1 : World) (v1 : Value) (h1 : Own w1 base 5 v1 (numC d n)) (n1 : Near base w w1) hl => each_Int h eg p n cap l H base hb0 w1 (hB0.trans ((n1.below hb).mono hb0)) (Nat.le_trans hb n1.size) v1 _ h1 hl
  have hq : eachC F (numC d n) l = listC F d l := by unfold listC; rw [H.len]
  have hl := num_len (b := d) (n := (n : Int)) (by omega) (by omega)
  have HQ := Lib.hid hq
  have c1 := c1 (by omega) (by omega)
  clear hq h H hown
  go_enter Tryz.func188, Tryz.ntmps188
  go_wp2_with (first
    | (go_at_call 160; (with_reducible refine c1.mono ?_); rintro e w1 ⟨v1, rfl, h1, n1⟩)
    | (go_at_call 259; (with_reducible refine (c2 _ _ h1 n1 (by omega)).mono ?_); rintro e w2 ⟨v2, rfl, h2, n2⟩))
  go_ret
  exact ⟨_, rfl, by rw [← HQ.out]; exact h2, n1.trans n2⟩
end Go.Proofs.YthfipknfdnfalaaGreatDoor
