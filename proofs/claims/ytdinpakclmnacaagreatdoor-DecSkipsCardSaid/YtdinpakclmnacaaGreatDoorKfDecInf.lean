/-
  Facts and contracts that the proof calls.
-/
import Derived.Test.YtdinpakclmnacaaGreatDoorKfDecRdB
import Derived.Test.YtdinpakclmnacaaGreatDoorKfModLib
import Derived.Test.YtdinpakclmnacaaGreatDoorKfEncNum
namespace Go.Proofs.YtdinpakclmnacaaGreatDoor
set_option maxRecDepth 100000
set_option maxHeartbeats 16000000
open Go.RowKit Go.Maps
set_option linter.unusedVariables false
theorem Infos.put {M : Nat} {w w' : World} {D : DataW Unit} (h : Infos M w D) {c : Int} {r : Rw} (hc : byCode c = some r) (hno : Maps.has D (.int .i64 c) = false)
    (hown : w'.ownsMap Tryz.prog 3 (infoRead (H := Unit)) M (cnt6 (fun c => Maps.has D (.int .i64 (c : Int))) 256 + 1) (D.put (.int .i64 c) (infoD r.name r.shape r.params r.results))) : Infos M w' (D.put (.int .i64 c) (infoD r.name r.shape r.params r.results)) := by
  have h6 := byCode_6 hc
  obtain ⟨k, rfl⟩ := Int.eq_ofNat_of_zero_le h6.2.2.2.1
  have hk : WideAt.IsKeyLit (.int .i64 (k : Int)) := trivial
  refine ⟨?_, h.map.put _ _, fun c' hc' => ?_⟩
  · have e := cnt6_more (p := fun c => Maps.has D (.int .i64 (c : Int))) (q := fun c => Maps.has (D.put (.int .i64 (k : Int)) (infoD r.name r.shape r.params r.results)) (.int .i64 (c : Int))) (c := k) hno (has_put_same h.map hk _) (fun j hj => has_put_other (key_ne (by omega)) _) 256
    rw [if_pos (by omega)] at e
    rw [e]
    exact hown
  · by_cases he : c' = (k : Int)
    · subst he
      exact ⟨r, hc, atKey_put_same h.map hk _ _⟩
    · rw [has_put_other (key_ne he)] at hc'
      rw [atKey_put_other (key_ne he)]
      exact h.known c' hc'
theorem RdAt.map {w0 : World} {B M : Nat} {T : TypeId} {rest : List Value} {r : RV} {w w' : World} {D : DataW Unit} (h : RdAt w0 B M T rest r w) (hg : w.grownBy w' (some M)) (hD : Infos M w' D) : RdAt w0 B M T rest r w' :=
  ⟨h.below.trans ⟨hg.os, hg.tape, hg.output, hg.size, fun k hk => hg.block k (Nat.lt_of_lt_of_le hk h.below.size) (fun e => by injection e with e; have := h.hM; omega)⟩, (hg.block B (in_heap6 h.box) (fun e => h.ne (by injection e with e; exact e.symm))).trans h.box, ⟨D, hD⟩, h.ne, h.hB, h.hM, h.size, h.pos⟩
theorem Mov.map {B M : Nat} {w w1 w2 : World} (h : Mov B M w w1) (g : w1.grownBy w2 (some M)) : Mov B M w w2 :=
  ⟨g.os.trans h.os, g.tape.trans h.tape, g.output.trans h.output, Nat.le_trans h.size g.size, fun k hk h1 h2 => (g.block k (Nat.lt_of_lt_of_le hk h.size) (fun e => by injection e with e; exact h2 e)).trans (h.block k hk h1 h2)⟩
theorem Mov.trans' {B M : Nat} {a b c : World} (h : Mov B M a b) (hk : ∀ k, k < a.heap.size → c.heap[k]? = b.heap[k]?) (e1 : c.os = b.os) (e2 : c.tape = b.tape) (e3 : c.output = b.output) (e4 : b.heap.size ≤ c.heap.size) : Mov B M a c :=
  ⟨e1.trans h.os, e2.trans h.tape, e3.trans h.output, Nat.le_trans h.size e4, fun k h0 h1 h2 => (hk k h0).trans (h.block k h0 h1 h2)⟩
theorem RdAt.other {w0 : World} {B M : Nat} {T : TypeId} {rest : List Value} {r : RV} {w : World} (h : RdAt w0 B M T rest r w) {b : Nat} (j : Nat) (v : Value) (h1 : b ≠ B) (h2 : b ≠ M) (h3 : w0.heap.size ≤ b) : RdAt w0 B M T rest r (w.setCell ⟨b, j, none⟩ v) := by
  obtain ⟨D, hD⟩ := h.infos
  exact ⟨h.below.setCell h3 v, (Below.heap_setCell _ _ _ _ (fun e => h1 e.symm)).trans h.box, ⟨D, hD.same (Below.heap_setCell _ _ _ _ (fun e => h2 e.symm))⟩, h.ne, h.hB, h.hM, h.size, h.pos⟩
theorem Mov.setNew {B M : Nat} {w w' : World} (h : Mov B M w w') {b : Nat} (j : Nat) (v : Value) (hb : w.heap.size ≤ b) : Mov B M w (w'.setCell ⟨b, j, none⟩ v) :=
  h.trans' (fun k hk => Below.heap_setCell _ _ _ _ (by show k ≠ b; omega)) rfl rfl rfl (by simp [World.setCell])
theorem box6_4 {W : World} {b : Nat} {u0 u1 u2 u3 : Value} {t : TypeId} (h : W.heap[b]? = some (.cells #[u0, u1, u2, u3] t)) : W.heap[b]? = some (.cells #[u0, u1, u2, u3] t) ∧ W.cell? ⟨b, 0, none⟩ = some u0 ∧ W.cell? ⟨b, 1, none⟩ = some u1 ∧ W.cell? ⟨b, 2, none⟩ = some u2 ∧ W.cell? ⟨b, 3, none⟩ = some u3 := ⟨h, by simp [World.cell?, h], by simp [World.cell?, h], by simp [World.cell?, h], by simp [World.cell?, h]⟩
theorem info_parts6 (o : Option Rw) : ∃ n s p r, infoVal o = .agg #[.string n, .int .i64 s, .string p, .string r] := by
  cases o
  · exact ⟨_, _, _, _, rfl⟩
  · exact ⟨_, _, _, _, rfl⟩
theorem infos_of {w0 : World} (hL : Spaces w0) {B M : Nat} {T : TypeId} {rest : List Value} {r : RV} {w : World} (h : RdAt w0 B M T rest r w) (c : Int) (hc : 0 ≤ c ∧ c < 256) :
    Calls Tryz.prog 124 #[.map (some M), .int .i64 c] w fun e w' => e = .returned (.tuple #[infoVal (byCode c), .bool (byCode c).isSome]) ∧ RdAt w0 B M T rest r w' ∧ Mov B M w w' := by
  obtain ⟨D, hD⟩ := h.infos
  have law : Keyed Tryz.prog 3 := int_keyed Tryz.underlying3
  have hz : infoRead (H := Unit) (.agg #[.string ⟨#[]⟩, .int .i64 0, .string ⟨#[]⟩, .string ⟨#[]⟩]) = some (infoD ⟨#[]⟩ 0 ⟨#[]⟩ ⟨#[]⟩, []) := rfl
  have hkey := keyOf_int_mk Tryz.underlying3 (WalkArith.wf_i64 (⟨by omega, by omega⟩ : -9223372036854775808 ≤ c ∧ c ≤ 9223372036854775807))
  have h1 := h.alloc (.cells #[.string ⟨#[]⟩, .int .i64 0, .string ⟨#[]⟩, .string ⟨#[]⟩] 177)
  have ho := hD.own.alloc (.cells #[.string ⟨#[]⟩, .int .i64 0, .string ⟨#[]⟩, .string ⟨#[]⟩] 177)
  obtain ⟨v, vp, hlk, hv⟩ := ho.look_ok law Tryz.underlying96 (info_zero _) hz hkey
  by_cases hh : Maps.has D (.int .i64 c) = true
  · obtain ⟨R, hR, hat⟩ := hD.known c hh
    rw [hh] at hlk
    rw [show infoD ⟨#[]⟩ 0 ⟨#[]⟩ ⟨#[]⟩ = zinfo from rfl, hat] at hv
    have e := infoRead_inv hv
    subst e
    rw [hR]
    obtain ⟨vn, vs, vq, vr, hI⟩ := info_parts6 (some R)
    rw [show (Value.agg #[.string R.name, .int .i64 R.shape, .string R.params, .string R.results]) = infoVal (some R) from rfl, hI] at hlk
    rw [hI]
    clear hI hv hat hD ho h1
    go_enter Tryz.func124, Tryz.ntmps124
    go_wp2
    refine bodyPost_ret (v := .tuple #[.agg #[.string vn, .int .i64 vs, .string vq, .string vr], .bool true]) ?_ rfl ?_
    · rw [results_cell_tmp rfl]; go_simp
    · exact ⟨rfl, (h.alloc _).alloc _, ((Mov.refl _ _ _).alloc _).alloc _⟩
  · have hh : Maps.has D (.int .i64 c) = false := by simpa using hh
    rw [hh] at hlk
    have hat : D.atKey (.int .i64 c) (infoD ⟨#[]⟩ 0 ⟨#[]⟩ ⟨#[]⟩) = infoD ⟨#[]⟩ 0 ⟨#[]⟩ ⟨#[]⟩ := atKey_of_not_has hh _
    rw [hat] at hv
    have e := infoRead_inv hv
    subst e
    have hBa := (Below.refl w.heap.size w).alloc (Nat.le_refl _) (.cells #[.string ⟨#[]⟩, .int .i64 0, .string ⟨#[]⟩, .string ⟨#[]⟩] 177)
    have hBb := hBa.alloc (by simp) (.cells #[.string ⟨#[]⟩, .int .i64 0, .string ⟨#[]⟩, .string ⟨#[]⟩] 177)
    have co := op_of c (by omega) (by omega) _ (hL.below (h.below.trans (hBb.mono h.below.size)))
    clear hv hat h1
    obtain ⟨vn, vs, vq, vr, hI⟩ := info_parts6 (byCode c)
    obtain ⟨ok, hok⟩ : ∃ ok, (byCode c).isSome = ok := ⟨_, rfl⟩
    rw [hI, hok] at co ⊢
    have HI := Lib.hid hI
    have HO := Lib.hid hok
    have hwi : w.heap.size < ((w.alloc (.cells #[.string ⟨#[]⟩, .int .i64 0, .string ⟨#[]⟩, .string ⟨#[]⟩] 177)).alloc (.cells #[.string ⟨#[]⟩, .int .i64 0, .string ⟨#[]⟩, .string ⟨#[]⟩] 177)).heap.size := by simp; omega
    have hbox : ((w.alloc (.cells #[.string ⟨#[]⟩, .int .i64 0, .string ⟨#[]⟩, .string ⟨#[]⟩] 177)).alloc (.cells #[.string ⟨#[]⟩, .int .i64 0, .string ⟨#[]⟩, .string ⟨#[]⟩] 177)).heap[w.heap.size]? = some (.cells #[.string ⟨#[]⟩, .int .i64 0, .string ⟨#[]⟩, .string ⟨#[]⟩] 177) := by rw [Below.heap_alloc _ _ _ (by simp)]; exact heap_alloc_new _ _
    have HB := Lib.hid hBb
    clear hI hok ho hBa hBb
    cases ok with
    | false =>
      go_enter Tryz.func124, Tryz.ntmps124
      go_wp2_with (go_at_call 160; (with_reducible refine co.mono ?_); rintro e w3 ⟨rfl, hb3⟩; have hbx := (hb3.block _ hwi).trans hbox; obtain ⟨_, k0, k1, k2, k3⟩ := box6_4 hbx; have hlt3 : w.heap.size < w3.heap.size := Nat.lt_of_lt_of_le hwi hb3.size; have z := fun j => (by simp [World.frozen?, hbx] : w3.frozen? ⟨w.heap.size, j, none⟩ = false); have z0 := z 0; have z1 := z 1; have z2 := z 2; have z3 := z 3; clear z; have q0 := fun o => (World.cell?_alloc_lt w3 o (⟨w.heap.size, 0, none⟩ : Addr) hlt3).trans k0; have q1 := fun o => (World.cell?_alloc_lt w3 o (⟨w.heap.size, 1, none⟩ : Addr) hlt3).trans k1; have q2 := fun o => (World.cell?_alloc_lt w3 o (⟨w.heap.size, 2, none⟩ : Addr) hlt3).trans k2; have q3 := fun o => (World.cell?_alloc_lt w3 o (⟨w.heap.size, 3, none⟩ : Addr) hlt3).trans k3)
      refine bodyPost_ret (v := .tuple #[.agg #[.string vn, .int .i64 vs, .string vq, .string vr], .bool false]) ?_ rfl ?_
      · rw [results_cell_tmp rfl]; go_simp
      · have hW : ∀ W', Below w.heap.size w W' → RdAt w0 B M T rest r W' ∧ Mov B M w W' := fun W' hW => ⟨h.at' hW, Mov.of_below hW⟩
        have hB3 := HB.out.trans (hb3.mono HB.out.size)
        refine ⟨rfl, hW _ ?_⟩
        exact ((((hB3.setCell (Nat.le_refl _) _).setCell (Nat.le_refl _) _).setCell (Nat.le_refl _) _).setCell (Nat.le_refl _) _).alloc (by simp [World.setCell]; omega) _
    | true =>
      obtain ⟨R, hR⟩ : ∃ R, byCode c = some R := by
        cases hq : byCode c with
        | none => have := HO.out; rw [hq] at this; cases this
        | some R => exact ⟨R, rfl⟩
      have hI2 := HI.out
      rw [hR] at hI2
      have hinf : infoRead (H := Unit) (.agg #[.string vn, .int .i64 vs, .string vq, .string vr]) = some (infoD R.name R.shape R.params R.results, []) := by rw [← hI2]; rfl
      have HR := Lib.hid hR
      clear hI2 hR
      go_enter Tryz.func124, Tryz.ntmps124
      go_wp2_with (go_at_call 160; (with_reducible refine co.mono ?_); rintro e w3 ⟨rfl, hb3⟩; have hB3 := HB.out.trans (hb3.mono HB.out.size); have hMs := (ownsMap_in hD.own); have ho3 := (ownsMap_same hD.own (hB3.block M hMs)).alloc (.cells #[.string vn, .int .i64 vs, .string vq, .string vr] 177); obtain ⟨w4, hu, hown4, hg4⟩ := ho3.update law Tryz.underlying96 (by have := cnt6_le (fun c => Maps.has D (.int .i64 (c : Int))) 256; unfold maxLen; omega) hkey hinf; have hbx := (hb3.block _ hwi).trans hbox; have hlt3 : w.heap.size < w3.heap.size := Nat.lt_of_lt_of_le hwi hb3.size; have hne0 : w.heap.size ≠ M := (by omega); have hne3 : w3.heap.size ≠ M := (by omega); have hbx4 := (hg4.block w.heap.size (by simp; omega) (fun e => hne0 (by injection e))).trans ((Below.heap_alloc _ _ _ hlt3).trans hbx); have hin4 := (hg4.block w3.heap.size (by simp) (fun e => hne3 (by injection e))).trans (heap_alloc_new w3 _); obtain ⟨_, k0, k1, k2, k3⟩ := box6_4 hbx4; obtain ⟨_, i0, i1, i2, i3⟩ := box6_4 hin4; have z := fun j => (by simp [World.frozen?, hbx4] : w4.frozen? ⟨w.heap.size, j, none⟩ = false); have z0 := z 0; have z1 := z 1; have z2 := z 2; have z3 := z 3; clear z hbx hbx4 hin4 ho3)
      refine bodyPost_ret (v := .tuple #[.agg #[.string vn, .int .i64 vs, .string vq, .string vr], .bool true]) ?_ rfl ?_
      · rw [results_cell_tmp rfl]; go_simp
      · have hlt := h.lt
        have hw0 := h.below.size
        have h4 : RdAt w0 B M T rest r w4 := (h.at' (hB3.alloc (Nat.le_of_lt hlt3) _)).map hg4 (hD.put HR.out hh hown4)
        have m4 : Mov B M w w4 := (Mov.of_below (hB3.alloc (Nat.le_of_lt hlt3) _)).map hg4
        have n1 : w.heap.size ≠ B := by omega
        have n2 : w.heap.size ≠ M := by omega
        exact ⟨rfl, (((h4.other 0 _ n1 n2 hw0).other 1 _ n1 n2 hw0).other 2 _ n1 n2 hw0).other 3 _ n1 n2 hw0, (((m4.setNew 0 _ (Nat.le_refl _)).setNew 1 _ (Nat.le_refl _)).setNew 2 _ (Nat.le_refl _)).setNew 3 _ (Nat.le_refl _)⟩
end Go.Proofs.YtdinpakclmnacaaGreatDoor
namespace Go.Proofs.YtdinpakclmnacaaGreatDoor
set_option maxRecDepth 100000
set_option maxHeartbeats 16000000
open Go.RowKit
set_option linter.unusedVariables false
structure RunV where
  many : Nat
  kind : UInt8
def RunV.row (x : RunV) : List Value := [.int .i64 x.many, .int .u8 x.kind.toNat]
def RunV.val (x : RunV) : Value := .agg #[.int .i64 x.many, .int .u8 x.kind.toNat]
def intRow (n : Int) : List Value := [.int .i64 n]
def intVal (n : Int) : Value := .int .i64 n
def Puts {α : Type} (g : Nat) (val : α → Value) (ok : World → α → Prop) (F : List UInt8 → α → List UInt8) (w0 : World) : Prop :=
  ∀ (x : α) (W : World) (base : Nat) (v : Value) (d : List UInt8), Below w0.heap.size w0 W → w0.heap.size ≤ base → base ≤ W.heap.size → Own W base 5 v d → d.length ≤ 1048576 → ok W x →
    Calls Tryz.prog g #[v, val x] W (Adds5 W base (F d x))
structure Puttable {α : Type} (c : Nat) (row : α → List Value) (ok : World → α → Prop) (F : List UInt8 → α → List UInt8) (K : Nat) (w0 : World) (p : Option Addr) (n : Nat) (l : List α) : Prop where
  len : l.length = n
  most : n ≤ 281474976710656
  rows : RowsAt w0 p c row l
  fine : ∀ x ∈ l, ∀ W, Below w0.heap.size w0 W → ok W x
  adds : ∀ x ∈ l, Adds F K x
  few : K ≤ 1000000000
theorem each_TyV {g : Nat} {F : List UInt8 → TyV → List UInt8} {ok : World → TyV → Prop} {w0 : World} {K : Nat} (h : Puts g TyV.val ok F w0) (eg : ∀ args w, (callFunc g args).run Tryz.prog w = .ok (.enter g args) w) (p : Option Addr) (n cap : Nat) (l : List TyV) (H : Puttable 2 TyV.row ok F K w0 p n l) (base : Nat) (hb0 : w0.heap.size ≤ base) (w : World) (hB0 : Below w0.heap.size w0 w) (hb : base ≤ w.heap.size) (v : Value) (d : List UInt8) (hown : Own w base 5 v d) (hd : d.length ≤ 1002000000) :
    Calls Tryz.prog 239 #[v, .slice p n cap, .func (.func g) #[] #[]] w (Adds5 w base (eachC F d l)) := by
  obtain ⟨R, hR⟩ : ∃ R, R = eachC F d l := ⟨_, rfl⟩
  rw [← hR]
  have HR : Hid (R = eachC F d (l.drop 0)) := Lib.hid hR
  have HN := Lib.hid H.len
  have hm := H.most
  have hKb := H.few
  have hs0 := hB0.size
  clear hR
  obtain ⟨vp, vc, rfl⟩ := hown.any
  go_enter Tryz.func239, Tryz.ntmps239
  go_wp2
  go_loopw [0, 11] (fun u i wr => ∃ (k : Nat) (e : List UInt8), k ≤ n ∧ i = .int .i64 k ∧ Own wr base 5 u e ∧ Near base w wr ∧ e.length ≤ 1002000000 ∧ Hid (R = eachC F e (l.drop k))) (fun _ i _ => n - (intOf i).toNat)
  case atStart => exact ⟨0, d, by omega, rfl, hown, Near.refl _ _, by omega, HR⟩
  case round =>
    clear HR hown hd
    obtain ⟨k, e, hk, rfl, hown', hN, hel, HK⟩ := hrel
    obtain ⟨up, uc, rfl⟩ := hown'.any
    obtain ⟨en, hen⟩ : ∃ en, e.length = en := ⟨_, rfl⟩
    have hbr := Nat.le_trans hb hN.size
    by_cases hlt : k < n
    · have hlt' : k < l.length := by have := HN.out; omega
      have hD := HK.out
      rw [List.drop_eq_getElem_cons hlt', eachC_cons] at hD
      have hBw := hB0.trans ((hN.below hb).mono hb0)
      have hrows := H.rows.below hBw (Nat.le_refl _)
      obtain ⟨b, o, hp, hbb, e0⟩ := hrows k hlt' 0 _ rfl
      subst hp
      have e1 := hrows.cell hlt' 1 rfl
      by_cases hgo : (1048576 : Int) < en
      · rw [if_pos (by omega)] at hD
        have HD := Lib.hid hD
        have HE := Lib.hid hen
        rw [hen]
        rw [hen] at hown'
        clear hD hrows h H hen HK
        generalize l[k] = x at *
        obtain ⟨x0, x1⟩ := x
        simp only [Nat.add_zero] at e0
        go_wp2
        go_ret
        exact ⟨_, rfl, by rw [HD.out]; exact hown'.alloc _, hN.alloc _⟩
      · rw [if_neg (by omega)] at hD
        have hsw := Nat.le_trans hs0 hN.size
        have cq := fun (W : World) (hW : Below wr.heap.size wr W) => h l[k] W base _ e (hBw.trans (hW.mono hsw)) hb0 (Nat.le_trans hbr hW.size) (hown'.below hW) (by omega) (H.fine _ (List.getElem_mem hlt') W (hBw.trans (hW.mono hsw)))
        have hlen := H.adds _ (List.getElem_mem hlt') e (by omega)
        have HD := Lib.hid hD
        have HE := Lib.hid hen
        rw [hen]
        rw [hen] at cq
        clear hD hrows h H hen HK hown'
        generalize l[k] = x at *
        obtain ⟨r, hr⟩ : ∃ r, r = F e x := ⟨_, rfl⟩
        rw [← hr] at cq hlen
        have HF := Lib.hid hr
        clear hr
        obtain ⟨x0, x1⟩ := x
        simp only [Nat.add_zero, TyV.val] at e0 cq
        go_wp2_with fail
        refine (cq _ ?_).mono ?_
        · exact (Below.refl _ wr).alloc (Nat.le_refl _) _
        rintro e' w1 ⟨v1, rfl, h1, n1⟩
        dsimp only
        go_wp2
        go_roundw
        case rel => exact ⟨k + 1, r, by omega, by go_num, h1, (hN.alloc _).trans n1, by omega, Lib.hid (by rw [HD.out, HF.out])⟩
        case measure => simp [intOf]; omega
    · have hk' : l.length ≤ k := by have := HN.out; omega
      have hD := HK.out
      rw [List.drop_eq_nil_of_le hk'] at hD
      have HD : Hid (R = e) := Lib.hid hD
      have HE := Lib.hid hen
      rw [hen]
      rw [hen] at hown'
      clear hD hk' hen HK
      go_wp2
      go_ret
      exact ⟨_, rfl, by rw [HD.out]; exact hown', hN⟩
theorem list_TyV {g : Nat} {F : List UInt8 → TyV → List UInt8} {ok : World → TyV → Prop} {w0 : World} {K : Nat} (h : Puts g TyV.val ok F w0) (eg : ∀ args w, (callFunc g args).run Tryz.prog w = .ok (.enter g args) w) (p : Option Addr) (n cap : Nat) (l : List TyV) (H : Puttable 2 TyV.row ok F K w0 p n l) (base : Nat) (hb0 : w0.heap.size ≤ base) (w : World) (hB0 : Below w0.heap.size w0 w) (hb : base ≤ w.heap.size) (v : Value) (d : List UInt8) (hown : Own w base 5 v d) (hd : d.length ≤ 1001000000) :
    Calls Tryz.prog 196 #[v, .slice p n cap, .func (.func g) #[] #[]] w (Adds5 w base (listC F d l)) := by
  have hm := H.most
  have c1 := fun hx hy => number_of base v d (n : Int) w hown hb hx (by omega) hy
  have c2 := fun (w1 : World) (v1 : Value) (h1 : Own w1 base 5 v1 (numC d n)) (n1 : Near base w w1) hl => each_TyV h eg p n cap l H base hb0 w1 (hB0.trans ((n1.below hb).mono hb0)) (Nat.le_trans hb n1.size) v1 _ h1 hl
  have hq : eachC F (numC d n) l = listC F d l := by unfold listC; rw [H.len]
  have hl := num_len (b := d) (n := (n : Int)) (by omega) (by omega)
  have HQ := Lib.hid hq
  have c1 := c1 (by omega) (by omega)
  clear hq h H hown
  go_enter Tryz.func196, Tryz.ntmps196
  go_wp2_with (first
    | (go_at_call 137; (with_reducible refine c1.mono ?_); rintro e w1 ⟨v1, rfl, h1, n1⟩)
    | (go_at_call 239; (with_reducible refine (c2 _ _ h1 n1 (by omega)).mono ?_); rintro e w2 ⟨v2, rfl, h2, n2⟩))
  go_ret
  exact ⟨_, rfl, by rw [← HQ.out]; exact h2, n1.trans n2⟩
theorem each_FnV {g : Nat} {F : List UInt8 → FnV → List UInt8} {ok : World → FnV → Prop} {w0 : World} {K : Nat} (h : Puts g FnV.val ok F w0) (eg : ∀ args w, (callFunc g args).run Tryz.prog w = .ok (.enter g args) w) (p : Option Addr) (n cap : Nat) (l : List FnV) (H : Puttable 3 FnV.row ok F K w0 p n l) (base : Nat) (hb0 : w0.heap.size ≤ base) (w : World) (hB0 : Below w0.heap.size w0 w) (hb : base ≤ w.heap.size) (v : Value) (d : List UInt8) (hown : Own w base 5 v d) (hd : d.length ≤ 1002000000) :
    Calls Tryz.prog 240 #[v, .slice p n cap, .func (.func g) #[] #[]] w (Adds5 w base (eachC F d l)) := by
  obtain ⟨R, hR⟩ : ∃ R, R = eachC F d l := ⟨_, rfl⟩
  rw [← hR]
  have HR : Hid (R = eachC F d (l.drop 0)) := Lib.hid hR
  have HN := Lib.hid H.len
  have hm := H.most
  have hKb := H.few
  have hs0 := hB0.size
  clear hR
  obtain ⟨vp, vc, rfl⟩ := hown.any
  go_enter Tryz.func240, Tryz.ntmps240
  go_wp2
  go_loopw [0, 11] (fun u i wr => ∃ (k : Nat) (e : List UInt8), k ≤ n ∧ i = .int .i64 k ∧ Own wr base 5 u e ∧ Near base w wr ∧ e.length ≤ 1002000000 ∧ Hid (R = eachC F e (l.drop k))) (fun _ i _ => n - (intOf i).toNat)
  case atStart => exact ⟨0, d, by omega, rfl, hown, Near.refl _ _, by omega, HR⟩
  case round =>
    clear HR hown hd
    obtain ⟨k, e, hk, rfl, hown', hN, hel, HK⟩ := hrel
    obtain ⟨up, uc, rfl⟩ := hown'.any
    obtain ⟨en, hen⟩ : ∃ en, e.length = en := ⟨_, rfl⟩
    have hbr := Nat.le_trans hb hN.size
    by_cases hlt : k < n
    · have hlt' : k < l.length := by have := HN.out; omega
      have hD := HK.out
      rw [List.drop_eq_getElem_cons hlt', eachC_cons] at hD
      have hBw := hB0.trans ((hN.below hb).mono hb0)
      have hrows := H.rows.below hBw (Nat.le_refl _)
      obtain ⟨b, o, hp, hbb, e0⟩ := hrows k hlt' 0 _ rfl
      subst hp
      have e1 := hrows.cell hlt' 1 rfl
      have e2 := hrows.cell hlt' 2 rfl
      by_cases hgo : (1048576 : Int) < en
      · rw [if_pos (by omega)] at hD
        have HD := Lib.hid hD
        have HE := Lib.hid hen
        rw [hen]
        rw [hen] at hown'
        clear hD hrows h H hen HK
        generalize l[k] = x at *
        obtain ⟨x0, x1, x2, x3, x4⟩ := x
        simp only [Nat.add_zero] at e0
        go_wp2
        go_ret
        exact ⟨_, rfl, by rw [HD.out]; exact hown'.alloc _, hN.alloc _⟩
      · rw [if_neg (by omega)] at hD
        have hsw := Nat.le_trans hs0 hN.size
        have cq := fun (W : World) (hW : Below wr.heap.size wr W) => h l[k] W base _ e (hBw.trans (hW.mono hsw)) hb0 (Nat.le_trans hbr hW.size) (hown'.below hW) (by omega) (H.fine _ (List.getElem_mem hlt') W (hBw.trans (hW.mono hsw)))
        have hlen := H.adds _ (List.getElem_mem hlt') e (by omega)
        have HD := Lib.hid hD
        have HE := Lib.hid hen
        rw [hen]
        rw [hen] at cq
        clear hD hrows h H hen HK hown'
        generalize l[k] = x at *
        obtain ⟨r, hr⟩ : ∃ r, r = F e x := ⟨_, rfl⟩
        rw [← hr] at cq hlen
        have HF := Lib.hid hr
        clear hr
        obtain ⟨x0, x1, x2, x3, x4⟩ := x
        simp only [Nat.add_zero, FnV.val] at e0 cq
        go_wp2_with fail
        refine (cq _ ?_).mono ?_
        · exact (Below.refl _ wr).alloc (Nat.le_refl _) _
        rintro e' w1 ⟨v1, rfl, h1, n1⟩
        dsimp only
        go_wp2
        go_roundw
        case rel => exact ⟨k + 1, r, by omega, by go_num, h1, (hN.alloc _).trans n1, by omega, Lib.hid (by rw [HD.out, HF.out])⟩
        case measure => simp [intOf]; omega
    · have hk' : l.length ≤ k := by have := HN.out; omega
      have hD := HK.out
      rw [List.drop_eq_nil_of_le hk'] at hD
      have HD : Hid (R = e) := Lib.hid hD
      have HE := Lib.hid hen
      rw [hen]
      rw [hen] at hown'
      clear hD hk' hen HK
      go_wp2
      go_ret
      exact ⟨_, rfl, by rw [HD.out]; exact hown', hN⟩
theorem list_FnV {g : Nat} {F : List UInt8 → FnV → List UInt8} {ok : World → FnV → Prop} {w0 : World} {K : Nat} (h : Puts g FnV.val ok F w0) (eg : ∀ args w, (callFunc g args).run Tryz.prog w = .ok (.enter g args) w) (p : Option Addr) (n cap : Nat) (l : List FnV) (H : Puttable 3 FnV.row ok F K w0 p n l) (base : Nat) (hb0 : w0.heap.size ≤ base) (w : World) (hB0 : Below w0.heap.size w0 w) (hb : base ≤ w.heap.size) (v : Value) (d : List UInt8) (hown : Own w base 5 v d) (hd : d.length ≤ 1001000000) :
    Calls Tryz.prog 199 #[v, .slice p n cap, .func (.func g) #[] #[]] w (Adds5 w base (listC F d l)) := by
  have hm := H.most
  have c1 := fun hx hy => number_of base v d (n : Int) w hown hb hx (by omega) hy
  have c2 := fun (w1 : World) (v1 : Value) (h1 : Own w1 base 5 v1 (numC d n)) (n1 : Near base w w1) hl => each_FnV h eg p n cap l H base hb0 w1 (hB0.trans ((n1.below hb).mono hb0)) (Nat.le_trans hb n1.size) v1 _ h1 hl
  have hq : eachC F (numC d n) l = listC F d l := by unfold listC; rw [H.len]
  have hl := num_len (b := d) (n := (n : Int)) (by omega) (by omega)
  have HQ := Lib.hid hq
  have c1 := c1 (by omega) (by omega)
  clear hq h H hown
  go_enter Tryz.func199, Tryz.ntmps199
  go_wp2_with (first
    | (go_at_call 137; (with_reducible refine c1.mono ?_); rintro e w1 ⟨v1, rfl, h1, n1⟩)
    | (go_at_call 240; (with_reducible refine (c2 _ _ h1 n1 (by omega)).mono ?_); rintro e w2 ⟨v2, rfl, h2, n2⟩))
  go_ret
  exact ⟨_, rfl, by rw [← HQ.out]; exact h2, n1.trans n2⟩
theorem each_MemV {g : Nat} {F : List UInt8 → MemV → List UInt8} {ok : World → MemV → Prop} {w0 : World} {K : Nat} (h : Puts g MemV.val ok F w0) (eg : ∀ args w, (callFunc g args).run Tryz.prog w = .ok (.enter g args) w) (p : Option Addr) (n cap : Nat) (l : List MemV) (H : Puttable 2 MemV.row ok F K w0 p n l) (base : Nat) (hb0 : w0.heap.size ≤ base) (w : World) (hB0 : Below w0.heap.size w0 w) (hb : base ≤ w.heap.size) (v : Value) (d : List UInt8) (hown : Own w base 5 v d) (hd : d.length ≤ 1002000000) :
    Calls Tryz.prog 241 #[v, .slice p n cap, .func (.func g) #[] #[]] w (Adds5 w base (eachC F d l)) := by
  obtain ⟨R, hR⟩ : ∃ R, R = eachC F d l := ⟨_, rfl⟩
  rw [← hR]
  have HR : Hid (R = eachC F d (l.drop 0)) := Lib.hid hR
  have HN := Lib.hid H.len
  have hm := H.most
  have hKb := H.few
  have hs0 := hB0.size
  clear hR
  obtain ⟨vp, vc, rfl⟩ := hown.any
  go_enter Tryz.func241, Tryz.ntmps241
  go_wp2
  go_loopw [0, 11] (fun u i wr => ∃ (k : Nat) (e : List UInt8), k ≤ n ∧ i = .int .i64 k ∧ Own wr base 5 u e ∧ Near base w wr ∧ e.length ≤ 1002000000 ∧ Hid (R = eachC F e (l.drop k))) (fun _ i _ => n - (intOf i).toNat)
  case atStart => exact ⟨0, d, by omega, rfl, hown, Near.refl _ _, by omega, HR⟩
  case round =>
    clear HR hown hd
    obtain ⟨k, e, hk, rfl, hown', hN, hel, HK⟩ := hrel
    obtain ⟨up, uc, rfl⟩ := hown'.any
    obtain ⟨en, hen⟩ : ∃ en, e.length = en := ⟨_, rfl⟩
    have hbr := Nat.le_trans hb hN.size
    by_cases hlt : k < n
    · have hlt' : k < l.length := by have := HN.out; omega
      have hD := HK.out
      rw [List.drop_eq_getElem_cons hlt', eachC_cons] at hD
      have hBw := hB0.trans ((hN.below hb).mono hb0)
      have hrows := H.rows.below hBw (Nat.le_refl _)
      obtain ⟨b, o, hp, hbb, e0⟩ := hrows k hlt' 0 _ rfl
      subst hp
      have e1 := hrows.cell hlt' 1 rfl
      by_cases hgo : (1048576 : Int) < en
      · rw [if_pos (by omega)] at hD
        have HD := Lib.hid hD
        have HE := Lib.hid hen
        rw [hen]
        rw [hen] at hown'
        clear hD hrows h H hen HK
        generalize l[k] = x at *
        obtain ⟨x0, x1⟩ := x
        simp only [Nat.add_zero] at e0
        go_wp2
        go_ret
        exact ⟨_, rfl, by rw [HD.out]; exact hown'.alloc _, hN.alloc _⟩
      · rw [if_neg (by omega)] at hD
        have hsw := Nat.le_trans hs0 hN.size
        have cq := fun (W : World) (hW : Below wr.heap.size wr W) => h l[k] W base _ e (hBw.trans (hW.mono hsw)) hb0 (Nat.le_trans hbr hW.size) (hown'.below hW) (by omega) (H.fine _ (List.getElem_mem hlt') W (hBw.trans (hW.mono hsw)))
        have hlen := H.adds _ (List.getElem_mem hlt') e (by omega)
        have HD := Lib.hid hD
        have HE := Lib.hid hen
        rw [hen]
        rw [hen] at cq
        clear hD hrows h H hen HK hown'
        generalize l[k] = x at *
        obtain ⟨r, hr⟩ : ∃ r, r = F e x := ⟨_, rfl⟩
        rw [← hr] at cq hlen
        have HF := Lib.hid hr
        clear hr
        obtain ⟨x0, x1⟩ := x
        simp only [Nat.add_zero, MemV.val] at e0 cq
        go_wp2_with fail
        refine (cq _ ?_).mono ?_
        · exact (Below.refl _ wr).alloc (Nat.le_refl _) _
        rintro e' w1 ⟨v1, rfl, h1, n1⟩
        dsimp only
        go_wp2
        go_roundw
        case rel => exact ⟨k + 1, r, by omega, by go_num, h1, (hN.alloc _).trans n1, by omega, Lib.hid (by rw [HD.out, HF.out])⟩
        case measure => simp [intOf]; omega
    · have hk' : l.length ≤ k := by have := HN.out; omega
      have hD := HK.out
      rw [List.drop_eq_nil_of_le hk'] at hD
      have HD : Hid (R = e) := Lib.hid hD
      have HE := Lib.hid hen
      rw [hen]
      rw [hen] at hown'
      clear hD hk' hen HK
      go_wp2
      go_ret
      exact ⟨_, rfl, by rw [HD.out]; exact hown', hN⟩
theorem list_MemV {g : Nat} {F : List UInt8 → MemV → List UInt8} {ok : World → MemV → Prop} {w0 : World} {K : Nat} (h : Puts g MemV.val ok F w0) (eg : ∀ args w, (callFunc g args).run Tryz.prog w = .ok (.enter g args) w) (p : Option Addr) (n cap : Nat) (l : List MemV) (H : Puttable 2 MemV.row ok F K w0 p n l) (base : Nat) (hb0 : w0.heap.size ≤ base) (w : World) (hB0 : Below w0.heap.size w0 w) (hb : base ≤ w.heap.size) (v : Value) (d : List UInt8) (hown : Own w base 5 v d) (hd : d.length ≤ 1001000000) :
    Calls Tryz.prog 201 #[v, .slice p n cap, .func (.func g) #[] #[]] w (Adds5 w base (listC F d l)) := by
  have hm := H.most
  have c1 := fun hx hy => number_of base v d (n : Int) w hown hb hx (by omega) hy
  have c2 := fun (w1 : World) (v1 : Value) (h1 : Own w1 base 5 v1 (numC d n)) (n1 : Near base w w1) hl => each_MemV h eg p n cap l H base hb0 w1 (hB0.trans ((n1.below hb).mono hb0)) (Nat.le_trans hb n1.size) v1 _ h1 hl
  have hq : eachC F (numC d n) l = listC F d l := by unfold listC; rw [H.len]
  have hl := num_len (b := d) (n := (n : Int)) (by omega) (by omega)
  have HQ := Lib.hid hq
  have c1 := c1 (by omega) (by omega)
  clear hq h H hown
  go_enter Tryz.func201, Tryz.ntmps201
  go_wp2_with (first
    | (go_at_call 137; (with_reducible refine c1.mono ?_); rintro e w1 ⟨v1, rfl, h1, n1⟩)
    | (go_at_call 241; (with_reducible refine (c2 _ _ h1 n1 (by omega)).mono ?_); rintro e w2 ⟨v2, rfl, h2, n2⟩))
  go_ret
  exact ⟨_, rfl, by rw [← HQ.out]; exact h2, n1.trans n2⟩
theorem each_GlobV {g : Nat} {F : List UInt8 → GlobV → List UInt8} {ok : World → GlobV → Prop} {w0 : World} {K : Nat} (h : Puts g GlobV.val ok F w0) (eg : ∀ args w, (callFunc g args).run Tryz.prog w = .ok (.enter g args) w) (p : Option Addr) (n cap : Nat) (l : List GlobV) (H : Puttable 3 GlobV.row ok F K w0 p n l) (base : Nat) (hb0 : w0.heap.size ≤ base) (w : World) (hB0 : Below w0.heap.size w0 w) (hb : base ≤ w.heap.size) (v : Value) (d : List UInt8) (hown : Own w base 5 v d) (hd : d.length ≤ 1002000000) :
    Calls Tryz.prog 242 #[v, .slice p n cap, .func (.func g) #[] #[]] w (Adds5 w base (eachC F d l)) := by
  obtain ⟨R, hR⟩ : ∃ R, R = eachC F d l := ⟨_, rfl⟩
  rw [← hR]
  have HR : Hid (R = eachC F d (l.drop 0)) := Lib.hid hR
  have HN := Lib.hid H.len
  have hm := H.most
  have hKb := H.few
  have hs0 := hB0.size
  clear hR
  obtain ⟨vp, vc, rfl⟩ := hown.any
  go_enter Tryz.func242, Tryz.ntmps242
  go_wp2
  go_loopw [0, 11] (fun u i wr => ∃ (k : Nat) (e : List UInt8), k ≤ n ∧ i = .int .i64 k ∧ Own wr base 5 u e ∧ Near base w wr ∧ e.length ≤ 1002000000 ∧ Hid (R = eachC F e (l.drop k))) (fun _ i _ => n - (intOf i).toNat)
  case atStart => exact ⟨0, d, by omega, rfl, hown, Near.refl _ _, by omega, HR⟩
  case round =>
    clear HR hown hd
    obtain ⟨k, e, hk, rfl, hown', hN, hel, HK⟩ := hrel
    obtain ⟨up, uc, rfl⟩ := hown'.any
    obtain ⟨en, hen⟩ : ∃ en, e.length = en := ⟨_, rfl⟩
    have hbr := Nat.le_trans hb hN.size
    by_cases hlt : k < n
    · have hlt' : k < l.length := by have := HN.out; omega
      have hD := HK.out
      rw [List.drop_eq_getElem_cons hlt', eachC_cons] at hD
      have hBw := hB0.trans ((hN.below hb).mono hb0)
      have hrows := H.rows.below hBw (Nat.le_refl _)
      obtain ⟨b, o, hp, hbb, e0⟩ := hrows k hlt' 0 _ rfl
      subst hp
      have e1 := hrows.cell hlt' 1 rfl
      have e2 := hrows.cell hlt' 2 rfl
      by_cases hgo : (1048576 : Int) < en
      · rw [if_pos (by omega)] at hD
        have HD := Lib.hid hD
        have HE := Lib.hid hen
        rw [hen]
        rw [hen] at hown'
        clear hD hrows h H hen HK
        generalize l[k] = x at *
        obtain ⟨x0, x1, x2⟩ := x
        simp only [Nat.add_zero] at e0
        go_wp2
        go_ret
        exact ⟨_, rfl, by rw [HD.out]; exact hown'.alloc _, hN.alloc _⟩
      · rw [if_neg (by omega)] at hD
        have hsw := Nat.le_trans hs0 hN.size
        have cq := fun (W : World) (hW : Below wr.heap.size wr W) => h l[k] W base _ e (hBw.trans (hW.mono hsw)) hb0 (Nat.le_trans hbr hW.size) (hown'.below hW) (by omega) (H.fine _ (List.getElem_mem hlt') W (hBw.trans (hW.mono hsw)))
        have hlen := H.adds _ (List.getElem_mem hlt') e (by omega)
        have HD := Lib.hid hD
        have HE := Lib.hid hen
        rw [hen]
        rw [hen] at cq
        clear hD hrows h H hen HK hown'
        generalize l[k] = x at *
        obtain ⟨r, hr⟩ : ∃ r, r = F e x := ⟨_, rfl⟩
        rw [← hr] at cq hlen
        have HF := Lib.hid hr
        clear hr
        obtain ⟨x0, x1, x2⟩ := x
        simp only [Nat.add_zero, GlobV.val] at e0 cq
        go_wp2_with fail
        refine (cq _ ?_).mono ?_
        · exact (Below.refl _ wr).alloc (Nat.le_refl _) _
        rintro e' w1 ⟨v1, rfl, h1, n1⟩
        dsimp only
        go_wp2
        go_roundw
        case rel => exact ⟨k + 1, r, by omega, by go_num, h1, (hN.alloc _).trans n1, by omega, Lib.hid (by rw [HD.out, HF.out])⟩
        case measure => simp [intOf]; omega
    · have hk' : l.length ≤ k := by have := HN.out; omega
      have hD := HK.out
      rw [List.drop_eq_nil_of_le hk'] at hD
      have HD : Hid (R = e) := Lib.hid hD
      have HE := Lib.hid hen
      rw [hen]
      rw [hen] at hown'
      clear hD hk' hen HK
      go_wp2
      go_ret
      exact ⟨_, rfl, by rw [HD.out]; exact hown', hN⟩
theorem list_GlobV {g : Nat} {F : List UInt8 → GlobV → List UInt8} {ok : World → GlobV → Prop} {w0 : World} {K : Nat} (h : Puts g GlobV.val ok F w0) (eg : ∀ args w, (callFunc g args).run Tryz.prog w = .ok (.enter g args) w) (p : Option Addr) (n cap : Nat) (l : List GlobV) (H : Puttable 3 GlobV.row ok F K w0 p n l) (base : Nat) (hb0 : w0.heap.size ≤ base) (w : World) (hB0 : Below w0.heap.size w0 w) (hb : base ≤ w.heap.size) (v : Value) (d : List UInt8) (hown : Own w base 5 v d) (hd : d.length ≤ 1001000000) :
    Calls Tryz.prog 203 #[v, .slice p n cap, .func (.func g) #[] #[]] w (Adds5 w base (listC F d l)) := by
  have hm := H.most
  have c1 := fun hx hy => number_of base v d (n : Int) w hown hb hx (by omega) hy
  have c2 := fun (w1 : World) (v1 : Value) (h1 : Own w1 base 5 v1 (numC d n)) (n1 : Near base w w1) hl => each_GlobV h eg p n cap l H base hb0 w1 (hB0.trans ((n1.below hb).mono hb0)) (Nat.le_trans hb n1.size) v1 _ h1 hl
  have hq : eachC F (numC d n) l = listC F d l := by unfold listC; rw [H.len]
  have hl := num_len (b := d) (n := (n : Int)) (by omega) (by omega)
  have HQ := Lib.hid hq
  have c1 := c1 (by omega) (by omega)
  clear hq h H hown
  go_enter Tryz.func203, Tryz.ntmps203
  go_wp2_with (first
    | (go_at_call 137; (with_reducible refine c1.mono ?_); rintro e w1 ⟨v1, rfl, h1, n1⟩)
    | (go_at_call 242; (with_reducible refine (c2 _ _ h1 n1 (by omega)).mono ?_); rintro e w2 ⟨v2, rfl, h2, n2⟩))
  go_ret
  exact ⟨_, rfl, by rw [← HQ.out]; exact h2, n1.trans n2⟩
theorem each_ExpV {g : Nat} {F : List UInt8 → ExpV → List UInt8} {ok : World → ExpV → Prop} {w0 : World} {K : Nat} (h : Puts g ExpV.val ok F w0) (eg : ∀ args w, (callFunc g args).run Tryz.prog w = .ok (.enter g args) w) (p : Option Addr) (n cap : Nat) (l : List ExpV) (H : Puttable 3 ExpV.row ok F K w0 p n l) (base : Nat) (hb0 : w0.heap.size ≤ base) (w : World) (hB0 : Below w0.heap.size w0 w) (hb : base ≤ w.heap.size) (v : Value) (d : List UInt8) (hown : Own w base 5 v d) (hd : d.length ≤ 1002000000) :
    Calls Tryz.prog 243 #[v, .slice p n cap, .func (.func g) #[] #[]] w (Adds5 w base (eachC F d l)) := by
  obtain ⟨R, hR⟩ : ∃ R, R = eachC F d l := ⟨_, rfl⟩
  rw [← hR]
  have HR : Hid (R = eachC F d (l.drop 0)) := Lib.hid hR
  have HN := Lib.hid H.len
  have hm := H.most
  have hKb := H.few
  have hs0 := hB0.size
  clear hR
  obtain ⟨vp, vc, rfl⟩ := hown.any
  go_enter Tryz.func243, Tryz.ntmps243
  go_wp2
  go_loopw [0, 11] (fun u i wr => ∃ (k : Nat) (e : List UInt8), k ≤ n ∧ i = .int .i64 k ∧ Own wr base 5 u e ∧ Near base w wr ∧ e.length ≤ 1002000000 ∧ Hid (R = eachC F e (l.drop k))) (fun _ i _ => n - (intOf i).toNat)
  case atStart => exact ⟨0, d, by omega, rfl, hown, Near.refl _ _, by omega, HR⟩
  case round =>
    clear HR hown hd
    obtain ⟨k, e, hk, rfl, hown', hN, hel, HK⟩ := hrel
    obtain ⟨up, uc, rfl⟩ := hown'.any
    obtain ⟨en, hen⟩ : ∃ en, e.length = en := ⟨_, rfl⟩
    have hbr := Nat.le_trans hb hN.size
    by_cases hlt : k < n
    · have hlt' : k < l.length := by have := HN.out; omega
      have hD := HK.out
      rw [List.drop_eq_getElem_cons hlt', eachC_cons] at hD
      have hBw := hB0.trans ((hN.below hb).mono hb0)
      have hrows := H.rows.below hBw (Nat.le_refl _)
      obtain ⟨b, o, hp, hbb, e0⟩ := hrows k hlt' 0 _ rfl
      subst hp
      have e1 := hrows.cell hlt' 1 rfl
      have e2 := hrows.cell hlt' 2 rfl
      by_cases hgo : (1048576 : Int) < en
      · rw [if_pos (by omega)] at hD
        have HD := Lib.hid hD
        have HE := Lib.hid hen
        rw [hen]
        rw [hen] at hown'
        clear hD hrows h H hen HK
        generalize l[k] = x at *
        obtain ⟨x0, x1, x2⟩ := x
        simp only [Nat.add_zero] at e0
        go_wp2
        go_ret
        exact ⟨_, rfl, by rw [HD.out]; exact hown'.alloc _, hN.alloc _⟩
      · rw [if_neg (by omega)] at hD
        have hsw := Nat.le_trans hs0 hN.size
        have cq := fun (W : World) (hW : Below wr.heap.size wr W) => h l[k] W base _ e (hBw.trans (hW.mono hsw)) hb0 (Nat.le_trans hbr hW.size) (hown'.below hW) (by omega) (H.fine _ (List.getElem_mem hlt') W (hBw.trans (hW.mono hsw)))
        have hlen := H.adds _ (List.getElem_mem hlt') e (by omega)
        have HD := Lib.hid hD
        have HE := Lib.hid hen
        rw [hen]
        rw [hen] at cq
        clear hD hrows h H hen HK hown'
        generalize l[k] = x at *
        obtain ⟨r, hr⟩ : ∃ r, r = F e x := ⟨_, rfl⟩
        rw [← hr] at cq hlen
        have HF := Lib.hid hr
        clear hr
        obtain ⟨x0, x1, x2⟩ := x
        simp only [Nat.add_zero, ExpV.val] at e0 cq
        go_wp2_with fail
        refine (cq _ ?_).mono ?_
        · exact (Below.refl _ wr).alloc (Nat.le_refl _) _
        rintro e' w1 ⟨v1, rfl, h1, n1⟩
        dsimp only
        go_wp2
        go_roundw
        case rel => exact ⟨k + 1, r, by omega, by go_num, h1, (hN.alloc _).trans n1, by omega, Lib.hid (by rw [HD.out, HF.out])⟩
        case measure => simp [intOf]; omega
    · have hk' : l.length ≤ k := by have := HN.out; omega
      have hD := HK.out
      rw [List.drop_eq_nil_of_le hk'] at hD
      have HD : Hid (R = e) := Lib.hid hD
      have HE := Lib.hid hen
      rw [hen]
      rw [hen] at hown'
      clear hD hk' hen HK
      go_wp2
      go_ret
      exact ⟨_, rfl, by rw [HD.out]; exact hown', hN⟩
theorem list_ExpV {g : Nat} {F : List UInt8 → ExpV → List UInt8} {ok : World → ExpV → Prop} {w0 : World} {K : Nat} (h : Puts g ExpV.val ok F w0) (eg : ∀ args w, (callFunc g args).run Tryz.prog w = .ok (.enter g args) w) (p : Option Addr) (n cap : Nat) (l : List ExpV) (H : Puttable 3 ExpV.row ok F K w0 p n l) (base : Nat) (hb0 : w0.heap.size ≤ base) (w : World) (hB0 : Below w0.heap.size w0 w) (hb : base ≤ w.heap.size) (v : Value) (d : List UInt8) (hown : Own w base 5 v d) (hd : d.length ≤ 1001000000) :
    Calls Tryz.prog 206 #[v, .slice p n cap, .func (.func g) #[] #[]] w (Adds5 w base (listC F d l)) := by
  have hm := H.most
  have c1 := fun hx hy => number_of base v d (n : Int) w hown hb hx (by omega) hy
  have c2 := fun (w1 : World) (v1 : Value) (h1 : Own w1 base 5 v1 (numC d n)) (n1 : Near base w w1) hl => each_ExpV h eg p n cap l H base hb0 w1 (hB0.trans ((n1.below hb).mono hb0)) (Nat.le_trans hb n1.size) v1 _ h1 hl
  have hq : eachC F (numC d n) l = listC F d l := by unfold listC; rw [H.len]
  have hl := num_len (b := d) (n := (n : Int)) (by omega) (by omega)
  have HQ := Lib.hid hq
  have c1 := c1 (by omega) (by omega)
  clear hq h H hown
  go_enter Tryz.func206, Tryz.ntmps206
  go_wp2_with (first
    | (go_at_call 137; (with_reducible refine c1.mono ?_); rintro e w1 ⟨v1, rfl, h1, n1⟩)
    | (go_at_call 243; (with_reducible refine (c2 _ _ h1 n1 (by omega)).mono ?_); rintro e w2 ⟨v2, rfl, h2, n2⟩))
  go_ret
  exact ⟨_, rfl, by rw [← HQ.out]; exact h2, n1.trans n2⟩
theorem each_DatV {g : Nat} {F : List UInt8 → DatV → List UInt8} {ok : World → DatV → Prop} {w0 : World} {K : Nat} (h : Puts g DatV.val ok F w0) (eg : ∀ args w, (callFunc g args).run Tryz.prog w = .ok (.enter g args) w) (p : Option Addr) (n cap : Nat) (l : List DatV) (H : Puttable 2 DatV.row ok F K w0 p n l) (base : Nat) (hb0 : w0.heap.size ≤ base) (w : World) (hB0 : Below w0.heap.size w0 w) (hb : base ≤ w.heap.size) (v : Value) (d : List UInt8) (hown : Own w base 5 v d) (hd : d.length ≤ 1002000000) :
    Calls Tryz.prog 245 #[v, .slice p n cap, .func (.func g) #[] #[]] w (Adds5 w base (eachC F d l)) := by
  obtain ⟨R, hR⟩ : ∃ R, R = eachC F d l := ⟨_, rfl⟩
  rw [← hR]
  have HR : Hid (R = eachC F d (l.drop 0)) := Lib.hid hR
  have HN := Lib.hid H.len
  have hm := H.most
  have hKb := H.few
  have hs0 := hB0.size
  clear hR
  obtain ⟨vp, vc, rfl⟩ := hown.any
  go_enter Tryz.func245, Tryz.ntmps245
  go_wp2
  go_loopw [0, 11] (fun u i wr => ∃ (k : Nat) (e : List UInt8), k ≤ n ∧ i = .int .i64 k ∧ Own wr base 5 u e ∧ Near base w wr ∧ e.length ≤ 1002000000 ∧ Hid (R = eachC F e (l.drop k))) (fun _ i _ => n - (intOf i).toNat)
  case atStart => exact ⟨0, d, by omega, rfl, hown, Near.refl _ _, by omega, HR⟩
  case round =>
    clear HR hown hd
    obtain ⟨k, e, hk, rfl, hown', hN, hel, HK⟩ := hrel
    obtain ⟨up, uc, rfl⟩ := hown'.any
    obtain ⟨en, hen⟩ : ∃ en, e.length = en := ⟨_, rfl⟩
    have hbr := Nat.le_trans hb hN.size
    by_cases hlt : k < n
    · have hlt' : k < l.length := by have := HN.out; omega
      have hD := HK.out
      rw [List.drop_eq_getElem_cons hlt', eachC_cons] at hD
      have hBw := hB0.trans ((hN.below hb).mono hb0)
      have hrows := H.rows.below hBw (Nat.le_refl _)
      obtain ⟨b, o, hp, hbb, e0⟩ := hrows k hlt' 0 _ rfl
      subst hp
      have e1 := hrows.cell hlt' 1 rfl
      by_cases hgo : (1048576 : Int) < en
      · rw [if_pos (by omega)] at hD
        have HD := Lib.hid hD
        have HE := Lib.hid hen
        rw [hen]
        rw [hen] at hown'
        clear hD hrows h H hen HK
        generalize l[k] = x at *
        obtain ⟨x0, x1⟩ := x
        simp only [Nat.add_zero] at e0
        go_wp2
        go_ret
        exact ⟨_, rfl, by rw [HD.out]; exact hown'.alloc _, hN.alloc _⟩
      · rw [if_neg (by omega)] at hD
        have hsw := Nat.le_trans hs0 hN.size
        have cq := fun (W : World) (hW : Below wr.heap.size wr W) => h l[k] W base _ e (hBw.trans (hW.mono hsw)) hb0 (Nat.le_trans hbr hW.size) (hown'.below hW) (by omega) (H.fine _ (List.getElem_mem hlt') W (hBw.trans (hW.mono hsw)))
        have hlen := H.adds _ (List.getElem_mem hlt') e (by omega)
        have HD := Lib.hid hD
        have HE := Lib.hid hen
        rw [hen]
        rw [hen] at cq
        clear hD hrows h H hen HK hown'
        generalize l[k] = x at *
        obtain ⟨r, hr⟩ : ∃ r, r = F e x := ⟨_, rfl⟩
        rw [← hr] at cq hlen
        have HF := Lib.hid hr
        clear hr
        obtain ⟨x0, x1⟩ := x
        simp only [Nat.add_zero, DatV.val] at e0 cq
        go_wp2_with fail
        refine (cq _ ?_).mono ?_
        · exact (Below.refl _ wr).alloc (Nat.le_refl _) _
        rintro e' w1 ⟨v1, rfl, h1, n1⟩
        dsimp only
        go_wp2
        go_roundw
        case rel => exact ⟨k + 1, r, by omega, by go_num, h1, (hN.alloc _).trans n1, by omega, Lib.hid (by rw [HD.out, HF.out])⟩
        case measure => simp [intOf]; omega
    · have hk' : l.length ≤ k := by have := HN.out; omega
      have hD := HK.out
      rw [List.drop_eq_nil_of_le hk'] at hD
      have HD : Hid (R = e) := Lib.hid hD
      have HE := Lib.hid hen
      rw [hen]
      rw [hen] at hown'
      clear hD hk' hen HK
      go_wp2
      go_ret
      exact ⟨_, rfl, by rw [HD.out]; exact hown', hN⟩
theorem list_DatV {g : Nat} {F : List UInt8 → DatV → List UInt8} {ok : World → DatV → Prop} {w0 : World} {K : Nat} (h : Puts g DatV.val ok F w0) (eg : ∀ args w, (callFunc g args).run Tryz.prog w = .ok (.enter g args) w) (p : Option Addr) (n cap : Nat) (l : List DatV) (H : Puttable 2 DatV.row ok F K w0 p n l) (base : Nat) (hb0 : w0.heap.size ≤ base) (w : World) (hB0 : Below w0.heap.size w0 w) (hb : base ≤ w.heap.size) (v : Value) (d : List UInt8) (hown : Own w base 5 v d) (hd : d.length ≤ 1001000000) :
    Calls Tryz.prog 212 #[v, .slice p n cap, .func (.func g) #[] #[]] w (Adds5 w base (listC F d l)) := by
  have hm := H.most
  have c1 := fun hx hy => number_of base v d (n : Int) w hown hb hx (by omega) hy
  have c2 := fun (w1 : World) (v1 : Value) (h1 : Own w1 base 5 v1 (numC d n)) (n1 : Near base w w1) hl => each_DatV h eg p n cap l H base hb0 w1 (hB0.trans ((n1.below hb).mono hb0)) (Nat.le_trans hb n1.size) v1 _ h1 hl
  have hq : eachC F (numC d n) l = listC F d l := by unfold listC; rw [H.len]
  have hl := num_len (b := d) (n := (n : Int)) (by omega) (by omega)
  have HQ := Lib.hid hq
  have c1 := c1 (by omega) (by omega)
  clear hq h H hown
  go_enter Tryz.func212, Tryz.ntmps212
  go_wp2_with (first
    | (go_at_call 137; (with_reducible refine c1.mono ?_); rintro e w1 ⟨v1, rfl, h1, n1⟩)
    | (go_at_call 245; (with_reducible refine (c2 _ _ h1 n1 (by omega)).mono ?_); rintro e w2 ⟨v2, rfl, h2, n2⟩))
  go_ret
  exact ⟨_, rfl, by rw [← HQ.out]; exact h2, n1.trans n2⟩
theorem each_InsV {g : Nat} {F : List UInt8 → InsV → List UInt8} {ok : World → InsV → Prop} {w0 : World} {K : Nat} (h : Puts g InsV.val ok F w0) (eg : ∀ args w, (callFunc g args).run Tryz.prog w = .ok (.enter g args) w) (p : Option Addr) (n cap : Nat) (l : List InsV) (H : Puttable 4 InsV.row ok F K w0 p n l) (base : Nat) (hb0 : w0.heap.size ≤ base) (w : World) (hB0 : Below w0.heap.size w0 w) (hb : base ≤ w.heap.size) (v : Value) (d : List UInt8) (hown : Own w base 5 v d) (hd : d.length ≤ 1002000000) :
    Calls Tryz.prog 210 #[v, .slice p n cap, .func (.func g) #[] #[]] w (Adds5 w base (eachC F d l)) := by
  obtain ⟨R, hR⟩ : ∃ R, R = eachC F d l := ⟨_, rfl⟩
  rw [← hR]
  have HR : Hid (R = eachC F d (l.drop 0)) := Lib.hid hR
  have HN := Lib.hid H.len
  have hm := H.most
  have hKb := H.few
  have hs0 := hB0.size
  clear hR
  obtain ⟨vp, vc, rfl⟩ := hown.any
  go_enter Tryz.func210, Tryz.ntmps210
  go_wp2
  go_loopw [0, 11] (fun u i wr => ∃ (k : Nat) (e : List UInt8), k ≤ n ∧ i = .int .i64 k ∧ Own wr base 5 u e ∧ Near base w wr ∧ e.length ≤ 1002000000 ∧ Hid (R = eachC F e (l.drop k))) (fun _ i _ => n - (intOf i).toNat)
  case atStart => exact ⟨0, d, by omega, rfl, hown, Near.refl _ _, by omega, HR⟩
  case round =>
    clear HR hown hd
    obtain ⟨k, e, hk, rfl, hown', hN, hel, HK⟩ := hrel
    obtain ⟨up, uc, rfl⟩ := hown'.any
    obtain ⟨en, hen⟩ : ∃ en, e.length = en := ⟨_, rfl⟩
    have hbr := Nat.le_trans hb hN.size
    by_cases hlt : k < n
    · have hlt' : k < l.length := by have := HN.out; omega
      have hD := HK.out
      rw [List.drop_eq_getElem_cons hlt', eachC_cons] at hD
      have hBw := hB0.trans ((hN.below hb).mono hb0)
      have hrows := H.rows.below hBw (Nat.le_refl _)
      obtain ⟨b, o, hp, hbb, e0⟩ := hrows k hlt' 0 _ rfl
      subst hp
      have e1 := hrows.cell hlt' 1 rfl
      have e2 := hrows.cell hlt' 2 rfl
      have e3 := hrows.cell hlt' 3 rfl
      by_cases hgo : (1048576 : Int) < en
      · rw [if_pos (by omega)] at hD
        have HD := Lib.hid hD
        have HE := Lib.hid hen
        rw [hen]
        rw [hen] at hown'
        clear hD hrows h H hen HK
        generalize l[k] = x at *
        obtain ⟨x0, x1, x2, x3, x4, x5⟩ := x
        simp only [Nat.add_zero] at e0
        go_wp2
        go_ret
        exact ⟨_, rfl, by rw [HD.out]; exact hown'.alloc _, hN.alloc _⟩
      · rw [if_neg (by omega)] at hD
        have hsw := Nat.le_trans hs0 hN.size
        have cq := fun (W : World) (hW : Below wr.heap.size wr W) => h l[k] W base _ e (hBw.trans (hW.mono hsw)) hb0 (Nat.le_trans hbr hW.size) (hown'.below hW) (by omega) (H.fine _ (List.getElem_mem hlt') W (hBw.trans (hW.mono hsw)))
        have hlen := H.adds _ (List.getElem_mem hlt') e (by omega)
        have HD := Lib.hid hD
        have HE := Lib.hid hen
        rw [hen]
        rw [hen] at cq
        clear hD hrows h H hen HK hown'
        generalize l[k] = x at *
        obtain ⟨r, hr⟩ : ∃ r, r = F e x := ⟨_, rfl⟩
        rw [← hr] at cq hlen
        have HF := Lib.hid hr
        clear hr
        obtain ⟨x0, x1, x2, x3, x4, x5⟩ := x
        simp only [Nat.add_zero, InsV.val] at e0 cq
        go_wp2_with fail
        refine (cq _ ?_).mono ?_
        · exact (Below.refl _ wr).alloc (Nat.le_refl _) _
        rintro e' w1 ⟨v1, rfl, h1, n1⟩
        dsimp only
        go_wp2
        go_roundw
        case rel => exact ⟨k + 1, r, by omega, by go_num, h1, (hN.alloc _).trans n1, by omega, Lib.hid (by rw [HD.out, HF.out])⟩
        case measure => simp [intOf]; omega
    · have hk' : l.length ≤ k := by have := HN.out; omega
      have hD := HK.out
      rw [List.drop_eq_nil_of_le hk'] at hD
      have HD : Hid (R = e) := Lib.hid hD
      have HE := Lib.hid hen
      rw [hen]
      rw [hen] at hown'
      clear hD hk' hen HK
      go_wp2
      go_ret
      exact ⟨_, rfl, by rw [HD.out]; exact hown', hN⟩
theorem each_RunV {g : Nat} {F : List UInt8 → RunV → List UInt8} {ok : World → RunV → Prop} {w0 : World} {K : Nat} (h : Puts g RunV.val ok F w0) (eg : ∀ args w, (callFunc g args).run Tryz.prog w = .ok (.enter g args) w) (p : Option Addr) (n cap : Nat) (l : List RunV) (H : Puttable 2 RunV.row ok F K w0 p n l) (base : Nat) (hb0 : w0.heap.size ≤ base) (w : World) (hB0 : Below w0.heap.size w0 w) (hb : base ≤ w.heap.size) (v : Value) (d : List UInt8) (hown : Own w base 5 v d) (hd : d.length ≤ 1002000000) :
    Calls Tryz.prog 244 #[v, .slice p n cap, .func (.func g) #[] #[]] w (Adds5 w base (eachC F d l)) := by
  obtain ⟨R, hR⟩ : ∃ R, R = eachC F d l := ⟨_, rfl⟩
  rw [← hR]
  have HR : Hid (R = eachC F d (l.drop 0)) := Lib.hid hR
  have HN := Lib.hid H.len
  have hm := H.most
  have hKb := H.few
  have hs0 := hB0.size
  clear hR
  obtain ⟨vp, vc, rfl⟩ := hown.any
  go_enter Tryz.func244, Tryz.ntmps244
  go_wp2
  go_loopw [0, 11] (fun u i wr => ∃ (k : Nat) (e : List UInt8), k ≤ n ∧ i = .int .i64 k ∧ Own wr base 5 u e ∧ Near base w wr ∧ e.length ≤ 1002000000 ∧ Hid (R = eachC F e (l.drop k))) (fun _ i _ => n - (intOf i).toNat)
  case atStart => exact ⟨0, d, by omega, rfl, hown, Near.refl _ _, by omega, HR⟩
  case round =>
    clear HR hown hd
    obtain ⟨k, e, hk, rfl, hown', hN, hel, HK⟩ := hrel
    obtain ⟨up, uc, rfl⟩ := hown'.any
    obtain ⟨en, hen⟩ : ∃ en, e.length = en := ⟨_, rfl⟩
    have hbr := Nat.le_trans hb hN.size
    by_cases hlt : k < n
    · have hlt' : k < l.length := by have := HN.out; omega
      have hD := HK.out
      rw [List.drop_eq_getElem_cons hlt', eachC_cons] at hD
      have hBw := hB0.trans ((hN.below hb).mono hb0)
      have hrows := H.rows.below hBw (Nat.le_refl _)
      obtain ⟨b, o, hp, hbb, e0⟩ := hrows k hlt' 0 _ rfl
      subst hp
      have e1 := hrows.cell hlt' 1 rfl
      by_cases hgo : (1048576 : Int) < en
      · rw [if_pos (by omega)] at hD
        have HD := Lib.hid hD
        have HE := Lib.hid hen
        rw [hen]
        rw [hen] at hown'
        clear hD hrows h H hen HK
        generalize l[k] = x at *
        obtain ⟨x0, x1⟩ := x
        simp only [Nat.add_zero] at e0
        go_wp2
        go_ret
        exact ⟨_, rfl, by rw [HD.out]; exact hown'.alloc _, hN.alloc _⟩
      · rw [if_neg (by omega)] at hD
        have hsw := Nat.le_trans hs0 hN.size
        have cq := fun (W : World) (hW : Below wr.heap.size wr W) => h l[k] W base _ e (hBw.trans (hW.mono hsw)) hb0 (Nat.le_trans hbr hW.size) (hown'.below hW) (by omega) (H.fine _ (List.getElem_mem hlt') W (hBw.trans (hW.mono hsw)))
        have hlen := H.adds _ (List.getElem_mem hlt') e (by omega)
        have HD := Lib.hid hD
        have HE := Lib.hid hen
        rw [hen]
        rw [hen] at cq
        clear hD hrows h H hen HK hown'
        generalize l[k] = x at *
        obtain ⟨r, hr⟩ : ∃ r, r = F e x := ⟨_, rfl⟩
        rw [← hr] at cq hlen
        have HF := Lib.hid hr
        clear hr
        obtain ⟨x0, x1⟩ := x
        simp only [Nat.add_zero, RunV.val] at e0 cq
        go_wp2_with fail
        refine (cq _ ?_).mono ?_
        · exact (Below.refl _ wr).alloc (Nat.le_refl _) _
        rintro e' w1 ⟨v1, rfl, h1, n1⟩
        dsimp only
        go_wp2
        go_roundw
        case rel => exact ⟨k + 1, r, by omega, by go_num, h1, (hN.alloc _).trans n1, by omega, Lib.hid (by rw [HD.out, HF.out])⟩
        case measure => simp [intOf]; omega
    · have hk' : l.length ≤ k := by have := HN.out; omega
      have hD := HK.out
      rw [List.drop_eq_nil_of_le hk'] at hD
      have HD : Hid (R = e) := Lib.hid hD
      have HE := Lib.hid hen
      rw [hen]
      rw [hen] at hown'
      clear hD hk' hen HK
      go_wp2
      go_ret
      exact ⟨_, rfl, by rw [HD.out]; exact hown', hN⟩
theorem list_RunV {g : Nat} {F : List UInt8 → RunV → List UInt8} {ok : World → RunV → Prop} {w0 : World} {K : Nat} (h : Puts g RunV.val ok F w0) (eg : ∀ args w, (callFunc g args).run Tryz.prog w = .ok (.enter g args) w) (p : Option Addr) (n cap : Nat) (l : List RunV) (H : Puttable 2 RunV.row ok F K w0 p n l) (base : Nat) (hb0 : w0.heap.size ≤ base) (w : World) (hB0 : Below w0.heap.size w0 w) (hb : base ≤ w.heap.size) (v : Value) (d : List UInt8) (hown : Own w base 5 v d) (hd : d.length ≤ 1001000000) :
    Calls Tryz.prog 207 #[v, .slice p n cap, .func (.func g) #[] #[]] w (Adds5 w base (listC F d l)) := by
  have hm := H.most
  have c1 := fun hx hy => number_of base v d (n : Int) w hown hb hx (by omega) hy
  have c2 := fun (w1 : World) (v1 : Value) (h1 : Own w1 base 5 v1 (numC d n)) (n1 : Near base w w1) hl => each_RunV h eg p n cap l H base hb0 w1 (hB0.trans ((n1.below hb).mono hb0)) (Nat.le_trans hb n1.size) v1 _ h1 hl
  have hq : eachC F (numC d n) l = listC F d l := by unfold listC; rw [H.len]
  have hl := num_len (b := d) (n := (n : Int)) (by omega) (by omega)
  have HQ := Lib.hid hq
  have c1 := c1 (by omega) (by omega)
  clear hq h H hown
  go_enter Tryz.func207, Tryz.ntmps207
  go_wp2_with (first
    | (go_at_call 137; (with_reducible refine c1.mono ?_); rintro e w1 ⟨v1, rfl, h1, n1⟩)
    | (go_at_call 244; (with_reducible refine (c2 _ _ h1 n1 (by omega)).mono ?_); rintro e w2 ⟨v2, rfl, h2, n2⟩))
  go_ret
  exact ⟨_, rfl, by rw [← HQ.out]; exact h2, n1.trans n2⟩
theorem each_Int {g : Nat} {F : List UInt8 → Int → List UInt8} {ok : World → Int → Prop} {w0 : World} {K : Nat} (h : Puts g intVal ok F w0) (eg : ∀ args w, (callFunc g args).run Tryz.prog w = .ok (.enter g args) w) (p : Option Addr) (n cap : Nat) (l : List Int) (H : Puttable 1 intRow ok F K w0 p n l) (base : Nat) (hb0 : w0.heap.size ≤ base) (w : World) (hB0 : Below w0.heap.size w0 w) (hb : base ≤ w.heap.size) (v : Value) (d : List UInt8) (hown : Own w base 5 v d) (hd : d.length ≤ 1002000000) :
    Calls Tryz.prog 224 #[v, .slice p n cap, .func (.func g) #[] #[]] w (Adds5 w base (eachC F d l)) := by
  obtain ⟨R, hR⟩ : ∃ R, R = eachC F d l := ⟨_, rfl⟩
  rw [← hR]
  have HR : Hid (R = eachC F d (l.drop 0)) := Lib.hid hR
  have HN := Lib.hid H.len
  have hm := H.most
  have hKb := H.few
  have hs0 := hB0.size
  clear hR
  obtain ⟨vp, vc, rfl⟩ := hown.any
  go_enter Tryz.func224, Tryz.ntmps224
  go_wp2
  go_loopw [0, 11] (fun u i wr => ∃ (k : Nat) (e : List UInt8), k ≤ n ∧ i = .int .i64 k ∧ Own wr base 5 u e ∧ Near base w wr ∧ e.length ≤ 1002000000 ∧ Hid (R = eachC F e (l.drop k))) (fun _ i _ => n - (intOf i).toNat)
  case atStart => exact ⟨0, d, by omega, rfl, hown, Near.refl _ _, by omega, HR⟩
  case round =>
    clear HR hown hd
    obtain ⟨k, e, hk, rfl, hown', hN, hel, HK⟩ := hrel
    obtain ⟨up, uc, rfl⟩ := hown'.any
    obtain ⟨en, hen⟩ : ∃ en, e.length = en := ⟨_, rfl⟩
    have hbr := Nat.le_trans hb hN.size
    by_cases hlt : k < n
    · have hlt' : k < l.length := by have := HN.out; omega
      have hD := HK.out
      rw [List.drop_eq_getElem_cons hlt', eachC_cons] at hD
      have hBw := hB0.trans ((hN.below hb).mono hb0)
      have hrows := H.rows.below hBw (Nat.le_refl _)
      obtain ⟨b, o, hp, hbb, e0⟩ := hrows k hlt' 0 _ rfl
      subst hp
      by_cases hgo : (1048576 : Int) < en
      · rw [if_pos (by omega)] at hD
        have HD := Lib.hid hD
        have HE := Lib.hid hen
        rw [hen]
        rw [hen] at hown'
        clear hD hrows h H hen HK
        generalize l[k] = x at *
        simp only [Nat.add_zero, Nat.mul_one] at e0
        go_wp2
        go_ret
        exact ⟨_, rfl, by rw [HD.out]; exact hown', hN⟩
      · rw [if_neg (by omega)] at hD
        have hsw := Nat.le_trans hs0 hN.size
        have cq := fun (W : World) (hW : Below wr.heap.size wr W) => h l[k] W base _ e (hBw.trans (hW.mono hsw)) hb0 (Nat.le_trans hbr hW.size) (hown'.below hW) (by omega) (H.fine _ (List.getElem_mem hlt') W (hBw.trans (hW.mono hsw)))
        have hlen := H.adds _ (List.getElem_mem hlt') e (by omega)
        have HD := Lib.hid hD
        have HE := Lib.hid hen
        rw [hen]
        rw [hen] at cq
        clear hD hrows h H hen HK hown'
        generalize l[k] = x at *
        obtain ⟨r, hr⟩ : ∃ r, r = F e x := ⟨_, rfl⟩
        rw [← hr] at cq hlen
        have HF := Lib.hid hr
        clear hr
        simp only [Nat.add_zero, Nat.mul_one, intVal] at e0 cq
        go_wp2_with fail
        refine (cq _ ?_).mono ?_
        · exact Below.refl _ wr
        rintro e' w1 ⟨v1, rfl, h1, n1⟩
        dsimp only
        go_wp2
        go_roundw
        case rel => exact ⟨k + 1, r, by omega, by go_num, h1, hN.trans n1, by omega, Lib.hid (by rw [HD.out, HF.out])⟩
        case measure => simp [intOf]; omega
    · have hk' : l.length ≤ k := by have := HN.out; omega
      have hD := HK.out
      rw [List.drop_eq_nil_of_le hk'] at hD
      have HD : Hid (R = e) := Lib.hid hD
      have HE := Lib.hid hen
      rw [hen]
      rw [hen] at hown'
      clear hD hk' hen HK
      go_wp2
      go_ret
      exact ⟨_, rfl, by rw [HD.out]; exact hown', hN⟩
theorem list_Int {g : Nat} {F : List UInt8 → Int → List UInt8} {ok : World → Int → Prop} {w0 : World} {K : Nat} (h : Puts g intVal ok F w0) (eg : ∀ args w, (callFunc g args).run Tryz.prog w = .ok (.enter g args) w) (p : Option Addr) (n cap : Nat) (l : List Int) (H : Puttable 1 intRow ok F K w0 p n l) (base : Nat) (hb0 : w0.heap.size ≤ base) (w : World) (hB0 : Below w0.heap.size w0 w) (hb : base ≤ w.heap.size) (v : Value) (d : List UInt8) (hown : Own w base 5 v d) (hd : d.length ≤ 1001000000) :
    Calls Tryz.prog 165 #[v, .slice p n cap, .func (.func g) #[] #[]] w (Adds5 w base (listC F d l)) := by
  have hm := H.most
  have c1 := fun hx hy => number_of base v d (n : Int) w hown hb hx (by omega) hy
  have c2 := fun (w1 : World) (v1 : Value) (h1 : Own w1 base 5 v1 (numC d n)) (n1 : Near base w w1) hl => each_Int h eg p n cap l H base hb0 w1 (hB0.trans ((n1.below hb).mono hb0)) (Nat.le_trans hb n1.size) v1 _ h1 hl
  have hq : eachC F (numC d n) l = listC F d l := by unfold listC; rw [H.len]
  have hl := num_len (b := d) (n := (n : Int)) (by omega) (by omega)
  have HQ := Lib.hid hq
  have c1 := c1 (by omega) (by omega)
  clear hq h H hown
  go_enter Tryz.func165, Tryz.ntmps165
  go_wp2_with (first
    | (go_at_call 137; (with_reducible refine c1.mono ?_); rintro e w1 ⟨v1, rfl, h1, n1⟩)
    | (go_at_call 224; (with_reducible refine (c2 _ _ h1 n1 (by omega)).mono ?_); rintro e w2 ⟨v2, rfl, h2, n2⟩))
  go_ret
  exact ⟨_, rfl, by rw [← HQ.out]; exact h2, n1.trans n2⟩
structure Go1 (base : Nat) (w : World) (b : Nat) (cs : Array Value) (t : TypeId) (W : World) (v : Value) (d : List UInt8) : Prop where
  own : Own W base 5 v d
  near : Near base w W
  box : W.heap[b]? = some (.cells cs t)
  le : base ≤ W.heap.size
  ne : t ≠ 5
theorem Go1.start {base : Nat} {w : World} {v : Value} {d : List UInt8} (hown : Own w base 5 v d) (hb : base ≤ w.heap.size) (cs : Array Value) (t : TypeId) (ht : t ≠ 5) : Go1 base w w.heap.size cs t (w.alloc (.cells cs t)) v d :=
  ⟨hown.alloc _, (Near.refl _ _).alloc _, heap_alloc_new _ _, by simp; omega, ht⟩
theorem Go1.alloc {base b : Nat} {w W : World} {cs : Array Value} {t : TypeId} {v : Value} {d : List UInt8} (h : Go1 base w b cs t W v d) (o : Obj) : Go1 base w b cs t (W.alloc o) v d :=
  ⟨h.own.alloc o, h.near.alloc o, (Below.heap_alloc W o b (heap_lt9 h.box)).trans h.box, by have := h.le; simp; omega, h.ne⟩
theorem Go1.drew {base b : Nat} {w W : World} {cs : Array Value} {t : TypeId} {v : Value} {d : List UInt8} (h : Go1 base w b cs t W v d) : Go1 base w b cs t W.drew v d :=
  ⟨h.own.drew, h.near.drew, h.box, h.le, h.ne⟩
theorem Go1.step {base b : Nat} {w W W' : World} {cs : Array Value} {t : TypeId} {v v' : Value} {d d' : List UInt8} (h : Go1 base w b cs t W v d) (ho : Own W' base 5 v' d') (hg : W.grownBy W' v.ownBlock) : Go1 base w b cs t W' v' d' :=
  ⟨ho, h.near.grew h.own hg, (Near.of_grown h.own hg).box h.box h.ne, Nat.le_trans h.le hg.size, h.ne⟩
theorem Go1.call {base b : Nat} {w W W' : World} {cs : Array Value} {t : TypeId} {v v' : Value} {d d' : List UInt8} (h : Go1 base w b cs t W v d) (ho : Own W' base 5 v' d') (hn : Near base W W') : Go1 base w b cs t W' v' d' :=
  ⟨ho, h.near.trans hn, hn.box h.box h.ne, Nat.le_trans h.le hn.size, h.ne⟩
theorem lit_one {W : World} (k : Nat) (n : Int) (c : UInt8) (hk : k = W.heap.size) (hc : (c.toNat : Int) = n) {t : TypeId} : ∀ j b, [c][j]? = some b → (W.alloc (.cells #[.int .u8 n] t)).cell? ((⟨k, 0, none⟩ : Addr).add j) = some (.int .u8 (b.toNat : Int)) := by
  intro j b hj
  subst hk; subst hc
  exact lit_at (l := [c]) j b hj
theorem lit_oneD {W : World} (k : Nat) (n : Int) (c : UInt8) (hk : k = W.heap.size) (hc : (c.toNat : Int) = n) {t : TypeId} : ∀ j b, [c][j]? = some b → (W.alloc (.cells #[.int .u8 n] t)).drew.cell? ((⟨k, 0, none⟩ : Addr).add j) = some (.int .u8 (b.toNat : Int)) := lit_one k n c hk hc
theorem lit_twoD {W : World} (k : Nat) (n m : Int) (c e : UInt8) (hk : k = W.heap.size) (hc : (c.toNat : Int) = n) (he : (e.toNat : Int) = m) {t : TypeId} : ∀ j b, [c, e][j]? = some b → (W.alloc (.cells #[.int .u8 n, .int .u8 m] t)).drew.cell? ((⟨k, 0, none⟩ : Addr).add j) = some (.int .u8 (b.toNat : Int)) := by
  intro j b hj
  subst hk; subst hc; subst he
  exact lit_at (l := [c, e]) j b hj
theorem lit_after {W w1 : World} {base : Nat} {v : Value} {d : List UInt8} (hown : Own W base 5 v d) (k : Nat) (n : Int) (c : UInt8) {t : TypeId} (hg : (W.alloc (.cells #[.int .u8 n] t)).drew.grownBy w1 v.ownBlock) (hk : k = W.heap.size) (hc : (c.toNat : Int) = n) : ∀ j b, [c][j]? = some b → w1.cell? ((⟨k, 0, none⟩ : Addr).add j) = some (.int .u8 (b.toNat : Int)) := by
  intro j b hj
  subst hk
  have h0 := lit_oneD (W := W) W.heap.size n c rfl hc (t := t) j b hj
  have hx : (W.alloc (.cells #[.int .u8 n] t)).drew.heap[W.heap.size]? = some (.cells #[.int .u8 n] t) := heap_alloc_new _ _
  have h1 := (hg.block W.heap.size (heap_lt9 hx) (fun e => by have := (World.ownsRow.lt hown _ e.symm).2; omega)).trans hx
  have hadd : (⟨W.heap.size, 0, none⟩ : Addr).add j = ⟨W.heap.size, j, none⟩ := by unfold Addr.add; split <;> simp_all
  rw [hadd] at h0 ⊢
  simp only [World.cell?, h1]
  simp only [World.cell?, hx] at h0
  exact h0
theorem type_of (base : Nat) (v : Value) (d : List UInt8) (t : TyV) (w : World) (hown : Own w base 5 v d) (hb : base ≤ w.heap.size) (hd : d.length ≤ 1048576) (h1 : t.params.size ≤ maxLen) (h2 : t.results.size ≤ maxLen) :
    Calls Tryz.prog 134 #[v, t.val] w (Adds5 w base (typeC d t)) := by
  obtain ⟨i0, hi, hz0, hz1, hz2⟩ := info_parts Tryz.info5
  obtain ⟨tp, tr⟩ := t
  unfold maxLen at h1 h2
  simp only at h1 h2
  simp only [TyV.val]
  have G := (Go1.start hown hb #[.string tp, .string tr] 68 (by decide))
  have l1 : (d ++ [96]).length ≤ 1048577 := by simp; omega
  have l2 := text_len (b := d ++ [96]) (s := tp.data.toList) (by rw [show tp.data.toList.length = tp.size from Array.length_toList]; omega)
  have hx0 := box_2 G.drew.box
  go_enter Tryz.func134, Tryz.ntmps134
  go_wp2
  go_region_held3 (fun W => W.heap[w.heap.size]? = some (.cells #[.string tp, .string tr] 68) ∧ W.cell? ⟨w.heap.size, 0, none⟩ = some (.string tp) ∧ W.cell? ⟨w.heap.size, 1, none⟩ = some (.string tr))
    (first | (with_reducible exact box_2 G3.box) | (with_reducible exact box_2 G2.box) | (with_reducible exact box_2 G1.box) | (with_reducible exact hx0) | (exact box_2 (G.alloc _).drew.box))
    (first
      | (refine step_bytes rfl (.tmp 5) (.tmp 6) 24 rfl base 5 i0 Tryz.underlying24 hi hz0 hz1 hz2 _ _ rfl (G.alloc _).drew.own _ _ _ [96] rfl rfl (lit_oneD _ _ _ (by simp) rfl) (by omega) (G.alloc _).drew.le ?_; intro v1 w1 h1 g1 _; have G1 := (G.alloc _).drew.step h1 g1)
      | (go_at_call 197; (with_reducible refine (text_of base v2 _ tr _ G2.own G2.le (by omega) (by omega)).mono ?_); rintro e w3 ⟨v3, rfl, h3, n3⟩; have G3 := G2.call h3 n3)
      | (go_at_call 197; (with_reducible refine (text_of base v1 _ tp _ G1.own G1.le (by omega) (by omega)).mono ?_); rintro e w2 ⟨v2, rfl, h2, n2⟩; have G2 := G1.call h2 n2))
  all_goals
    go_wp2
    go_ret
    exact ⟨_, rfl, G3.own, G3.near⟩
theorem func_of (base : Nat) (v : Value) (d : List UInt8) (f : FnV) (w : World) (hown : Own w base 5 v d) (hb : base ≤ w.heap.size) (hd : d.length ≤ 1048576) (h0 : 0 ≤ f.type) (h1 : f.type < 4294967296) :
    Calls Tryz.prog 136 #[v, f.val] w (Adds5 w base (funcC d f)) := by
  obtain ⟨ty, lo, cp, cc, code⟩ := f
  simp only at h0 h1
  simp only [FnV.val, funcC]
  generalize code.length = n
  have G := Go1.start hown hb #[.int .i64 ty, .string lo, .slice cp n cc] 72 (by decide)
  have c := number_of base v d ty _ G.own G.le (by omega) (by omega) (by omega)
  go_enter Tryz.func136, Tryz.ntmps136
  go_wp2_with (go_at_call 137; (with_reducible refine c.mono ?_); rintro e w1 ⟨v1, rfl, h1, n1⟩)
  go_ret
  exact ⟨_, rfl, h1, G.near.trans n1⟩
theorem memory_of (base : Nat) (v : Value) (d : List UInt8) (t : MemV) (w : World) (hown : Own w base 5 v d) (hb : base ≤ w.heap.size) (hd : d.length ≤ 1048576) (hr : rightMem t = true) :
    Calls Tryz.prog 139 #[v, t.val] w (Adds5 w base (memC d t)) := by
  obtain ⟨i0, hi, hz0, hz1, hz2⟩ := info_parts Tryz.info5
  obtain ⟨mn, mx⟩ := t
  unfold rightMem word4 at hr
  simp only [Bool.and_eq_true, Bool.or_eq_true, decide_eq_true_eq] at hr
  simp only [MemV.val]
  have G := Go1.start hown hb #[.int .i64 mn, .int .i64 mx] 74 (by decide)
  have l1 : (d ++ [0]).length ≤ 1048577 := by simp; omega
  have l2 : (d ++ [1]).length ≤ 1048577 := by simp; omega
  have l3 := num_len (b := d ++ [1]) (n := mn) (by omega) (by omega)
  have hx0 := box_2 G.drew.box
  have q0 : 0 ≤ mn ∧ mn ≤ 4294967295 := by omega
  by_cases hm : mx < 0
  · have hq : memC d ⟨mn, mx⟩ = numC (d ++ [0]) mn := by unfold memC; simp only; rw [if_pos hm]
    rw [hq]
    clear hq hr
    go_enter Tryz.func139, Tryz.ntmps139
    go_wp2
    go_region_held3 (fun W => W.heap[w.heap.size]? = some (.cells #[.int .i64 mn, .int .i64 mx] 74) ∧ W.cell? ⟨w.heap.size, 0, none⟩ = some (.int .i64 mn) ∧ W.cell? ⟨w.heap.size, 1, none⟩ = some (.int .i64 mx))
      (first | (with_reducible exact box_2 G2.box) | (with_reducible exact box_2 G1.box) | (with_reducible exact hx0) | (exact box_2 (G.alloc _).drew.box))
      (first
        | (refine step_bytes rfl (.tmp 8) (.tmp 9) 24 rfl base 5 i0 Tryz.underlying24 hi hz0 hz1 hz2 _ _ rfl (G.alloc _).drew.own _ _ _ [0] rfl rfl (lit_oneD _ _ _ (by simp) rfl) (by omega) (G.alloc _).drew.le ?_; intro v1 w1 h1 g1 _; have G1 := (G.alloc _).drew.step h1 g1)
        | (go_at_call 137; (with_reducible refine (number_of base v1 _ mn _ G1.own G1.le (by omega) (by omega) (by omega)).mono ?_); rintro e w2 ⟨v2, rfl, h2, n2⟩; have G2 := G1.call h2 n2))
    all_goals
      go_wp2
      go_ret
      exact ⟨_, rfl, G2.own, G2.near⟩
  · have q1 : 0 ≤ mx ∧ mx ≤ 4294967295 := by omega
    have hq : memC d ⟨mn, mx⟩ = numC (numC (d ++ [1]) mn) mx := by unfold memC; simp only; rw [if_neg hm]
    rw [hq]
    clear hq hr
    go_enter Tryz.func139, Tryz.ntmps139
    go_wp2
    go_region_held3 (fun W => W.heap[w.heap.size]? = some (.cells #[.int .i64 mn, .int .i64 mx] 74) ∧ W.cell? ⟨w.heap.size, 0, none⟩ = some (.int .i64 mn) ∧ W.cell? ⟨w.heap.size, 1, none⟩ = some (.int .i64 mx))
      (first | (with_reducible exact box_2 G3.box) | (with_reducible exact box_2 G2.box) | (with_reducible exact box_2 G1.box) | (with_reducible exact hx0) | (exact box_2 (G.alloc _).drew.box))
      (first
        | (refine step_bytes rfl (.tmp 14) (.tmp 15) 24 rfl base 5 i0 Tryz.underlying24 hi hz0 hz1 hz2 _ _ rfl (G.alloc _).drew.own _ _ _ [1] rfl rfl (lit_oneD _ _ _ (by simp) rfl) (by omega) (G.alloc _).drew.le ?_; intro v1 w1 h1 g1 _; have G1 := (G.alloc _).drew.step h1 g1)
        | (go_at_call 137; (with_reducible refine (number_of base v2 _ mx _ G2.own G2.le (by omega) (by omega) (by omega)).mono ?_); rintro e w3 ⟨v3, rfl, h3, n3⟩; have G3 := G2.call h3 n3)
        | (go_at_call 137; (with_reducible refine (number_of base v1 _ mn _ G1.own G1.le (by omega) (by omega) (by omega)).mono ?_); rintro e w2 ⟨v2, rfl, h2, n2⟩; have G2 := G1.call h2 n2))
    all_goals
      go_wp2
      go_ret
      exact ⟨_, rfl, G3.own, G3.near⟩
theorem put_const_of (base : Nat) (v : Value) (d : List UInt8) (kind n : Int) (w : World) (hown : Own w base 5 v d) (hb : base ≤ w.heap.size) (hd : d.length ≤ 1048600) (hk : kind = 126 ∨ kind = 127) (h0 : -9223372036854775808 ≤ n) (h1 : n ≤ 9223372036854775807) :
    Calls Tryz.prog 204 #[v, .int .i64 kind, .int .i64 n] w (Adds5 w base (constC d kind n)) := by
  obtain ⟨i0, hi, hz0, hz1, hz2⟩ := info_parts Tryz.info5
  have c := fun W => put_s n h0 h1 W
  have hl := putS_len10 h0 h1
  have n0 := (Near.refl base w)
  rcases hk with rfl | rfl
  case' inl => have hq : constC d 126 n = d ++ [66] ++ putS n ++ [11] := rfl
  case' inr => have hq : constC d 127 n = d ++ [65] ++ putS n ++ [11] := rfl
  all_goals
    rw [hq]
    clear hq
    go_enter Tryz.func204, Tryz.ntmps204
    go_wp2_with (first
      | (at_builtin; refine wpl_bytes rfl (.tmp 10) (.tmp 12) 24 rfl base 5 i0 Tryz.underlying24 hi hz0 hz1 hz2 _ _ rfl (hown.alloc _) _ _ _ [_] rfl rfl (lit_one _ _ _ (by simp) (by first | exact (rfl : ((65 : UInt8).toNat : Int) = 65) | exact (rfl : ((66 : UInt8).toNat : Int) = 66))) (by omega) (by simp; omega) ?_; intro v1 w1 h1 g1; have N1 := (n0.alloc _).grew (hown.alloc _) g1; have b1 := Nat.le_trans hb N1.size))
    go_wp2_with (first
      | (go_at_call 166; (with_reducible refine (c _).mono ?_); rintro e w2 ⟨rfl, hb2⟩; have h2 := h1.below hb2; have N2 := N1.then hb2; have b2 := Nat.le_trans hb N2.size)
      | (at_builtin; refine wpl_string rfl (.tmp 13) (.tmp 15) 24 9 rfl base 5 i0 Tryz.underlying24 Tryz.underlying9 hi hz0 hz1 hz2 _ _ rfl h2 (putS n) rfl (by simp; omega) (by omega) ?_; intro v3 w3 h3 g3 _; have N3 := N2.grew h2 g3; have b3 := Nat.le_trans hb N3.size)
      | (at_builtin; refine wpl_bytes rfl (.tmp 17) (.tmp 18) 24 rfl base 5 i0 Tryz.underlying24 hi hz0 hz1 hz2 _ _ rfl (h3.alloc _) _ _ _ [11] rfl rfl (lit_one _ _ _ (by simp) rfl) (by simp; omega) (by simp; omega) ?_; intro v4 w4 h4 g4; have N4 := (N3.alloc _).grew (h3.alloc _) g4))
    go_ret
    exact ⟨_, rfl, h4, N4⟩
theorem run_of (base : Nat) (v : Value) (d : List UInt8) (x : RunV) (w : World) (hown : Own w base 5 v d) (hb : base ≤ w.heap.size) (hd : d.length ≤ 1048576) (hm : x.many ≤ 1000000) :
    Calls Tryz.prog 209 #[v, x.val] w (Adds5 w base (runC d (x.kind, x.many))) := by
  obtain ⟨i0, hi, hz0, hz1, hz2⟩ := info_parts Tryz.info5
  obtain ⟨mn, kd⟩ := x
  simp only at hm
  simp only [RunV.val]
  have hkd := kd.toNat_lt
  have l1 := num_len (b := d) (n := (mn : Int)) (by omega) (by omega)
  have G := Go1.start hown hb #[.int .i64 mn, .int .u8 kd.toNat] 252 (by decide)
  have hx0 := box_2 G.drew.box
  have c := fun W hW hB => number_grown base v d (mn : Int) W hW hB (by omega) (by omega) (by omega)
  go_enter Tryz.func209, Tryz.ntmps209
  go_wp2
  go_region_held3 (fun W => W.heap[w.heap.size]? = some (.cells #[.int .i64 mn, .int .u8 kd.toNat] 252) ∧ W.cell? ⟨w.heap.size, 0, none⟩ = some (.int .i64 mn) ∧ W.cell? ⟨w.heap.size, 1, none⟩ = some (.int .u8 kd.toNat))
    (first | (with_reducible exact box_2 G2.box) | (with_reducible exact box_2 G1.box) | (with_reducible exact hx0) | (exact box_2 (G.alloc _).drew.box) | (exact box_2 (G1.alloc _).box))
    (first
      | (go_at_call 137; (with_reducible refine (c _ G.drew.own G.drew.le).mono ?_); rintro e w1 ⟨v1, rfl, A1⟩; have G1 := G.drew.call A1.own (A1.near G.drew.own))
      | (go_at_call 137; (with_reducible refine (c _ (G.alloc _).drew.own (G.alloc _).drew.le).mono ?_); rintro e w1 ⟨v1, rfl, A1⟩; have G1 := (G.alloc _).drew.call A1.own (A1.near (G.alloc _).drew.own); have g1 := A1.grown)
      | (refine step_bytes rfl (.tmp 8) (.tmp 11) 24 rfl base 5 i0 Tryz.underlying24 hi hz0 hz1 hz2 _ _ rfl (G1.alloc _).own _ _ _ [kd] rfl rfl (lit_one _ _ _ (by simp) rfl) (by omega) (G1.alloc _).le ?_; intro v2 w2 h2 g2 _; have G2 := (G1.alloc _).step h2 g2)
      | (refine step_bytes rfl (.tmp 8) (.tmp 11) 24 rfl base 5 i0 Tryz.underlying24 hi hz0 hz1 hz2 _ _ rfl G1.own _ _ _ [kd] rfl rfl (lit_after G.own _ _ _ g1 (by simp) rfl) (by omega) G1.le ?_; intro v2 w2 h2 g2 _; have G2 := G1.step h2 g2))
  all_goals
    go_wp2
    go_ret
    exact ⟨_, rfl, G2.own, G2.near⟩
theorem global_of (base : Nat) (v : Value) (d : List UInt8) (t : GlobV) (w : World) (hown : Own w base 5 v d) (hb : base ≤ w.heap.size) (hd : d.length ≤ 1048576) (hr : rightGlob t = true) (ha : inI64 t.init) :
    Calls Tryz.prog 141 #[v, t.val] w (Adds5 w base (globC d t)) := by
  obtain ⟨i0, hi, hz0, hz1, hz2⟩ := info_parts Tryz.info5
  obtain ⟨gt, gm, gi⟩ := t
  unfold rightGlob at hr
  simp only [Bool.and_eq_true, Bool.or_eq_true, decide_eq_true_eq] at hr
  have hk : gt = 126 ∨ gt = 127 := by omega
  obtain ⟨hi0, hi1⟩ : -9223372036854775808 ≤ gi ∧ gi ≤ 9223372036854775807 := ha
  simp only [GlobV.val]
  clear hr
  rcases hk with rfl | rfl <;> rcases gm with _ | _
  · have hq : globC d ⟨126, false, gi⟩ = constC (d ++ [126, 0]) 126 gi := rfl
    rw [hq]
    clear hq
    have G := Go1.start hown hb #[.int .i64 126, .bool false, .int .i64 gi] 76 (by decide)
    have hx0 := box_3 G.drew.box
    have l1 : (d ++ [126, 0]).length ≤ 1048578 := by simp; omega
    go_enter Tryz.func141, Tryz.ntmps141
    go_wp2
    go_region_held3 (fun W => W.heap[w.heap.size]? = some (.cells #[.int .i64 126, .bool false, .int .i64 gi] 76) ∧ W.cell? ⟨w.heap.size, 0, none⟩ = some (.int .i64 126) ∧ W.cell? ⟨w.heap.size, 1, none⟩ = some (.bool false) ∧ W.cell? ⟨w.heap.size, 2, none⟩ = some (.int .i64 gi))
      (first | (with_reducible exact box_3 G2.box) | (with_reducible exact box_3 G1.box) | (with_reducible exact hx0) | (exact box_3 (G.alloc _).drew.box))
      (first
        | (refine step_bytes rfl (.tmp 8) (.tmp 13) 24 rfl base 5 i0 Tryz.underlying24 hi hz0 hz1 hz2 _ _ rfl (G.alloc _).drew.own _ _ _ [126, 0] rfl rfl (lit_twoD _ _ _ _ _ (by simp) rfl rfl) (by omega) (G.alloc _).drew.le ?_; intro v1 w1 h1 g1 _; have G1 := (G.alloc _).drew.step h1 g1)
        | (go_at_call 204; (with_reducible refine (put_const_of base v1 _ 126 gi _ G1.own G1.le (by omega) (by decide) hi0 hi1).mono ?_); rintro e w2 ⟨v2, rfl, h2, n2⟩; have G2 := G1.call h2 n2))
    all_goals
      go_wp2
      go_ret
      exact ⟨_, rfl, G2.own, G2.near⟩
  · have hq : globC d ⟨126, true, gi⟩ = constC (d ++ [126, 1]) 126 gi := rfl
    rw [hq]
    clear hq
    have G := Go1.start hown hb #[.int .i64 126, .bool true, .int .i64 gi] 76 (by decide)
    have hx0 := box_3 G.drew.box
    have l1 : (d ++ [126, 1]).length ≤ 1048578 := by simp; omega
    go_enter Tryz.func141, Tryz.ntmps141
    go_wp2
    go_region_held3 (fun W => W.heap[w.heap.size]? = some (.cells #[.int .i64 126, .bool true, .int .i64 gi] 76) ∧ W.cell? ⟨w.heap.size, 0, none⟩ = some (.int .i64 126) ∧ W.cell? ⟨w.heap.size, 1, none⟩ = some (.bool true) ∧ W.cell? ⟨w.heap.size, 2, none⟩ = some (.int .i64 gi))
      (first | (with_reducible exact box_3 G2.box) | (with_reducible exact box_3 G1.box) | (with_reducible exact hx0) | (exact box_3 (G.alloc _).drew.box))
      (first
        | (refine step_bytes rfl (.tmp 8) (.tmp 13) 24 rfl base 5 i0 Tryz.underlying24 hi hz0 hz1 hz2 _ _ rfl (G.alloc _).drew.own _ _ _ [126, 1] rfl rfl (lit_twoD _ _ _ _ _ (by simp) rfl rfl) (by omega) (G.alloc _).drew.le ?_; intro v1 w1 h1 g1 _; have G1 := (G.alloc _).drew.step h1 g1)
        | (go_at_call 204; (with_reducible refine (put_const_of base v1 _ 126 gi _ G1.own G1.le (by omega) (by decide) hi0 hi1).mono ?_); rintro e w2 ⟨v2, rfl, h2, n2⟩; have G2 := G1.call h2 n2))
    all_goals
      go_wp2
      go_ret
      exact ⟨_, rfl, G2.own, G2.near⟩
  · have hq : globC d ⟨127, false, gi⟩ = constC (d ++ [127, 0]) 127 gi := rfl
    rw [hq]
    clear hq
    have G := Go1.start hown hb #[.int .i64 127, .bool false, .int .i64 gi] 76 (by decide)
    have hx0 := box_3 G.drew.box
    have l1 : (d ++ [127, 0]).length ≤ 1048578 := by simp; omega
    go_enter Tryz.func141, Tryz.ntmps141
    go_wp2
    go_region_held3 (fun W => W.heap[w.heap.size]? = some (.cells #[.int .i64 127, .bool false, .int .i64 gi] 76) ∧ W.cell? ⟨w.heap.size, 0, none⟩ = some (.int .i64 127) ∧ W.cell? ⟨w.heap.size, 1, none⟩ = some (.bool false) ∧ W.cell? ⟨w.heap.size, 2, none⟩ = some (.int .i64 gi))
      (first | (with_reducible exact box_3 G2.box) | (with_reducible exact box_3 G1.box) | (with_reducible exact hx0) | (exact box_3 (G.alloc _).drew.box))
      (first
        | (refine step_bytes rfl (.tmp 8) (.tmp 13) 24 rfl base 5 i0 Tryz.underlying24 hi hz0 hz1 hz2 _ _ rfl (G.alloc _).drew.own _ _ _ [127, 0] rfl rfl (lit_twoD _ _ _ _ _ (by simp) rfl rfl) (by omega) (G.alloc _).drew.le ?_; intro v1 w1 h1 g1 _; have G1 := (G.alloc _).drew.step h1 g1)
        | (go_at_call 204; (with_reducible refine (put_const_of base v1 _ 127 gi _ G1.own G1.le (by omega) (by decide) hi0 hi1).mono ?_); rintro e w2 ⟨v2, rfl, h2, n2⟩; have G2 := G1.call h2 n2))
    all_goals
      go_wp2
      go_ret
      exact ⟨_, rfl, G2.own, G2.near⟩
  · have hq : globC d ⟨127, true, gi⟩ = constC (d ++ [127, 1]) 127 gi := rfl
    rw [hq]
    clear hq
    have G := Go1.start hown hb #[.int .i64 127, .bool true, .int .i64 gi] 76 (by decide)
    have hx0 := box_3 G.drew.box
    have l1 : (d ++ [127, 1]).length ≤ 1048578 := by simp; omega
    go_enter Tryz.func141, Tryz.ntmps141
    go_wp2
    go_region_held3 (fun W => W.heap[w.heap.size]? = some (.cells #[.int .i64 127, .bool true, .int .i64 gi] 76) ∧ W.cell? ⟨w.heap.size, 0, none⟩ = some (.int .i64 127) ∧ W.cell? ⟨w.heap.size, 1, none⟩ = some (.bool true) ∧ W.cell? ⟨w.heap.size, 2, none⟩ = some (.int .i64 gi))
      (first | (with_reducible exact box_3 G2.box) | (with_reducible exact box_3 G1.box) | (with_reducible exact hx0) | (exact box_3 (G.alloc _).drew.box))
      (first
        | (refine step_bytes rfl (.tmp 8) (.tmp 13) 24 rfl base 5 i0 Tryz.underlying24 hi hz0 hz1 hz2 _ _ rfl (G.alloc _).drew.own _ _ _ [127, 1] rfl rfl (lit_twoD _ _ _ _ _ (by simp) rfl rfl) (by omega) (G.alloc _).drew.le ?_; intro v1 w1 h1 g1 _; have G1 := (G.alloc _).drew.step h1 g1)
        | (go_at_call 204; (with_reducible refine (put_const_of base v1 _ 127 gi _ G1.own G1.le (by omega) (by decide) hi0 hi1).mono ?_); rintro e w2 ⟨v2, rfl, h2, n2⟩; have G2 := G1.call h2 n2))
    all_goals
      go_wp2
      go_ret
      exact ⟨_, rfl, G2.own, G2.near⟩
theorem data_of (base : Nat) (v : Value) (d : List UInt8) (t : DatV) (w : World) (hown : Own w base 5 v d) (hb : base ≤ w.heap.size) (hd : d.length ≤ 1048576) (ha : inI64 t.offset) (hs : t.bytes.size ≤ maxLen) :
    Calls Tryz.prog 147 #[v, t.val] w (Adds5 w base (datC d t)) := by
  obtain ⟨i0, hi, hz0, hz1, hz2⟩ := info_parts Tryz.info5
  obtain ⟨off, bt⟩ := t
  obtain ⟨hi0, hi1⟩ : -9223372036854775808 ≤ off ∧ off ≤ 9223372036854775807 := ha
  unfold maxLen at hs
  simp only at hs
  simp only [DatV.val]
  have G := Go1.start hown hb #[.int .i64 off, .string bt] 81 (by decide)
  have l1 : (d ++ [0]).length ≤ 1048577 := by simp; omega
  have l2 := const_len (b := d ++ [0]) (k := 127) hi0 hi1
  have hx0 := box_2 G.drew.box
  go_enter Tryz.func147, Tryz.ntmps147
  go_wp2
  go_region_held3 (fun W => W.heap[w.heap.size]? = some (.cells #[.int .i64 off, .string bt] 81) ∧ W.cell? ⟨w.heap.size, 0, none⟩ = some (.int .i64 off) ∧ W.cell? ⟨w.heap.size, 1, none⟩ = some (.string bt))
    (first | (with_reducible exact box_2 G3.box) | (with_reducible exact box_2 G2.box) | (with_reducible exact box_2 G1.box) | (with_reducible exact hx0) | (exact box_2 (G.alloc _).drew.box))
    (first
      | (refine step_bytes rfl (.tmp 5) (.tmp 6) 24 rfl base 5 i0 Tryz.underlying24 hi hz0 hz1 hz2 _ _ rfl (G.alloc _).drew.own _ _ _ [0] rfl rfl (lit_oneD _ _ _ (by simp) rfl) (by omega) (G.alloc _).drew.le ?_; intro v1 w1 h1 g1 _; have G1 := (G.alloc _).drew.step h1 g1)
      | (go_at_call 204; (with_reducible refine (put_const_of base v1 _ 127 off _ G1.own G1.le (by omega) (by decide) hi0 hi1).mono ?_); rintro e w2 ⟨v2, rfl, h2, n2⟩; have G2 := G1.call h2 n2)
      | (go_at_call 197; (with_reducible refine (text_of base v2 _ bt _ G2.own G2.le (by omega) (by omega)).mono ?_); rintro e w3 ⟨v3, rfl, h3, n3⟩; have G3 := G2.call h3 n3))
  all_goals
    go_wp2
    go_ret
    exact ⟨_, rfl, G3.own, G3.near⟩
theorem export_of (base : Nat) (v : Value) (d : List UInt8) (t : ExpV) (w : World) (hown : Own w base 5 v d) (hb : base ≤ w.heap.size) (hd : d.length ≤ 1048576) (hr : rightExp t = true) (hs : t.name.size ≤ maxLen) :
    Calls Tryz.prog 143 #[v, t.val] w (Adds5 w base (expC d t)) := by
  obtain ⟨i0, hi, hz0, hz1, hz2⟩ := info_parts Tryz.info5
  obtain ⟨nm, kd, ix⟩ := t
  unfold rightExp word4 at hr
  simp only [Bool.and_eq_true, decide_eq_true_eq] at hr
  obtain ⟨_, hk, hx⟩ := hr
  unfold maxLen at hs
  simp only at hs
  simp only [ExpV.val]
  have c := fun W hW hB => text_grown base v d nm W hW hB (by omega) (by omega)
  have l1 := text_len (b := d) (s := nm.data.toList) (by rw [show nm.data.toList.length = nm.size from Array.length_toList]; omega)
  rcases hk with rfl | rfl | rfl
  · have hq : expC d ⟨nm, 0, ix⟩ = numC (textC d nm.data.toList ++ [0]) ix := rfl
    rw [hq]
    clear hq
    have G := Go1.start hown hb #[.string nm, .int .i64 0, .int .i64 ix] 79 (by decide)
    have hx0 := box_3 G.drew.box
    have l2 : (textC d nm.data.toList ++ [0]).length ≤ 2097170 := by rw [List.length_append]; simp only [List.length_singleton]; omega
    go_enter Tryz.func143, Tryz.ntmps143
    go_wp2
    go_region_held3 (fun W => W.heap[w.heap.size]? = some (.cells #[.string nm, .int .i64 0, .int .i64 ix] 79) ∧ W.cell? ⟨w.heap.size, 0, none⟩ = some (.string nm) ∧ W.cell? ⟨w.heap.size, 1, none⟩ = some (.int .i64 0) ∧ W.cell? ⟨w.heap.size, 2, none⟩ = some (.int .i64 ix))
      (first | (with_reducible exact box_3 G3.box) | (with_reducible exact box_3 G2.box) | (with_reducible exact box_3 G1.box) | (with_reducible exact hx0) | (exact box_3 (G.alloc _).drew.box) | (exact box_3 (G1.alloc _).box))
      (first
        | (go_at_call 197; (with_reducible refine (c _ G.drew.own G.drew.le).mono ?_); rintro e w1 ⟨v1, rfl, A1⟩; have G1 := G.drew.call A1.own (A1.near G.drew.own))
        | (go_at_call 197; (with_reducible refine (c _ (G.alloc _).drew.own (G.alloc _).drew.le).mono ?_); rintro e w1 ⟨v1, rfl, A1⟩; have G1 := (G.alloc _).drew.call A1.own (A1.near (G.alloc _).drew.own); have g1 := A1.grown)
        | (refine step_bytes rfl (.tmp 8) (.tmp 12) 24 rfl base 5 i0 Tryz.underlying24 hi hz0 hz1 hz2 _ _ rfl (G1.alloc _).own _ _ _ [0] rfl rfl (lit_one _ _ _ (by simp) rfl) (by omega) (G1.alloc _).le ?_; intro v2 w2 h2 g2 _; have G2 := (G1.alloc _).step h2 g2)
        | (refine step_bytes rfl (.tmp 8) (.tmp 12) 24 rfl base 5 i0 Tryz.underlying24 hi hz0 hz1 hz2 _ _ rfl G1.own _ _ _ [0] rfl rfl (lit_after G.own _ _ _ g1 (by simp) rfl) (by omega) G1.le ?_; intro v2 w2 h2 g2 _; have G2 := G1.step h2 g2)
        | (go_at_call 137; (with_reducible refine (number_of base v2 _ ix _ G2.own G2.le (by omega) (by omega) (by omega)).mono ?_); rintro e w3 ⟨v3, rfl, h3, n3⟩; have G3 := G2.call h3 n3))
    all_goals
      go_wp2
      go_ret
      exact ⟨_, rfl, G3.own, G3.near⟩
  · have hq : expC d ⟨nm, 2, ix⟩ = numC (textC d nm.data.toList ++ [2]) ix := rfl
    rw [hq]
    clear hq
    have G := Go1.start hown hb #[.string nm, .int .i64 2, .int .i64 ix] 79 (by decide)
    have hx0 := box_3 G.drew.box
    have l2 : (textC d nm.data.toList ++ [2]).length ≤ 2097170 := by rw [List.length_append]; simp only [List.length_singleton]; omega
    go_enter Tryz.func143, Tryz.ntmps143
    go_wp2
    go_region_held3 (fun W => W.heap[w.heap.size]? = some (.cells #[.string nm, .int .i64 2, .int .i64 ix] 79) ∧ W.cell? ⟨w.heap.size, 0, none⟩ = some (.string nm) ∧ W.cell? ⟨w.heap.size, 1, none⟩ = some (.int .i64 2) ∧ W.cell? ⟨w.heap.size, 2, none⟩ = some (.int .i64 ix))
      (first | (with_reducible exact box_3 G3.box) | (with_reducible exact box_3 G2.box) | (with_reducible exact box_3 G1.box) | (with_reducible exact hx0) | (exact box_3 (G.alloc _).drew.box) | (exact box_3 (G1.alloc _).box))
      (first
        | (go_at_call 197; (with_reducible refine (c _ G.drew.own G.drew.le).mono ?_); rintro e w1 ⟨v1, rfl, A1⟩; have G1 := G.drew.call A1.own (A1.near G.drew.own))
        | (go_at_call 197; (with_reducible refine (c _ (G.alloc _).drew.own (G.alloc _).drew.le).mono ?_); rintro e w1 ⟨v1, rfl, A1⟩; have G1 := (G.alloc _).drew.call A1.own (A1.near (G.alloc _).drew.own); have g1 := A1.grown)
        | (refine step_bytes rfl (.tmp 8) (.tmp 12) 24 rfl base 5 i0 Tryz.underlying24 hi hz0 hz1 hz2 _ _ rfl (G1.alloc _).own _ _ _ [2] rfl rfl (lit_one _ _ _ (by simp) rfl) (by omega) (G1.alloc _).le ?_; intro v2 w2 h2 g2 _; have G2 := (G1.alloc _).step h2 g2)
        | (refine step_bytes rfl (.tmp 8) (.tmp 12) 24 rfl base 5 i0 Tryz.underlying24 hi hz0 hz1 hz2 _ _ rfl G1.own _ _ _ [2] rfl rfl (lit_after G.own _ _ _ g1 (by simp) rfl) (by omega) G1.le ?_; intro v2 w2 h2 g2 _; have G2 := G1.step h2 g2)
        | (go_at_call 137; (with_reducible refine (number_of base v2 _ ix _ G2.own G2.le (by omega) (by omega) (by omega)).mono ?_); rintro e w3 ⟨v3, rfl, h3, n3⟩; have G3 := G2.call h3 n3))
    all_goals
      go_wp2
      go_ret
      exact ⟨_, rfl, G3.own, G3.near⟩
  · have hq : expC d ⟨nm, 3, ix⟩ = numC (textC d nm.data.toList ++ [3]) ix := rfl
    rw [hq]
    clear hq
    have G := Go1.start hown hb #[.string nm, .int .i64 3, .int .i64 ix] 79 (by decide)
    have hx0 := box_3 G.drew.box
    have l2 : (textC d nm.data.toList ++ [3]).length ≤ 2097170 := by rw [List.length_append]; simp only [List.length_singleton]; omega
    go_enter Tryz.func143, Tryz.ntmps143
    go_wp2
    go_region_held3 (fun W => W.heap[w.heap.size]? = some (.cells #[.string nm, .int .i64 3, .int .i64 ix] 79) ∧ W.cell? ⟨w.heap.size, 0, none⟩ = some (.string nm) ∧ W.cell? ⟨w.heap.size, 1, none⟩ = some (.int .i64 3) ∧ W.cell? ⟨w.heap.size, 2, none⟩ = some (.int .i64 ix))
      (first | (with_reducible exact box_3 G3.box) | (with_reducible exact box_3 G2.box) | (with_reducible exact box_3 G1.box) | (with_reducible exact hx0) | (exact box_3 (G.alloc _).drew.box) | (exact box_3 (G1.alloc _).box))
      (first
        | (go_at_call 197; (with_reducible refine (c _ G.drew.own G.drew.le).mono ?_); rintro e w1 ⟨v1, rfl, A1⟩; have G1 := G.drew.call A1.own (A1.near G.drew.own))
        | (go_at_call 197; (with_reducible refine (c _ (G.alloc _).drew.own (G.alloc _).drew.le).mono ?_); rintro e w1 ⟨v1, rfl, A1⟩; have G1 := (G.alloc _).drew.call A1.own (A1.near (G.alloc _).drew.own); have g1 := A1.grown)
        | (refine step_bytes rfl (.tmp 8) (.tmp 12) 24 rfl base 5 i0 Tryz.underlying24 hi hz0 hz1 hz2 _ _ rfl (G1.alloc _).own _ _ _ [3] rfl rfl (lit_one _ _ _ (by simp) rfl) (by omega) (G1.alloc _).le ?_; intro v2 w2 h2 g2 _; have G2 := (G1.alloc _).step h2 g2)
        | (refine step_bytes rfl (.tmp 8) (.tmp 12) 24 rfl base 5 i0 Tryz.underlying24 hi hz0 hz1 hz2 _ _ rfl G1.own _ _ _ [3] rfl rfl (lit_after G.own _ _ _ g1 (by simp) rfl) (by omega) G1.le ?_; intro v2 w2 h2 g2 _; have G2 := G1.step h2 g2)
        | (go_at_call 137; (with_reducible refine (number_of base v2 _ ix _ G2.own G2.le (by omega) (by omega) (by omega)).mono ?_); rintro e w3 ⟨v3, rfl, h3, n3⟩; have G3 := G2.call h3 n3))
    all_goals
      go_wp2
      go_ret
      exact ⟨_, rfl, G3.own, G3.near⟩
end Go.Proofs.YtdinpakclmnacaaGreatDoor
