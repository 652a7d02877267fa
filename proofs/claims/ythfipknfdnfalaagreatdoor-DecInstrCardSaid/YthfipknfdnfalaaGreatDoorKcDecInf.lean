/-
  Package dec's infos: what is told of a code, kept in a map: walked. A contract that the proofs call; no statement is proved here.
-/
import Derived.Test.YthfipknfdnfalaaGreatDoorKcDecRdB
import Derived.Test.YthfipknfdnfalaaGreatDoorKcModLib
import Derived.Test.YthfipknfdnfalaaGreatDoorKcEncNum
namespace Go.Proofs.YthfipknfdnfalaaGreatDoor
set_option maxRecDepth 100000
set_option maxHeartbeats 16000000
open Go.RowKit Go.Maps
set_option linter.unusedVariables false
theorem Infos.put {M : Nat} {w w' : World} {D : DataW Unit} (h : Infos M w D) {c : Int} {r : Rw} (hc : byCode c = some r) (hno : Maps.has D (.int .i64 c) = false)
    (hown : w'.ownsMap Tryz.prog 3 (infoRead (H := Unit)) M (cnt6 (fun c => Maps.has D (.int .i64 (c : Int))) 256 + 1) (D.put (.int .i64 c) (infoD r.name r.shape r.params r.results))) : Infos M w' (D.put (.int .i64 c) (infoD r.name r.shape r.params r.results)) := by
  have h6 := byCode_6 hc
  obtain ⟨k, rfl⟩ := Int.eq_ofNat_of_zero_le h6.2.2.2.1
  have hk : WideAt.IsKeyLit (.int .i64 (k : Int)) := trivial
  refine ⟨?_, h.map.put _ _, fun c' hc' => ?_⟩
  · have e := cnt6_more (p := fun c => Maps.has D (.int .i64 (c : Int))) (q := fun c => Maps.has (D.put (.int .i64 (k : Int)) (infoD r.name r.shape r.params r.results)) (.int .i64 (c : Int))) (c := k) hno (has_put_same h.map hk _) (fun j hj => has_put_other (key_ne (by omega)) _) 256
    rw [if_pos (by omega)] at e
    rw [e]
    exact hown
  · by_cases he : c' = (k : Int)
    · subst he
      exact ⟨r, hc, atKey_put_same h.map hk _ _⟩
    · rw [has_put_other (key_ne he)] at hc'
      rw [atKey_put_other (key_ne he)]
      exact h.known c' hc'
theorem RdAt.map {w0 : World} {B M : Nat} {T : TypeId} {rest : List Value} {r : RV} {w w' : World} {D : DataW Unit} (h : RdAt w0 B M T rest r w) (hg : w.grownBy w' (some M)) (hD : Infos M w' D) : RdAt w0 B M T rest r w' :=
  ⟨h.below.trans ⟨hg.os, hg.tape, hg.output, hg.size, fun k hk => hg.block k (Nat.lt_of_lt_of_le hk h.below.size) (fun e => by injection e with e; have := h.hM; omega)⟩, (hg.block B (in_heap6 h.box) (fun e => h.ne (by injection e with e; exact e.symm))).trans h.box, ⟨D, hD⟩, h.ne, h.hB, h.hM, h.size, h.pos⟩
theorem Mov.map {B M : Nat} {w w1 w2 : World} (h : Mov B M w w1) (g : w1.grownBy w2 (some M)) : Mov B M w w2 :=
  ⟨g.os.trans h.os, g.tape.trans h.tape, g.output.trans h.output, Nat.le_trans h.size g.size, fun k hk h1 h2 => (g.block k (Nat.lt_of_lt_of_le hk h.size) (fun e => by injection e with e; exact h2 e)).trans (h.block k hk h1 h2)⟩
theorem Mov.trans' {B M : Nat} {a b c : World} (h : Mov B M a b) (hk : ∀ k, k < a.heap.size → c.heap[k]? = b.heap[k]?) (e1 : c.os = b.os) (e2 : c.tape = b.tape) (e3 : c.output = b.output) (e4 : b.heap.size ≤ c.heap.size) : Mov B M a c :=
  ⟨e1.trans h.os, e2.trans h.tape, e3.trans h.output, Nat.le_trans h.size e4, fun k h0 h1 h2 => (hk k h0).trans (h.block k h0 h1 h2)⟩
theorem RdAt.other {w0 : World} {B M : Nat} {T : TypeId} {rest : List Value} {r : RV} {w : World} (h : RdAt w0 B M T rest r w) {b : Nat} (j : Nat) (v : Value) (h1 : b ≠ B) (h2 : b ≠ M) (h3 : w0.heap.size ≤ b) : RdAt w0 B M T rest r (w.setCell ⟨b, j, none⟩ v) := by
  obtain ⟨D, hD⟩ := h.infos
  exact ⟨h.below.setCell h3 v, (Below.heap_setCell _ _ _ _ (fun e => h1 e.symm)).trans h.box, ⟨D, hD.same (Below.heap_setCell _ _ _ _ (fun e => h2 e.symm))⟩, h.ne, h.hB, h.hM, h.size, h.pos⟩
theorem Mov.setNew {B M : Nat} {w w' : World} (h : Mov B M w w') {b : Nat} (j : Nat) (v : Value) (hb : w.heap.size ≤ b) : Mov B M w (w'.setCell ⟨b, j, none⟩ v) :=
  h.trans' (fun k hk => Below.heap_setCell _ _ _ _ (by show k ≠ b; omega)) rfl rfl rfl (by simp [World.setCell])
theorem box6_4 {W : World} {b : Nat} {u0 u1 u2 u3 : Value} {t : TypeId} (h : W.heap[b]? = some (.cells #[u0, u1, u2, u3] t)) : W.heap[b]? = some (.cells #[u0, u1, u2, u3] t) ∧ W.cell? ⟨b, 0, none⟩ = some u0 ∧ W.cell? ⟨b, 1, none⟩ = some u1 ∧ W.cell? ⟨b, 2, none⟩ = some u2 ∧ W.cell? ⟨b, 3, none⟩ = some u3 := ⟨h, by simp [World.cell?, h], by simp [World.cell?, h], by simp [World.cell?, h], by simp [World.cell?, h]⟩
theorem info_parts6 (o : Option Rw) : ∃ n s p r, infoVal o = .agg #[.string n, .int .i64 s, .string p, .string r] := by
  cases o
  · exact ⟨_, _, _, _, rfl⟩
  · exact ⟨_, _, _, _, rfl⟩
theorem infos_of {w0 : World} (hL : Spaces w0) {B M : Nat} {T : TypeId} {rest : List Value} {r : RV} {w : World} (h : RdAt w0 B M T rest r w) (c : Int) (hc : 0 ≤ c ∧ c < 256) :
    Calls Tryz.prog 147 #[.map (some M), .int .i64 c] w fun e w' => e = .returned (.tuple #[infoVal (byCode c), .bool (byCode c).isSome]) ∧ RdAt w0 B M T rest r w' ∧ Mov B M w w' := by
  obtain ⟨D, hD⟩ := h.infos
  have law : Keyed Tryz.prog 3 := int_keyed Tryz.underlying3
  have hz : infoRead (H := Unit) (.agg #[.string ⟨#[]⟩, .int .i64 0, .string ⟨#[]⟩, .string ⟨#[]⟩]) = some (infoD ⟨#[]⟩ 0 ⟨#[]⟩ ⟨#[]⟩, []) := rfl
  have hkey := keyOf_int_mk Tryz.underlying3 (WalkArith.wf_i64 (⟨by omega, by omega⟩ : -9223372036854775808 ≤ c ∧ c ≤ 9223372036854775807))
  have h1 := h.alloc (.cells #[.string ⟨#[]⟩, .int .i64 0, .string ⟨#[]⟩, .string ⟨#[]⟩] 200)
  have ho := hD.own.alloc (.cells #[.string ⟨#[]⟩, .int .i64 0, .string ⟨#[]⟩, .string ⟨#[]⟩] 200)
  obtain ⟨v, vp, hlk, hv⟩ := ho.look_ok law Tryz.underlying109 (info_zero _) hz hkey
  by_cases hh : Maps.has D (.int .i64 c) = true
  · obtain ⟨R, hR, hat⟩ := hD.known c hh
    rw [hh] at hlk
    rw [show infoD ⟨#[]⟩ 0 ⟨#[]⟩ ⟨#[]⟩ = zinfo from rfl, hat] at hv
    have e := infoRead_inv hv
    subst e
    rw [hR]
    obtain ⟨vn, vs, vq, vr, hI⟩ := info_parts6 (some R)
    rw [show (Value.agg #[.string R.name, .int .i64 R.shape, .string R.params, .string R.results]) = infoVal (some R) from rfl, hI] at hlk
    rw [hI]
    clear hI hv hat hD ho h1
    go_enter Tryz.func147, Tryz.ntmps147
    go_wp2
    refine bodyPost_ret (v := .tuple #[.agg #[.string vn, .int .i64 vs, .string vq, .string vr], .bool true]) ?_ rfl ?_
    · rw [results_cell_tmp rfl]; go_simp
    · exact ⟨rfl, (h.alloc _).alloc _, ((Mov.refl _ _ _).alloc _).alloc _⟩
  · have hh : Maps.has D (.int .i64 c) = false := by simpa using hh
    rw [hh] at hlk
    have hat : D.atKey (.int .i64 c) (infoD ⟨#[]⟩ 0 ⟨#[]⟩ ⟨#[]⟩) = infoD ⟨#[]⟩ 0 ⟨#[]⟩ ⟨#[]⟩ := atKey_of_not_has hh _
    rw [hat] at hv
    have e := infoRead_inv hv
    subst e
    have hBa := (Below.refl w.heap.size w).alloc (Nat.le_refl _) (.cells #[.string ⟨#[]⟩, .int .i64 0, .string ⟨#[]⟩, .string ⟨#[]⟩] 200)
    have hBb := hBa.alloc (by simp) (.cells #[.string ⟨#[]⟩, .int .i64 0, .string ⟨#[]⟩, .string ⟨#[]⟩] 200)
    have co := op_of c (by omega) (by omega) _ (hL.below (h.below.trans (hBb.mono h.below.size)))
    clear hv hat h1
    obtain ⟨vn, vs, vq, vr, hI⟩ := info_parts6 (byCode c)
    obtain ⟨ok, hok⟩ : ∃ ok, (byCode c).isSome = ok := ⟨_, rfl⟩
    rw [hI, hok] at co ⊢
    have HI := Lib.hid hI
    have HO := Lib.hid hok
    have hwi : w.heap.size < ((w.alloc (.cells #[.string ⟨#[]⟩, .int .i64 0, .string ⟨#[]⟩, .string ⟨#[]⟩] 200)).alloc (.cells #[.string ⟨#[]⟩, .int .i64 0, .string ⟨#[]⟩, .string ⟨#[]⟩] 200)).heap.size := by simp; omega
    have hbox : ((w.alloc (.cells #[.string ⟨#[]⟩, .int .i64 0, .string ⟨#[]⟩, .string ⟨#[]⟩] 200)).alloc (.cells #[.string ⟨#[]⟩, .int .i64 0, .string ⟨#[]⟩, .string ⟨#[]⟩] 200)).heap[w.heap.size]? = some (.cells #[.string ⟨#[]⟩, .int .i64 0, .string ⟨#[]⟩, .string ⟨#[]⟩] 200) := by rw [Below.heap_alloc _ _ _ (by simp)]; exact heap_alloc_new _ _
    have HB := Lib.hid hBb
    clear hI hok ho hBa hBb
    cases ok with
    | false =>
      go_enter Tryz.func147, Tryz.ntmps147
      go_wp2_with (go_at_call 183; (with_reducible refine co.mono ?_); rintro e w3 ⟨rfl, hb3⟩; have hbx := (hb3.block _ hwi).trans hbox; obtain ⟨_, k0, k1, k2, k3⟩ := box6_4 hbx; have hlt3 : w.heap.size < w3.heap.size := Nat.lt_of_lt_of_le hwi hb3.size; have z := fun j => (by simp [World.frozen?, hbx] : w3.frozen? ⟨w.heap.size, j, none⟩ = false); have z0 := z 0; have z1 := z 1; have z2 := z 2; have z3 := z 3; clear z; have q0 := fun o => (World.cell?_alloc_lt w3 o (⟨w.heap.size, 0, none⟩ : Addr) hlt3).trans k0; have q1 := fun o => (World.cell?_alloc_lt w3 o (⟨w.heap.size, 1, none⟩ : Addr) hlt3).trans k1; have q2 := fun o => (World.cell?_alloc_lt w3 o (⟨w.heap.size, 2, none⟩ : Addr) hlt3).trans k2; have q3 := fun o => (World.cell?_alloc_lt w3 o (⟨w.heap.size, 3, none⟩ : Addr) hlt3).trans k3)
      refine bodyPost_ret (v := .tuple #[.agg #[.string vn, .int .i64 vs, .string vq, .string vr], .bool false]) ?_ rfl ?_
      · rw [results_cell_tmp rfl]; go_simp
      · have hW : ∀ W', Below w.heap.size w W' → RdAt w0 B M T rest r W' ∧ Mov B M w W' := fun W' hW => ⟨h.at' hW, Mov.of_below hW⟩
        have hB3 := HB.out.trans (hb3.mono HB.out.size)
        refine ⟨rfl, hW _ ?_⟩
        exact ((((hB3.setCell (Nat.le_refl _) _).setCell (Nat.le_refl _) _).setCell (Nat.le_refl _) _).setCell (Nat.le_refl _) _).alloc (by simp [World.setCell]; omega) _
    | true =>
      obtain ⟨R, hR⟩ : ∃ R, byCode c = some R := by
        cases hq : byCode c with
        | none => have := HO.out; rw [hq] at this; cases this
        | some R => exact ⟨R, rfl⟩
      have hI2 := HI.out
      rw [hR] at hI2
      have hinf : infoRead (H := Unit) (.agg #[.string vn, .int .i64 vs, .string vq, .string vr]) = some (infoD R.name R.shape R.params R.results, []) := by rw [← hI2]; rfl
      have HR := Lib.hid hR
      clear hI2 hR
      go_enter Tryz.func147, Tryz.ntmps147
      go_wp2_with (go_at_call 183; (with_reducible refine co.mono ?_); rintro e w3 ⟨rfl, hb3⟩; have hB3 := HB.out.trans (hb3.mono HB.out.size); have hMs := (ownsMap_in hD.own); have ho3 := (ownsMap_same hD.own (hB3.block M hMs)).alloc (.cells #[.string vn, .int .i64 vs, .string vq, .string vr] 200); obtain ⟨w4, hu, hown4, hg4⟩ := ho3.update law Tryz.underlying109 (by have := cnt6_le (fun c => Maps.has D (.int .i64 (c : Int))) 256; unfold maxLen; omega) hkey hinf; have hbx := (hb3.block _ hwi).trans hbox; have hlt3 : w.heap.size < w3.heap.size := Nat.lt_of_lt_of_le hwi hb3.size; have hne0 : w.heap.size ≠ M := (by omega); have hne3 : w3.heap.size ≠ M := (by omega); have hbx4 := (hg4.block w.heap.size (by simp; omega) (fun e => hne0 (by injection e))).trans ((Below.heap_alloc _ _ _ hlt3).trans hbx); have hin4 := (hg4.block w3.heap.size (by simp) (fun e => hne3 (by injection e))).trans (heap_alloc_new w3 _); obtain ⟨_, k0, k1, k2, k3⟩ := box6_4 hbx4; obtain ⟨_, i0, i1, i2, i3⟩ := box6_4 hin4; have z := fun j => (by simp [World.frozen?, hbx4] : w4.frozen? ⟨w.heap.size, j, none⟩ = false); have z0 := z 0; have z1 := z 1; have z2 := z 2; have z3 := z 3; clear z hbx hbx4 hin4 ho3)
      refine bodyPost_ret (v := .tuple #[.agg #[.string vn, .int .i64 vs, .string vq, .string vr], .bool true]) ?_ rfl ?_
      · rw [results_cell_tmp rfl]; go_simp
      · have hlt := h.lt
        have hw0 := h.below.size
        have h4 : RdAt w0 B M T rest r w4 := (h.at' (hB3.alloc (Nat.le_of_lt hlt3) _)).map hg4 (hD.put HR.out hh hown4)
        have m4 : Mov B M w w4 := (Mov.of_below (hB3.alloc (Nat.le_of_lt hlt3) _)).map hg4
        have n1 : w.heap.size ≠ B := by omega
        have n2 : w.heap.size ≠ M := by omega
        exact ⟨rfl, (((h4.other 0 _ n1 n2 hw0).other 1 _ n1 n2 hw0).other 2 _ n1 n2 hw0).other 3 _ n1 n2 hw0, (((m4.setNew 0 _ (Nat.le_refl _)).setNew 1 _ (Nat.le_refl _)).setNew 2 _ (Nat.le_refl _)).setNew 3 _ (Nat.le_refl _)⟩
end Go.Proofs.YthfipknfdnfalaaGreatDoor
namespace Go.Proofs.YthfipknfdnfalaaGreatDoor
set_option maxRecDepth 100000
set_option maxHeartbeats 16000000
open Go.RowKit
set_option linter.unusedVariables false
structure RunV where
  many : Nat
  kind : UInt8
def RunV.row (x : RunV) : List Value := [.int .i64 x.many, .int .u8 x.kind.toNat]
def RunV.val (x : RunV) : Value := .agg #[.int .i64 x.many, .int .u8 x.kind.toNat]
def intRow (n : Int) : List Value := [.int .i64 n]
def intVal (n : Int) : Value := .int .i64 n
def Puts {α : Type} (g : Nat) (val : α → Value) (ok : World → α → Prop) (F : List UInt8 → α → List UInt8) (w0 : World) : Prop :=
  ∀ (x : α) (W : World) (base : Nat) (v : Value) (d : List UInt8), Below w0.heap.size w0 W → w0.heap.size ≤ base → base ≤ W.heap.size → Own W base 5 v d → d.length ≤ 1048576 → ok W x →
    Calls Tryz.prog g #[v, val x] W (Adds5 W base (F d x))
structure Puttable {α : Type} (c : Nat) (row : α → List Value) (ok : World → α → Prop) (F : List UInt8 → α → List UInt8) (K : Nat) (w0 : World) (p : Option Addr) (n : Nat) (l : List α) : Prop where
  len : l.length = n
  most : n ≤ 281474976710656
  rows : RowsAt w0 p c row l
  fine : ∀ x ∈ l, ∀ W, Below w0.heap.size w0 W → ok W x
  adds : ∀ x ∈ l, Adds F K x
  few : K ≤ 1000000000
theorem each_Int {g : Nat} {F : List UInt8 → Int → List UInt8} {ok : World → Int → Prop} {w0 : World} {K : Nat} (h : Puts g intVal ok F w0) (eg : ∀ args w, (callFunc g args).run Tryz.prog w = .ok (.enter g args) w) (p : Option Addr) (n cap : Nat) (l : List Int) (H : Puttable 1 intRow ok F K w0 p n l) (base : Nat) (hb0 : w0.heap.size ≤ base) (w : World) (hB0 : Below w0.heap.size w0 w) (hb : base ≤ w.heap.size) (v : Value) (d : List UInt8) (hown : Own w base 5 v d) (hd : d.length ≤ 1002000000) :
    Calls Tryz.prog 259 #[v, .slice p n cap, .func (.func g) #[] #[]] w (Adds5 w base (eachC F d l)) := by
  obtain ⟨R, hR⟩ : ∃ R, R = eachC F d l := ⟨_, rfl⟩
  rw [← hR]
  have HR : Hid (R = eachC F d (l.drop 0)) := Lib.hid hR
  have HN := Lib.hid H.len
  have hm := H.most
  have hKb := H.few
  have hs0 := hB0.size
  clear hR
  obtain ⟨vp, vc, rfl⟩ := hown.any
  go_enter Tryz.func259, Tryz.ntmps259
  go_wp2
  go_loopw [0, 11] (fun u i wr => ∃ (k : Nat) (e : List UInt8), k ≤ n ∧ i = .int .i64 k ∧ Own wr base 5 u e ∧ Near base w wr ∧ e.length ≤ 1002000000 ∧ Hid (R = eachC F e (l.drop k))) (fun _ i _ => n - (intOf i).toNat)
  case atStart => exact ⟨0, d, by omega, rfl, hown, Near.refl _ _, by omega, HR⟩
  case round =>
    clear HR hown hd
    obtain ⟨k, e, hk, rfl, hown', hN, hel, HK⟩ := hrel
    obtain ⟨up, uc, rfl⟩ := hown'.any
    obtain ⟨en, hen⟩ : ∃ en, e.length = en := ⟨_, rfl⟩
    have hbr := Nat.le_trans hb hN.size
    by_cases hlt : k < n
    · have hlt' : k < l.length := by have := HN.out; omega
      have hD := HK.out
      rw [List.drop_eq_getElem_cons hlt', eachC_cons] at hD
      have hBw := hB0.trans ((hN.below hb).mono hb0)
      have hrows := H.rows.below hBw (Nat.le_refl _)
      obtain ⟨b, o, hp, hbb, e0⟩ := hrows k hlt' 0 _ rfl
      subst hp
      by_cases hgo : (1048576 : Int) < en
      · rw [if_pos (by omega)] at hD
        have HD := Lib.hid hD
        have HE := Lib.hid hen
        rw [hen]
        rw [hen] at hown'
        clear hD hrows h H hen HK
        generalize l[k] = x at *
        simp only [Nat.add_zero, Nat.mul_one] at e0
        go_wp2
        go_ret
        exact ⟨_, rfl, by rw [HD.out]; exact hown', hN⟩
      · rw [if_neg (by omega)] at hD
        have hsw := Nat.le_trans hs0 hN.size
        have cq := fun (W : World) (hW : Below wr.heap.size wr W) => h l[k] W base _ e (hBw.trans (hW.mono hsw)) hb0 (Nat.le_trans hbr hW.size) (hown'.below hW) (by omega) (H.fine _ (List.getElem_mem hlt') W (hBw.trans (hW.mono hsw)))
        have hlen := H.adds _ (List.getElem_mem hlt') e (by omega)
        have HD := Lib.hid hD
        have HE := Lib.hid hen
        rw [hen]
        rw [hen] at cq
        clear hD hrows h H hen HK hown'
        generalize l[k] = x at *
        obtain ⟨r, hr⟩ : ∃ r, r = F e x := ⟨_, rfl⟩
        rw [← hr] at cq hlen
        have HF := Lib.hid hr
        clear hr
        simp only [Nat.add_zero, Nat.mul_one, intVal] at e0 cq
        go_wp2_with fail
        refine (cq _ ?_).mono ?_
        · exact Below.refl _ wr
        rintro e' w1 ⟨v1, rfl, h1, n1⟩
        dsimp only
        go_wp2
        go_roundw
        case rel => exact ⟨k + 1, r, by omega, by go_num, h1, hN.trans n1, by omega, Lib.hid (by rw [HD.out, HF.out])⟩
        case measure => simp [intOf]; omega
    · have hk' : l.length ≤ k := by have := HN.out; omega
      have hD := HK.out
      rw [List.drop_eq_nil_of_le hk'] at hD
      have HD : Hid (R = e) := Lib.hid hD
      have HE := Lib.hid hen
      rw [hen]
      rw [hen] at hown'
      clear hD hk' hen HK
      go_wp2
      go_ret
      exact ⟨_, rfl, by rw [HD.out]; exact hown', hN⟩
theorem list_Int {g : Nat} {F : List UInt8 → Int → List UInt8} {ok : World → Int → Prop} {w0 : World} {K : Nat} (h : Puts g intVal ok F w0) (eg : ∀ args w, (callFunc g args).run Tryz.prog w = .ok (.enter g args) w) (p : Option Addr) (n cap : Nat) (l : List Int) (H : Puttable 1 intRow ok F K w0 p n l) (base : Nat) (hb0 : w0.heap.size ≤ base) (w : World) (hB0 : Below w0.heap.size w0 w) (hb : base ≤ w.heap.size) (v : Value) (d : List UInt8) (hown : Own w base 5 v d) (hd : d.length ≤ 1001000000) :
    Calls Tryz.prog 188 #[v, .slice p n cap, .func (.func g) #[] #[]] w (Adds5 w base (listC F d l)) := by
  have hm := H.most
  have c1 := fun hx hy => number_of base v d (n : Int) w hown hb hx (by omega) hy
  have c2 := fun (w1 : World) (v1 : Value) (h1 : Own w1 base 5 v1 (numC d n)) (n1 : Near base w w1) hl => each_Int h eg p n cap l H base hb0 w1 (hB0.trans ((n1.below hb).mono hb0)) (Nat.le_trans hb n1.size) v1 _ h1 hl
  have hq : eachC F (numC d n) l = listC F d l := by unfold listC; rw [H.len]
  have hl := num_len (b := d) (n := (n : Int)) (by omega) (by omega)
  have HQ := Lib.hid hq
  have c1 := c1 (by omega) (by omega)
  clear hq h H hown
  go_enter Tryz.func188, Tryz.ntmps188
  go_wp2_with (first
    | (go_at_call 160; (with_reducible refine c1.mono ?_); rintro e w1 ⟨v1, rfl, h1, n1⟩)
    | (go_at_call 259; (with_reducible refine (c2 _ _ h1 n1 (by omega)).mono ?_); rintro e w2 ⟨v2, rfl, h2, n2⟩))
  go_ret
  exact ⟨_, rfl, by rw [← HQ.out]; exact h2, n1.trans n2⟩
structure Go1 (base : Nat) (w : World) (b : Nat) (cs : Array Value) (t : TypeId) (W : World) (v : Value) (d : List UInt8) : Prop where
  own : Own W base 5 v d
  near : Near base w W
  box : W.heap[b]? = some (.cells cs t)
  le : base ≤ W.heap.size
  ne : t ≠ 5
theorem Go1.start {base : Nat} {w : World} {v : Value} {d : List UInt8} (hown : Own w base 5 v d) (hb : base ≤ w.heap.size) (cs : Array Value) (t : TypeId) (ht : t ≠ 5) : Go1 base w w.heap.size cs t (w.alloc (.cells cs t)) v d :=
  ⟨hown.alloc _, (Near.refl _ _).alloc _, heap_alloc_new _ _, by simp; omega, ht⟩
theorem Go1.alloc {base b : Nat} {w W : World} {cs : Array Value} {t : TypeId} {v : Value} {d : List UInt8} (h : Go1 base w b cs t W v d) (o : Obj) : Go1 base w b cs t (W.alloc o) v d :=
  ⟨h.own.alloc o, h.near.alloc o, (Below.heap_alloc W o b (heap_lt9 h.box)).trans h.box, by have := h.le; simp; omega, h.ne⟩
theorem Go1.drew {base b : Nat} {w W : World} {cs : Array Value} {t : TypeId} {v : Value} {d : List UInt8} (h : Go1 base w b cs t W v d) : Go1 base w b cs t W.drew v d :=
  ⟨h.own.drew, h.near.drew, h.box, h.le, h.ne⟩
theorem Go1.step {base b : Nat} {w W W' : World} {cs : Array Value} {t : TypeId} {v v' : Value} {d d' : List UInt8} (h : Go1 base w b cs t W v d) (ho : Own W' base 5 v' d') (hg : W.grownBy W' v.ownBlock) : Go1 base w b cs t W' v' d' :=
  ⟨ho, h.near.grew h.own hg, (Near.of_grown h.own hg).box h.box h.ne, Nat.le_trans h.le hg.size, h.ne⟩
theorem Go1.call {base b : Nat} {w W W' : World} {cs : Array Value} {t : TypeId} {v v' : Value} {d d' : List UInt8} (h : Go1 base w b cs t W v d) (ho : Own W' base 5 v' d') (hn : Near base W W') : Go1 base w b cs t W' v' d' :=
  ⟨ho, h.near.trans hn, hn.box h.box h.ne, Nat.le_trans h.le hn.size, h.ne⟩
theorem lit_one {W : World} (k : Nat) (n : Int) (c : UInt8) (hk : k = W.heap.size) (hc : (c.toNat : Int) = n) {t : TypeId} : ∀ j b, [c][j]? = some b → (W.alloc (.cells #[.int .u8 n] t)).cell? ((⟨k, 0, none⟩ : Addr).add j) = some (.int .u8 (b.toNat : Int)) := by
  intro j b hj
  subst hk; subst hc
  exact lit_at (l := [c]) j b hj
theorem ints_rows5 {w : World} {p : Option Addr} {ls : List Int} (h : IntsAt w p ls) : RowsAt w p 1 intRow ls := fun j hj i v hv => by
  obtain ⟨b, o, hp, hb, hc⟩ := h j hj
  match i, hv with
  | 0, hv => simp [intRow] at hv; subst hv; exact ⟨b, o, hp, hb, by simpa using hc⟩
  | i + 1, hv => simp [intRow] at hv
theorem enters_number : ∀ args w, (callFunc 160 args).run Tryz.prog w = .ok (.enter 160 args) w := enters_of Tryz.func160 (by kernel_rfl) rfl
theorem number_puts (w0 : World) : Puts 160 intVal (fun _ n => word n = true) numC w0 := fun n W base v d _ _ hb hown hd hn => by
  unfold word at hn
  simp only [decide_eq_true_eq] at hn
  exact number_of base v d n W hown hb (by omega) (by omega) (by omega)
theorem number_adds {n : Int} (hn : word n = true) : Adds numC 10 n := fun out hout => by
  unfold word at hn
  simp only [decide_eq_true_eq] at hn
  have := num_len (b := out) (n := n) (by omega) (by omega)
  omega
structure Go2 (base : Nat) (w : World) (b : Nat) (cs : Array Value) (t : TypeId) (b2 : Nat) (cs2 : Array Value) (W : World) (v : Value) (d : List UInt8) : Prop where
  one : Go1 base w b cs t W v d
  info : W.heap[b2]? = some (.cells cs2 200)
theorem info_ne : 200 ≠ 5 := by decide
theorem Go2.alloc {base b b2 : Nat} {w W : World} {cs cs2 : Array Value} {t : TypeId} {v : Value} {d : List UInt8} (h : Go2 base w b cs t b2 cs2 W v d) (o : Obj) : Go2 base w b cs t b2 cs2 (W.alloc o) v d :=
  ⟨h.one.alloc o, (Below.heap_alloc W o b2 (heap_lt9 h.info)).trans h.info⟩
theorem Go2.step {base b b2 : Nat} {w W W' : World} {cs cs2 : Array Value} {t : TypeId} {v v' : Value} {d d' : List UInt8} (h : Go2 base w b cs t b2 cs2 W v d) (ho : Own W' base 5 v' d') (hg : W.grownBy W' v.ownBlock) : Go2 base w b cs t b2 cs2 W' v' d' :=
  ⟨h.one.step ho hg, (Near.of_grown h.one.own hg).box h.info info_ne⟩
theorem Go1.info {base b : Nat} {w W W' : World} {cs : Array Value} {t : TypeId} {v : Value} {d : List UInt8} (h : Go1 base w b cs t W v d) (hb : Below W.heap.size W W') (cs2 : Array Value) : Go2 base w b cs t W'.heap.size cs2 (W'.alloc (.cells cs2 200)) v d :=
  ⟨(h.call (h.own.below hb) (Near.of_below hb)).alloc _, heap_alloc_new _ _⟩
theorem ins_shape_0 (w0 : World) (base : Nat) (v : Value) (d : List UInt8) (op a b : Int) (lp : Option Addr) (n lc : Nat) (ls : List Int) (hn : ls.length = n) (w : World) (hL : Spaces w) (hB0 : Below w0.heap.size w0 w) (hb0 : w0.heap.size ≤ base) (hb : base ≤ w.heap.size) (hown : Own w base 5 v d) (hd : d.length ≤ 1048576) (r : Rw) (hby : byCode op = some r) (hsh : r.shape = 0) :
    Calls Tryz.prog 99 #[v, .agg #[.int .i64 op, .int .i64 a, .int .i64 b, .slice lp n lc]] w (Adds5 w base (d ++ one5 op)) := by
  obtain ⟨i0, hi, hz0, hz1, hz2⟩ := info_parts Tryz.info5
  have hbd := byCode_bd hby
  have hop : 0 ≤ op ∧ op ≤ 255 := by
    have hc : r.code = op := by simpa using List.find?_some hby
    omega
  have G := Go1.start hown hb #[.int .i64 op, .int .i64 a, .int .i64 b, .slice lp n lc] 46 (by decide)
  have c := op_of op (by omega) (by omega) (w.alloc (.cells #[.int .i64 op, .int .i64 a, .int .i64 b, .slice lp n lc] 46)) (hL.alloc _)
  rw [hby] at c
  obtain ⟨rc, rn, rs, rp, rr⟩ := r
  simp only at hsh
  subst hsh
  simp only [infoVal, Option.isSome] at c
  have hu : IntKind.u8.wrap op = op := by rw [IntKind.wrap_u8]; omega
  have ho : one5 op = [UInt8.ofNat op.toNat] := by unfold one5; rw [show op % 256 = op by omega]
  rw [ho]
  have l1 : (d ++ [UInt8.ofNat op.toNat]).length ≤ 1048577 := by simp; omega
  clear hby hbd ho
  clear hn hB0 hL
  go_enter Tryz.func99, Tryz.ntmps99
  go_wp2_with (first
    | (go_at_call 183; (with_reducible refine c.mono ?_); rintro e w1 ⟨rfl, hb1⟩; have G1 := G.info hb1 #[.string rn, .int .i64 0, .string rp, .string rr]; obtain ⟨hq, y0, y1, y2, y3⟩ := box_4 ((hb1.block _ (heap_lt9 G.box)).trans G.box); have hq2 := heap_lt9 hq; replace y0 := fun o => (World.cell?_alloc_lt w1 o (⟨w.heap.size, 0, none⟩ : Addr) hq2).trans y0; clear hq c y1 y2 y3)
    | (at_builtin; refine wpl_bytes rfl (.tmp 13) (.tmp 17) 24 rfl base 5 i0 Tryz.underlying24 hi hz0 hz1 hz2 _ _ rfl (G1.alloc _).one.own _ _ _ [UInt8.ofNat op.toNat] rfl rfl (lit_one _ _ _ (by simp) (byte_of (by omega) (by omega))) (by omega) (G1.alloc _).one.le ?_; intro v2 w2 h2 g2; have G2 := (G1.alloc _).step h2 g2; obtain ⟨_, q0, q1, q2, q3⟩ := box_4 G2.one.box; obtain ⟨_, s0, s1, s2, s3⟩ := box_4 G2.info))
  go_ret
  exact ⟨_, rfl, G2.one.own, G2.one.near⟩
theorem ins_shape_1 (w0 : World) (base : Nat) (v : Value) (d : List UInt8) (op a b : Int) (lp : Option Addr) (n lc : Nat) (ls : List Int) (hn : ls.length = n) (w : World) (hL : Spaces w) (hB0 : Below w0.heap.size w0 w) (hb0 : w0.heap.size ≤ base) (hb : base ≤ w.heap.size) (hown : Own w base 5 v d) (hd : d.length ≤ 1048576) (r : Rw) (hby : byCode op = some r) (hsh : r.shape = 1) (ha : a = 64 ∨ a = 126 ∨ a = 127) :
    Calls Tryz.prog 99 #[v, .agg #[.int .i64 op, .int .i64 a, .int .i64 b, .slice lp n lc]] w (Adds5 w base (d ++ one5 op ++ one5 a)) := by
  obtain ⟨i0, hi, hz0, hz1, hz2⟩ := info_parts Tryz.info5
  have hbd := byCode_bd hby
  have hop : 0 ≤ op ∧ op ≤ 255 := by
    have hc : r.code = op := by simpa using List.find?_some hby
    omega
  have G := Go1.start hown hb #[.int .i64 op, .int .i64 a, .int .i64 b, .slice lp n lc] 46 (by decide)
  have c := op_of op (by omega) (by omega) (w.alloc (.cells #[.int .i64 op, .int .i64 a, .int .i64 b, .slice lp n lc] 46)) (hL.alloc _)
  rw [hby] at c
  obtain ⟨rc, rn, rs, rp, rr⟩ := r
  simp only at hsh
  subst hsh
  simp only [infoVal, Option.isSome] at c
  have hu : IntKind.u8.wrap op = op := by rw [IntKind.wrap_u8]; omega
  have ho : one5 op = [UInt8.ofNat op.toNat] := by unfold one5; rw [show op % 256 = op by omega]
  rw [ho]
  have l1 : (d ++ [UInt8.ofNat op.toNat]).length ≤ 1048577 := by simp; omega
  clear hby hbd ho
  have ha2 : 0 ≤ a ∧ a ≤ 255 := by omega
  have hv : IntKind.u8.wrap a = a := by rw [IntKind.wrap_u8]; omega
  have ho : one5 a = [UInt8.ofNat a.toNat] := by unfold one5; rw [show a % 256 = a by omega]
  rw [ho]
  clear ha ho
  clear hn hB0 hL
  go_enter Tryz.func99, Tryz.ntmps99
  go_wp2_with (first
    | (go_at_call 183; (with_reducible refine c.mono ?_); rintro e w1 ⟨rfl, hb1⟩; have G1 := G.info hb1 #[.string rn, .int .i64 1, .string rp, .string rr]; obtain ⟨hq, y0, y1, y2, y3⟩ := box_4 ((hb1.block _ (heap_lt9 G.box)).trans G.box); have hq2 := heap_lt9 hq; replace y0 := fun o => (World.cell?_alloc_lt w1 o (⟨w.heap.size, 0, none⟩ : Addr) hq2).trans y0; clear hq c y1 y2 y3)
    | (at_builtin; refine wpl_bytes rfl (.tmp 13) (.tmp 17) 24 rfl base 5 i0 Tryz.underlying24 hi hz0 hz1 hz2 _ _ rfl (G1.alloc _).one.own _ _ _ [UInt8.ofNat op.toNat] rfl rfl (lit_one _ _ _ (by simp) (byte_of (by omega) (by omega))) (by omega) (G1.alloc _).one.le ?_; intro v2 w2 h2 g2; have G2 := (G1.alloc _).step h2 g2; obtain ⟨_, q0, q1, q2, q3⟩ := box_4 G2.one.box; obtain ⟨_, s0, s1, s2, s3⟩ := box_4 G2.info)
    | (at_builtin; refine wpl_bytes rfl (.tmp 23) (.tmp 27) 24 rfl base 5 i0 Tryz.underlying24 hi hz0 hz1 hz2 _ _ rfl (G2.alloc _).one.own _ _ _ [UInt8.ofNat a.toNat] rfl rfl (lit_one _ _ _ (by simp) (byte_of (by omega) (by omega))) (by omega) (G2.alloc _).one.le ?_; intro v3 w3 h3 g3; have G3 := (G2.alloc _).one.step h3 g3))
  go_ret
  exact ⟨_, rfl, G3.own, G3.near⟩
theorem ins_shape_2 (w0 : World) (base : Nat) (v : Value) (d : List UInt8) (op a b : Int) (lp : Option Addr) (n lc : Nat) (ls : List Int) (hn : ls.length = n) (w : World) (hL : Spaces w) (hB0 : Below w0.heap.size w0 w) (hb0 : w0.heap.size ≤ base) (hb : base ≤ w.heap.size) (hown : Own w base 5 v d) (hd : d.length ≤ 1048576) (r : Rw) (hby : byCode op = some r) (hsh : r.shape = 2) (ha : 0 ≤ a ∧ a < 4294967296) :
    Calls Tryz.prog 99 #[v, .agg #[.int .i64 op, .int .i64 a, .int .i64 b, .slice lp n lc]] w (Adds5 w base (numC (d ++ one5 op) a)) := by
  obtain ⟨i0, hi, hz0, hz1, hz2⟩ := info_parts Tryz.info5
  have hbd := byCode_bd hby
  have hop : 0 ≤ op ∧ op ≤ 255 := by
    have hc : r.code = op := by simpa using List.find?_some hby
    omega
  have G := Go1.start hown hb #[.int .i64 op, .int .i64 a, .int .i64 b, .slice lp n lc] 46 (by decide)
  have c := op_of op (by omega) (by omega) (w.alloc (.cells #[.int .i64 op, .int .i64 a, .int .i64 b, .slice lp n lc] 46)) (hL.alloc _)
  rw [hby] at c
  obtain ⟨rc, rn, rs, rp, rr⟩ := r
  simp only at hsh
  subst hsh
  simp only [infoVal, Option.isSome] at c
  have hu : IntKind.u8.wrap op = op := by rw [IntKind.wrap_u8]; omega
  have ho : one5 op = [UInt8.ofNat op.toNat] := by unfold one5; rw [show op % 256 = op by omega]
  rw [ho]
  have l1 : (d ++ [UInt8.ofNat op.toNat]).length ≤ 1048577 := by simp; omega
  clear hby hbd ho
  clear hn hB0 hL
  go_enter Tryz.func99, Tryz.ntmps99
  go_wp2_with (first
    | (go_at_call 183; (with_reducible refine c.mono ?_); rintro e w1 ⟨rfl, hb1⟩; have G1 := G.info hb1 #[.string rn, .int .i64 2, .string rp, .string rr]; obtain ⟨hq, y0, y1, y2, y3⟩ := box_4 ((hb1.block _ (heap_lt9 G.box)).trans G.box); have hq2 := heap_lt9 hq; replace y0 := fun o => (World.cell?_alloc_lt w1 o (⟨w.heap.size, 0, none⟩ : Addr) hq2).trans y0; clear hq c y1 y2 y3)
    | (at_builtin; refine wpl_bytes rfl (.tmp 13) (.tmp 17) 24 rfl base 5 i0 Tryz.underlying24 hi hz0 hz1 hz2 _ _ rfl (G1.alloc _).one.own _ _ _ [UInt8.ofNat op.toNat] rfl rfl (lit_one _ _ _ (by simp) (byte_of (by omega) (by omega))) (by omega) (G1.alloc _).one.le ?_; intro v2 w2 h2 g2; have G2 := (G1.alloc _).step h2 g2; obtain ⟨_, q0, q1, q2, q3⟩ := box_4 G2.one.box; obtain ⟨_, s0, s1, s2, s3⟩ := box_4 G2.info)
    | (go_at_call 187; (with_reducible refine (number64_of base v2 _ a _ G2.one.own G2.one.le (by omega) (by omega) (by omega)).mono ?_); rintro e w3 ⟨v3, rfl, h3, n3⟩; have G3 := G2.one.call h3 n3))
  go_ret
  exact ⟨_, rfl, G3.own, G3.near⟩
theorem ins_shape_3 (w0 : World) (base : Nat) (v : Value) (d : List UInt8) (op a b : Int) (lp : Option Addr) (n lc : Nat) (ls : List Int) (hn : ls.length = n) (w : World) (hL : Spaces w) (hB0 : Below w0.heap.size w0 w) (hb0 : w0.heap.size ≤ base) (hb : base ≤ w.heap.size) (hown : Own w base 5 v d) (hd : d.length ≤ 1048576) (r : Rw) (hby : byCode op = some r) (hsh : r.shape = 3) (ha : 0 ≤ a ∧ a < 4294967296) (hls : ∀ n ∈ ls, word n = true) (hll : ls.length ≤ 4096) (hat : IntsAt w0 lp ls) :
    Calls Tryz.prog 99 #[v, .agg #[.int .i64 op, .int .i64 a, .int .i64 b, .slice lp n lc]] w (Adds5 w base (numC (listC numC (d ++ one5 op) ls) a)) := by
  obtain ⟨i0, hi, hz0, hz1, hz2⟩ := info_parts Tryz.info5
  have hbd := byCode_bd hby
  have hop : 0 ≤ op ∧ op ≤ 255 := by
    have hc : r.code = op := by simpa using List.find?_some hby
    omega
  have G := Go1.start hown hb #[.int .i64 op, .int .i64 a, .int .i64 b, .slice lp n lc] 46 (by decide)
  have c := op_of op (by omega) (by omega) (w.alloc (.cells #[.int .i64 op, .int .i64 a, .int .i64 b, .slice lp n lc] 46)) (hL.alloc _)
  rw [hby] at c
  obtain ⟨rc, rn, rs, rp, rr⟩ := r
  simp only at hsh
  subst hsh
  simp only [infoVal, Option.isSome] at c
  have hu : IntKind.u8.wrap op = op := by rw [IntKind.wrap_u8]; omega
  have ho : one5 op = [UInt8.ofNat op.toNat] := by unfold one5; rw [show op % 256 = op by omega]
  rw [ho]
  have l1 : (d ++ [UInt8.ofNat op.toNat]).length ≤ 1048577 := by simp; omega
  clear hby hbd ho
  have H : Puttable 1 intRow (fun _ n => word n = true) numC 10 w0 lp n ls := ⟨hn, by omega, ints_rows5 hat, fun x hx _ _ => hls x hx, fun x hx => number_adds (hls x hx), by omega⟩
  have cl := fun (W : World) (hW : Near base w W) (v2 : Value) (h2 : Own W base 5 v2 (d ++ [UInt8.ofNat op.toNat])) => list_Int (number_puts w0) enters_number lp n lc ls H base hb0 W (hB0.trans ((hW.below hb).mono hb0)) (Nat.le_trans hb hW.size) v2 _ h2 (by omega)
  have hll2 : (listC numC (d ++ [UInt8.ofNat op.toNat]) ls).length ≤ 3000000 := by
    have h5 := num_len (b := d ++ [UInt8.ofNat op.toNat]) (n := (ls.length : Int)) (by omega) (by omega)
    have h6 := each_len (F := numC) (K := 10) (l := ls) (b := numC (d ++ [UInt8.ofNat op.toNat]) ls.length) (fun x hx => number_adds (hls x hx))
    unfold listC
    omega
  clear H hls hat
  clear hn hB0 hL
  go_enter Tryz.func99, Tryz.ntmps99
  go_wp2_with (first
    | (go_at_call 183; (with_reducible refine c.mono ?_); rintro e w1 ⟨rfl, hb1⟩; have G1 := G.info hb1 #[.string rn, .int .i64 3, .string rp, .string rr]; obtain ⟨hq, y0, y1, y2, y3⟩ := box_4 ((hb1.block _ (heap_lt9 G.box)).trans G.box); have hq2 := heap_lt9 hq; replace y0 := fun o => (World.cell?_alloc_lt w1 o (⟨w.heap.size, 0, none⟩ : Addr) hq2).trans y0; clear hq c y1 y2 y3)
    | (at_builtin; refine wpl_bytes rfl (.tmp 13) (.tmp 17) 24 rfl base 5 i0 Tryz.underlying24 hi hz0 hz1 hz2 _ _ rfl (G1.alloc _).one.own _ _ _ [UInt8.ofNat op.toNat] rfl rfl (lit_one _ _ _ (by simp) (byte_of (by omega) (by omega))) (by omega) (G1.alloc _).one.le ?_; intro v2 w2 h2 g2; have G2 := (G1.alloc _).step h2 g2; obtain ⟨_, q0, q1, q2, q3⟩ := box_4 G2.one.box; obtain ⟨_, s0, s1, s2, s3⟩ := box_4 G2.info))
  have hx0 := box_4 G2.one.drew.box
  go_region_held3 (fun W => W.heap[w.heap.size]? = some (.cells #[.int .i64 op, .int .i64 a, .int .i64 b, .slice lp n lc] 46) ∧ W.cell? ⟨w.heap.size, 0, none⟩ = some (.int .i64 op) ∧ W.cell? ⟨w.heap.size, 1, none⟩ = some (.int .i64 a) ∧ W.cell? ⟨w.heap.size, 2, none⟩ = some (.int .i64 b) ∧ W.cell? ⟨w.heap.size, 3, none⟩ = some (.slice lp n lc))
    (first | (with_reducible exact box_4 G4.box) | (with_reducible exact box_4 G3.box) | (with_reducible exact hx0))
    (first
      | (go_at_call 188; (with_reducible refine (cl _ G2.one.drew.near _ G2.one.drew.own).mono ?_); rintro e w3 ⟨v3, rfl, h3, n3⟩; have G3 := G2.one.drew.call h3 n3)
      | (go_at_call 187; (with_reducible refine (number64_of base v3 _ a _ G3.own G3.le (by omega) (by omega) (by omega)).mono ?_); rintro e w4 ⟨v4, rfl, h4, n4⟩; have G4 := G3.call h4 n4))
  all_goals
    go_wp2
    go_ret
    exact ⟨_, rfl, G4.own, G4.near⟩
theorem ins_shape_4 (w0 : World) (base : Nat) (v : Value) (d : List UInt8) (op a b : Int) (lp : Option Addr) (n lc : Nat) (ls : List Int) (hn : ls.length = n) (w : World) (hL : Spaces w) (hB0 : Below w0.heap.size w0 w) (hb0 : w0.heap.size ≤ base) (hb : base ≤ w.heap.size) (hown : Own w base 5 v d) (hd : d.length ≤ 1048576) (r : Rw) (hby : byCode op = some r) (hsh : r.shape = 4) (ha : 0 ≤ a ∧ a < 4294967296) :
    Calls Tryz.prog 99 #[v, .agg #[.int .i64 op, .int .i64 a, .int .i64 b, .slice lp n lc]] w (Adds5 w base (numC (d ++ one5 op) a)) := by
  obtain ⟨i0, hi, hz0, hz1, hz2⟩ := info_parts Tryz.info5
  have hbd := byCode_bd hby
  have hop : 0 ≤ op ∧ op ≤ 255 := by
    have hc : r.code = op := by simpa using List.find?_some hby
    omega
  have G := Go1.start hown hb #[.int .i64 op, .int .i64 a, .int .i64 b, .slice lp n lc] 46 (by decide)
  have c := op_of op (by omega) (by omega) (w.alloc (.cells #[.int .i64 op, .int .i64 a, .int .i64 b, .slice lp n lc] 46)) (hL.alloc _)
  rw [hby] at c
  obtain ⟨rc, rn, rs, rp, rr⟩ := r
  simp only at hsh
  subst hsh
  simp only [infoVal, Option.isSome] at c
  have hu : IntKind.u8.wrap op = op := by rw [IntKind.wrap_u8]; omega
  have ho : one5 op = [UInt8.ofNat op.toNat] := by unfold one5; rw [show op % 256 = op by omega]
  rw [ho]
  have l1 : (d ++ [UInt8.ofNat op.toNat]).length ≤ 1048577 := by simp; omega
  clear hby hbd ho
  clear hn hB0 hL
  go_enter Tryz.func99, Tryz.ntmps99
  go_wp2_with (first
    | (go_at_call 183; (with_reducible refine c.mono ?_); rintro e w1 ⟨rfl, hb1⟩; have G1 := G.info hb1 #[.string rn, .int .i64 4, .string rp, .string rr]; obtain ⟨hq, y0, y1, y2, y3⟩ := box_4 ((hb1.block _ (heap_lt9 G.box)).trans G.box); have hq2 := heap_lt9 hq; replace y0 := fun o => (World.cell?_alloc_lt w1 o (⟨w.heap.size, 0, none⟩ : Addr) hq2).trans y0; clear hq c y1 y2 y3)
    | (at_builtin; refine wpl_bytes rfl (.tmp 13) (.tmp 17) 24 rfl base 5 i0 Tryz.underlying24 hi hz0 hz1 hz2 _ _ rfl (G1.alloc _).one.own _ _ _ [UInt8.ofNat op.toNat] rfl rfl (lit_one _ _ _ (by simp) (byte_of (by omega) (by omega))) (by omega) (G1.alloc _).one.le ?_; intro v2 w2 h2 g2; have G2 := (G1.alloc _).step h2 g2; obtain ⟨_, q0, q1, q2, q3⟩ := box_4 G2.one.box; obtain ⟨_, s0, s1, s2, s3⟩ := box_4 G2.info)
    | (go_at_call 187; (with_reducible refine (number64_of base v2 _ a _ G2.one.own G2.one.le (by omega) (by omega) (by omega)).mono ?_); rintro e w3 ⟨v3, rfl, h3, n3⟩; have G3 := G2.one.call h3 n3))
  go_ret
  exact ⟨_, rfl, G3.own, G3.near⟩
theorem ins_shape_5 (w0 : World) (base : Nat) (v : Value) (d : List UInt8) (op a b : Int) (lp : Option Addr) (n lc : Nat) (ls : List Int) (hn : ls.length = n) (w : World) (hL : Spaces w) (hB0 : Below w0.heap.size w0 w) (hb0 : w0.heap.size ≤ base) (hb : base ≤ w.heap.size) (hown : Own w base 5 v d) (hd : d.length ≤ 1048576) (r : Rw) (hby : byCode op = some r) (hsh : r.shape = 5) (ha : 0 ≤ a ∧ a < 4294967296) (hb2 : 0 ≤ b ∧ b < 4294967296) :
    Calls Tryz.prog 99 #[v, .agg #[.int .i64 op, .int .i64 a, .int .i64 b, .slice lp n lc]] w (Adds5 w base (numC (numC (d ++ one5 op) a) b)) := by
  obtain ⟨i0, hi, hz0, hz1, hz2⟩ := info_parts Tryz.info5
  have hbd := byCode_bd hby
  have hop : 0 ≤ op ∧ op ≤ 255 := by
    have hc : r.code = op := by simpa using List.find?_some hby
    omega
  have G := Go1.start hown hb #[.int .i64 op, .int .i64 a, .int .i64 b, .slice lp n lc] 46 (by decide)
  have c := op_of op (by omega) (by omega) (w.alloc (.cells #[.int .i64 op, .int .i64 a, .int .i64 b, .slice lp n lc] 46)) (hL.alloc _)
  rw [hby] at c
  obtain ⟨rc, rn, rs, rp, rr⟩ := r
  simp only at hsh
  subst hsh
  simp only [infoVal, Option.isSome] at c
  have hu : IntKind.u8.wrap op = op := by rw [IntKind.wrap_u8]; omega
  have ho : one5 op = [UInt8.ofNat op.toNat] := by unfold one5; rw [show op % 256 = op by omega]
  rw [ho]
  have l1 : (d ++ [UInt8.ofNat op.toNat]).length ≤ 1048577 := by simp; omega
  clear hby hbd ho
  clear hn hB0 hL
  go_enter Tryz.func99, Tryz.ntmps99
  go_wp2_with (first
    | (go_at_call 183; (with_reducible refine c.mono ?_); rintro e w1 ⟨rfl, hb1⟩; have G1 := G.info hb1 #[.string rn, .int .i64 5, .string rp, .string rr]; obtain ⟨hq, y0, y1, y2, y3⟩ := box_4 ((hb1.block _ (heap_lt9 G.box)).trans G.box); have hq2 := heap_lt9 hq; replace y0 := fun o => (World.cell?_alloc_lt w1 o (⟨w.heap.size, 0, none⟩ : Addr) hq2).trans y0; clear hq c y1 y2 y3)
    | (at_builtin; refine wpl_bytes rfl (.tmp 13) (.tmp 17) 24 rfl base 5 i0 Tryz.underlying24 hi hz0 hz1 hz2 _ _ rfl (G1.alloc _).one.own _ _ _ [UInt8.ofNat op.toNat] rfl rfl (lit_one _ _ _ (by simp) (byte_of (by omega) (by omega))) (by omega) (G1.alloc _).one.le ?_; intro v2 w2 h2 g2; have G2 := (G1.alloc _).step h2 g2; obtain ⟨_, q0, q1, q2, q3⟩ := box_4 G2.one.box; obtain ⟨_, s0, s1, s2, s3⟩ := box_4 G2.info))
  have hx0 := box_4 G2.one.drew.box
  have l2 := num_len (b := d ++ [UInt8.ofNat op.toNat]) (n := a) (by omega) (by omega)
  go_region_held3 (fun W => W.heap[w.heap.size]? = some (.cells #[.int .i64 op, .int .i64 a, .int .i64 b, .slice lp n lc] 46) ∧ W.cell? ⟨w.heap.size, 0, none⟩ = some (.int .i64 op) ∧ W.cell? ⟨w.heap.size, 1, none⟩ = some (.int .i64 a) ∧ W.cell? ⟨w.heap.size, 2, none⟩ = some (.int .i64 b) ∧ W.cell? ⟨w.heap.size, 3, none⟩ = some (.slice lp n lc))
    (first | (with_reducible exact box_4 G4.box) | (with_reducible exact box_4 G3.box) | (with_reducible exact hx0))
    (first
      | (go_at_call 187; (with_reducible refine (number64_of base v3 _ b _ G3.own G3.le (by omega) (by omega) (by omega)).mono ?_); rintro e w4 ⟨v4, rfl, h4, n4⟩; have G4 := G3.call h4 n4)
      | (go_at_call 187; (with_reducible refine (number64_of base v2 _ a _ G2.one.drew.own G2.one.drew.le (by omega) (by omega) (by omega)).mono ?_); rintro e w3 ⟨v3, rfl, h3, n3⟩; have G3 := G2.one.drew.call h3 n3))
  all_goals
    go_wp2
    go_ret
    exact ⟨_, rfl, G4.own, G4.near⟩
theorem ins_shape_6 (w0 : World) (base : Nat) (v : Value) (d : List UInt8) (op a b : Int) (lp : Option Addr) (n lc : Nat) (ls : List Int) (hn : ls.length = n) (w : World) (hL : Spaces w) (hB0 : Below w0.heap.size w0 w) (hb0 : w0.heap.size ≤ base) (hb : base ≤ w.heap.size) (hown : Own w base 5 v d) (hd : d.length ≤ 1048576) (r : Rw) (hby : byCode op = some r) (hsh : r.shape = 6) :
    Calls Tryz.prog 99 #[v, .agg #[.int .i64 op, .int .i64 a, .int .i64 b, .slice lp n lc]] w (Adds5 w base (d ++ one5 op ++ [0])) := by
  obtain ⟨i0, hi, hz0, hz1, hz2⟩ := info_parts Tryz.info5
  have hbd := byCode_bd hby
  have hop : 0 ≤ op ∧ op ≤ 255 := by
    have hc : r.code = op := by simpa using List.find?_some hby
    omega
  have G := Go1.start hown hb #[.int .i64 op, .int .i64 a, .int .i64 b, .slice lp n lc] 46 (by decide)
  have c := op_of op (by omega) (by omega) (w.alloc (.cells #[.int .i64 op, .int .i64 a, .int .i64 b, .slice lp n lc] 46)) (hL.alloc _)
  rw [hby] at c
  obtain ⟨rc, rn, rs, rp, rr⟩ := r
  simp only at hsh
  subst hsh
  simp only [infoVal, Option.isSome] at c
  have hu : IntKind.u8.wrap op = op := by rw [IntKind.wrap_u8]; omega
  have ho : one5 op = [UInt8.ofNat op.toNat] := by unfold one5; rw [show op % 256 = op by omega]
  rw [ho]
  have l1 : (d ++ [UInt8.ofNat op.toNat]).length ≤ 1048577 := by simp; omega
  clear hby hbd ho
  clear hn hB0 hL
  go_enter Tryz.func99, Tryz.ntmps99
  go_wp2_with (first
    | (go_at_call 183; (with_reducible refine c.mono ?_); rintro e w1 ⟨rfl, hb1⟩; have G1 := G.info hb1 #[.string rn, .int .i64 6, .string rp, .string rr]; obtain ⟨hq, y0, y1, y2, y3⟩ := box_4 ((hb1.block _ (heap_lt9 G.box)).trans G.box); have hq2 := heap_lt9 hq; replace y0 := fun o => (World.cell?_alloc_lt w1 o (⟨w.heap.size, 0, none⟩ : Addr) hq2).trans y0; clear hq c y1 y2 y3)
    | (at_builtin; refine wpl_bytes rfl (.tmp 13) (.tmp 17) 24 rfl base 5 i0 Tryz.underlying24 hi hz0 hz1 hz2 _ _ rfl (G1.alloc _).one.own _ _ _ [UInt8.ofNat op.toNat] rfl rfl (lit_one _ _ _ (by simp) (byte_of (by omega) (by omega))) (by omega) (G1.alloc _).one.le ?_; intro v2 w2 h2 g2; have G2 := (G1.alloc _).step h2 g2; obtain ⟨_, q0, q1, q2, q3⟩ := box_4 G2.one.box; obtain ⟨_, s0, s1, s2, s3⟩ := box_4 G2.info)
    | (at_builtin; refine wpl_bytes rfl (.tmp 56) (.tmp 57) 24 rfl base 5 i0 Tryz.underlying24 hi hz0 hz1 hz2 _ _ rfl (G2.alloc _).one.own _ _ _ [0] rfl rfl (lit_one _ _ _ (by simp) rfl) (by omega) (G2.alloc _).one.le ?_; intro v3 w3 h3 g3; have G3 := (G2.alloc _).one.step h3 g3))
  go_ret
  exact ⟨_, rfl, G3.own, G3.near⟩
theorem ins_shape_7 (w0 : World) (base : Nat) (v : Value) (d : List UInt8) (op a b : Int) (lp : Option Addr) (n lc : Nat) (ls : List Int) (hn : ls.length = n) (w : World) (hL : Spaces w) (hB0 : Below w0.heap.size w0 w) (hb0 : w0.heap.size ≤ base) (hb : base ≤ w.heap.size) (hown : Own w base 5 v d) (hd : d.length ≤ 1048576) (r : Rw) (hby : byCode op = some r) (hsh : r.shape = 7) (ha : -9223372036854775808 ≤ a ∧ a ≤ 9223372036854775807) :
    Calls Tryz.prog 99 #[v, .agg #[.int .i64 op, .int .i64 a, .int .i64 b, .slice lp n lc]] w (Adds5 w base (d ++ one5 op ++ putS a)) := by
  obtain ⟨i0, hi, hz0, hz1, hz2⟩ := info_parts Tryz.info5
  have hbd := byCode_bd hby
  have hop : 0 ≤ op ∧ op ≤ 255 := by
    have hc : r.code = op := by simpa using List.find?_some hby
    omega
  have G := Go1.start hown hb #[.int .i64 op, .int .i64 a, .int .i64 b, .slice lp n lc] 46 (by decide)
  have c := op_of op (by omega) (by omega) (w.alloc (.cells #[.int .i64 op, .int .i64 a, .int .i64 b, .slice lp n lc] 46)) (hL.alloc _)
  rw [hby] at c
  obtain ⟨rc, rn, rs, rp, rr⟩ := r
  simp only at hsh
  subst hsh
  simp only [infoVal, Option.isSome] at c
  have hu : IntKind.u8.wrap op = op := by rw [IntKind.wrap_u8]; omega
  have ho : one5 op = [UInt8.ofNat op.toNat] := by unfold one5; rw [show op % 256 = op by omega]
  rw [ho]
  have l1 : (d ++ [UInt8.ofNat op.toNat]).length ≤ 1048577 := by simp; omega
  clear hby hbd ho
  have cs := fun W => put_s a ha.1 ha.2 W
  have hl7 := putS_len10 ha.1 ha.2
  clear hn hB0 hL
  go_enter Tryz.func99, Tryz.ntmps99
  go_wp2_with (first
    | (go_at_call 183; (with_reducible refine c.mono ?_); rintro e w1 ⟨rfl, hb1⟩; have G1 := G.info hb1 #[.string rn, .int .i64 7, .string rp, .string rr]; obtain ⟨hq, y0, y1, y2, y3⟩ := box_4 ((hb1.block _ (heap_lt9 G.box)).trans G.box); have hq2 := heap_lt9 hq; replace y0 := fun o => (World.cell?_alloc_lt w1 o (⟨w.heap.size, 0, none⟩ : Addr) hq2).trans y0; clear hq c y1 y2 y3)
    | (at_builtin; refine wpl_bytes rfl (.tmp 13) (.tmp 17) 24 rfl base 5 i0 Tryz.underlying24 hi hz0 hz1 hz2 _ _ rfl (G1.alloc _).one.own _ _ _ [UInt8.ofNat op.toNat] rfl rfl (lit_one _ _ _ (by simp) (byte_of (by omega) (by omega))) (by omega) (G1.alloc _).one.le ?_; intro v2 w2 h2 g2; have G2 := (G1.alloc _).step h2 g2; obtain ⟨_, q0, q1, q2, q3⟩ := box_4 G2.one.box; obtain ⟨_, s0, s1, s2, s3⟩ := box_4 G2.info)
    | (go_at_call 189; (with_reducible refine (cs _).mono ?_); rintro e w3 ⟨rfl, hb3⟩; have G3 := G2.one.call (G2.one.own.below hb3) (Near.of_below hb3))
    | (at_builtin; refine wpl_string rfl (.tmp 61) (.tmp 64) 24 9 rfl base 5 i0 Tryz.underlying24 Tryz.underlying9 hi hz0 hz1 hz2 _ _ rfl G3.own (putS a) rfl (by omega) G3.le ?_; intro v4 w4 h4 g4 _; have G4 := G3.step h4 g4))
  go_ret
  exact ⟨_, rfl, G4.own, G4.near⟩
def okIns (w0 : World) (W : World) (x : InsV) : Prop := rightIns x = true ∧ InsAt w0 x ∧ Spaces W
theorem instr_puts (w0 : World) : Puts 99 InsV.val (okIns w0) insC w0 := by
  rintro ⟨op, a, b, lp, lc, ls⟩ W base v d hB0 hb0 hb hown hd ⟨hr, ⟨hat, hll, hop, ha, hb', hls⟩, hL⟩
  have h0 : rightOf (byCode op) op a b ls = true := hr
  cases hby : byCode op with
  | none => rw [hby] at h0; cases h0
  | some r =>
    have hq : insC d ⟨op, a, b, lp, lc, ls⟩ = tailC r.shape (d ++ one5 op) ⟨op, a, b, lp, lc, ls⟩ := by unfold insC; simp only [hby]
    rw [hq]
    have hbd := byCode_bd hby
    rw [hby] at h0
    unfold rightOf at h0
    simp only at h0 ha hat hll
    split at h0
    · cases h0
    · split at h0
      · cases h0
      · have h8 : r.shape = 0 ∨ r.shape = 1 ∨ r.shape = 2 ∨ r.shape = 3 ∨ r.shape = 4 ∨ r.shape = 5 ∨ r.shape = 6 ∨ r.shape = 7 := by omega
        rcases h8 with h | h | h | h | h | h | h | h
        all_goals rw [h] at h0 ⊢
        all_goals simp [word] at h0
        · exact ins_shape_0 w0 base v d op a b lp ls.length lc ls rfl W hL hB0 hb0 hb hown hd r hby h
        · exact ins_shape_1 w0 base v d op a b lp ls.length lc ls rfl W hL hB0 hb0 hb hown hd r hby h h0
        · exact ins_shape_2 w0 base v d op a b lp ls.length lc ls rfl W hL hB0 hb0 hb hown hd r hby h h0
        · exact ins_shape_3 w0 base v d op a b lp ls.length lc ls rfl W hL hB0 hb0 hb hown hd r hby h h0.2 (fun n hn => by unfold word; exact decide_eq_true (h0.1.1 n hn)) h0.1.2 hat
        · exact ins_shape_4 w0 base v d op a b lp ls.length lc ls rfl W hL hB0 hb0 hb hown hd r hby h h0
        · exact ins_shape_5 w0 base v d op a b lp ls.length lc ls rfl W hL hB0 hb0 hb hown hd r hby h h0.1 h0.2
        · exact ins_shape_6 w0 base v d op a b lp ls.length lc ls rfl W hL hB0 hb0 hb hown hd r hby h
        · exact ins_shape_7 w0 base v d op a b lp ls.length lc ls rfl W hL hB0 hb0 hb hown hd r hby h ha
end Go.Proofs.YthfipknfdnfalaaGreatDoor
