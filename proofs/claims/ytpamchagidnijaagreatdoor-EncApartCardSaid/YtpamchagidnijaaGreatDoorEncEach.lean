/-
  Package enc puts the things of a list one behind the other, while what is there is not too long: walked at each type, for every function that puts one. Contracts that the proofs call; no statement is proved here.
-/
import Derived.Test.YtpamchagidnijaaGreatDoorEncNum
import Derived.Test.YtpamchagidnijaaGreatDoorEncSpec
import Derived.Test.YtpamchagidnijaaGreatDoorModSays
namespace Go.Proofs.YtpamchagidnijaaGreatDoor
open Go.RowKit
set_option linter.unusedVariables false

/-- Locals of one type, one behind the other. -/
structure RunV where
  many : Nat
  kind : UInt8
def RunV.row (x : RunV) : List Value := [.int .i64 x.many, .int .u8 x.kind.toNat]
def RunV.val (x : RunV) : Value := .agg #[.int .i64 x.many, .int .u8 x.kind.toNat]
def intRow (n : Int) : List Value := [.int .i64 n]
def intVal (n : Int) : Value := .int .i64 n
/-- A function that puts a thing behind bytes. -/
def Puts {α : Type} (g : Nat) (val : α → Value) (ok : World → α → Prop) (F : List UInt8 → α → List UInt8) (w0 : World) : Prop :=
  ∀ (x : α) (W : World) (base : Nat) (v : Value) (d : List UInt8), Below w0.heap.size w0 W → w0.heap.size ≤ base → base ≤ W.heap.size → Own W base 5 v d → d.length ≤ 1048576 → ok W x →
    Calls Tryz.prog g #[v, val x] W (Adds5 W base (F d x))
/-- The things that are put lie in memory, and stay so; none of them makes too much. -/
structure Puttable {α : Type} (c : Nat) (row : α → List Value) (ok : World → α → Prop) (F : List UInt8 → α → List UInt8) (K : Nat) (w0 : World) (p : Option Addr) (n : Nat) (l : List α) : Prop where
  len : l.length = n
  most : n ≤ 281474976710656
  rows : RowsAt w0 p c row l
  fine : ∀ x ∈ l, ∀ W, Below w0.heap.size w0 W → ok W x
  adds : ∀ x ∈ l, Adds F K x
  few : K ≤ 1000000000
theorem adds5_eq {w : World} {base : Nat} {d d' : List UInt8} {e : Ending} {w' : World} (h : Adds5 w base d e w') (hd : d = d') : Adds5 w base d' e w' := hd ▸ h
theorem adds5_then {w w1 : World} {base : Nat} {d : List UInt8} {e : Ending} {w' : World} (h : Adds5 w1 base d e w') (hn : Near base w w1) : Adds5 w base d e w' := by
  obtain ⟨v, he, ho, hN⟩ := h
  exact ⟨v, he, ho, hn.trans hN⟩


set_option maxRecDepth 100000 in
set_option maxHeartbeats 4000000 in
theorem each_TyV {g : Nat} {F : List UInt8 → TyV → List UInt8} {ok : World → TyV → Prop} {w0 : World} {K : Nat} (h : Puts g TyV.val ok F w0) (eg : ∀ args w, (callFunc g args).run Tryz.prog w = .ok (.enter g args) w) (p : Option Addr) (n cap : Nat) (l : List TyV) (H : Puttable 2 TyV.row ok F K w0 p n l) (base : Nat) (hb0 : w0.heap.size ≤ base) (w : World) (hB0 : Below w0.heap.size w0 w) (hb : base ≤ w.heap.size) (v : Value) (d : List UInt8) (hown : Own w base 5 v d) (hd : d.length ≤ 1002000000) :
    Calls Tryz.prog 238 #[v, .slice p n cap, .func (.func g) #[] #[]] w (Adds5 w base (eachC F d l)) := by
  obtain ⟨R, hR⟩ : ∃ R, R = eachC F d l := ⟨_, rfl⟩
  rw [← hR]
  have HR : Hid (R = eachC F d (l.drop 0)) := Lib.hid hR
  have HN := Lib.hid H.len
  have hm := H.most
  have hKb := H.few
  have hs0 := hB0.size
  clear hR
  obtain ⟨vp, vc, rfl⟩ := hown.any
  go_enter Tryz.func238, Tryz.ntmps238
  go_wp2
  go_loopw [0, 11] (fun u i wr => ∃ (k : Nat) (e : List UInt8), k ≤ n ∧ i = .int .i64 k ∧ Own wr base 5 u e ∧ Near base w wr ∧ e.length ≤ 1002000000 ∧ Hid (R = eachC F e (l.drop k))) (fun _ i _ => n - (intOf i).toNat)
  case atStart => exact ⟨0, d, by omega, rfl, hown, Near.refl _ _, by omega, HR⟩
  case round =>
    clear HR hown hd
    obtain ⟨k, e, hk, rfl, hown', hN, hel, HK⟩ := hrel
    obtain ⟨up, uc, rfl⟩ := hown'.any
    obtain ⟨en, hen⟩ : ∃ en, e.length = en := ⟨_, rfl⟩
    have hbr := Nat.le_trans hb hN.size
    by_cases hlt : k < n
    · have hlt' : k < l.length := by have := HN.out; omega
      have hD := HK.out
      rw [List.drop_eq_getElem_cons hlt', eachC_cons] at hD
      have hBw := hB0.trans ((hN.below hb).mono hb0)
      have hrows := H.rows.below hBw (Nat.le_refl _)
      obtain ⟨b, o, hp, hbb, e0⟩ := hrows k hlt' 0 _ rfl
      subst hp
      have e1 := hrows.cell hlt' 1 rfl
      by_cases hgo : (1048576 : Int) < en
      · rw [if_pos (by omega)] at hD
        have HD := Lib.hid hD
        have HE := Lib.hid hen
        rw [hen]
        rw [hen] at hown'
        clear hD hrows h H hen HK
        generalize l[k] = x at *
        obtain ⟨x0, x1⟩ := x
        simp only [Nat.add_zero] at e0
        go_wp2
        go_ret
        exact ⟨_, rfl, by rw [HD.out]; exact hown'.alloc _, hN.alloc _⟩
      · rw [if_neg (by omega)] at hD
        have hsw := Nat.le_trans hs0 hN.size
        have cq := fun (W : World) (hW : Below wr.heap.size wr W) => h l[k] W base _ e (hBw.trans (hW.mono hsw)) hb0 (Nat.le_trans hbr hW.size) (hown'.below hW) (by omega) (H.fine _ (List.getElem_mem hlt') W (hBw.trans (hW.mono hsw)))
        have hlen := H.adds _ (List.getElem_mem hlt') e (by omega)
        have HD := Lib.hid hD
        have HE := Lib.hid hen
        rw [hen]
        rw [hen] at cq
        clear hD hrows h H hen HK hown'
        generalize l[k] = x at *
        obtain ⟨r, hr⟩ : ∃ r, r = F e x := ⟨_, rfl⟩
        rw [← hr] at cq hlen
        have HF := Lib.hid hr
        clear hr
        obtain ⟨x0, x1⟩ := x
        simp only [Nat.add_zero, TyV.val] at e0 cq
        go_wp2_with fail
        refine (cq _ ?_).mono ?_
        · exact (Below.refl _ wr).alloc (Nat.le_refl _) _
        rintro e' w1 ⟨v1, rfl, h1, n1⟩
        dsimp only
        go_wp2
        go_roundw
        case rel => exact ⟨k + 1, r, by omega, by go_num, h1, (hN.alloc _).trans n1, by omega, Lib.hid (by rw [HD.out, HF.out])⟩
        case measure => simp [intOf]; omega
    · have hk' : l.length ≤ k := by have := HN.out; omega
      have hD := HK.out
      rw [List.drop_eq_nil_of_le hk'] at hD
      have HD : Hid (R = e) := Lib.hid hD
      have HE := Lib.hid hen
      rw [hen]
      rw [hen] at hown'
      clear hD hk' hen HK
      go_wp2
      go_ret
      exact ⟨_, rfl, by rw [HD.out]; exact hown', hN⟩

set_option maxRecDepth 100000 in
set_option maxHeartbeats 2000000 in
theorem list_TyV {g : Nat} {F : List UInt8 → TyV → List UInt8} {ok : World → TyV → Prop} {w0 : World} {K : Nat} (h : Puts g TyV.val ok F w0) (eg : ∀ args w, (callFunc g args).run Tryz.prog w = .ok (.enter g args) w) (p : Option Addr) (n cap : Nat) (l : List TyV) (H : Puttable 2 TyV.row ok F K w0 p n l) (base : Nat) (hb0 : w0.heap.size ≤ base) (w : World) (hB0 : Below w0.heap.size w0 w) (hb : base ≤ w.heap.size) (v : Value) (d : List UInt8) (hown : Own w base 5 v d) (hd : d.length ≤ 1001000000) :
    Calls Tryz.prog 181 #[v, .slice p n cap, .func (.func g) #[] #[]] w (Adds5 w base (listC F d l)) := by
  have hm := H.most
  have c1 := fun hx hy => number_of base v d (n : Int) w hown hb hx (by omega) hy
  have c2 := fun (w1 : World) (v1 : Value) (h1 : Own w1 base 5 v1 (numC d n)) (n1 : Near base w w1) hl => each_TyV h eg p n cap l H base hb0 w1 (hB0.trans ((n1.below hb).mono hb0)) (Nat.le_trans hb n1.size) v1 _ h1 hl
  have hq : eachC F (numC d n) l = listC F d l := by unfold listC; rw [H.len]
  have hl := num_len (b := d) (n := (n : Int)) (by omega) (by omega)
  have HQ := Lib.hid hq
  have c1 := c1 (by omega) (by omega)
  clear hq h H hown
  go_enter Tryz.func181, Tryz.ntmps181
  go_wp2_with (first
    | (go_at_call 106; (with_reducible refine c1.mono ?_); rintro e w1 ⟨v1, rfl, h1, n1⟩)
    | (go_at_call 238; (with_reducible refine (c2 _ _ h1 n1 (by omega)).mono ?_); rintro e w2 ⟨v2, rfl, h2, n2⟩))
  go_ret
  exact ⟨_, rfl, by rw [← HQ.out]; exact h2, n1.trans n2⟩


set_option maxRecDepth 100000 in
set_option maxHeartbeats 4000000 in
theorem each_FnV {g : Nat} {F : List UInt8 → FnV → List UInt8} {ok : World → FnV → Prop} {w0 : World} {K : Nat} (h : Puts g FnV.val ok F w0) (eg : ∀ args w, (callFunc g args).run Tryz.prog w = .ok (.enter g args) w) (p : Option Addr) (n cap : Nat) (l : List FnV) (H : Puttable 3 FnV.row ok F K w0 p n l) (base : Nat) (hb0 : w0.heap.size ≤ base) (w : World) (hB0 : Below w0.heap.size w0 w) (hb : base ≤ w.heap.size) (v : Value) (d : List UInt8) (hown : Own w base 5 v d) (hd : d.length ≤ 1002000000) :
    Calls Tryz.prog 239 #[v, .slice p n cap, .func (.func g) #[] #[]] w (Adds5 w base (eachC F d l)) := by
  obtain ⟨R, hR⟩ : ∃ R, R = eachC F d l := ⟨_, rfl⟩
  rw [← hR]
  have HR : Hid (R = eachC F d (l.drop 0)) := Lib.hid hR
  have HN := Lib.hid H.len
  have hm := H.most
  have hKb := H.few
  have hs0 := hB0.size
  clear hR
  obtain ⟨vp, vc, rfl⟩ := hown.any
  go_enter Tryz.func239, Tryz.ntmps239
  go_wp2
  go_loopw [0, 11] (fun u i wr => ∃ (k : Nat) (e : List UInt8), k ≤ n ∧ i = .int .i64 k ∧ Own wr base 5 u e ∧ Near base w wr ∧ e.length ≤ 1002000000 ∧ Hid (R = eachC F e (l.drop k))) (fun _ i _ => n - (intOf i).toNat)
  case atStart => exact ⟨0, d, by omega, rfl, hown, Near.refl _ _, by omega, HR⟩
  case round =>
    clear HR hown hd
    obtain ⟨k, e, hk, rfl, hown', hN, hel, HK⟩ := hrel
    obtain ⟨up, uc, rfl⟩ := hown'.any
    obtain ⟨en, hen⟩ : ∃ en, e.length = en := ⟨_, rfl⟩
    have hbr := Nat.le_trans hb hN.size
    by_cases hlt : k < n
    · have hlt' : k < l.length := by have := HN.out; omega
      have hD := HK.out
      rw [List.drop_eq_getElem_cons hlt', eachC_cons] at hD
      have hBw := hB0.trans ((hN.below hb).mono hb0)
      have hrows := H.rows.below hBw (Nat.le_refl _)
      obtain ⟨b, o, hp, hbb, e0⟩ := hrows k hlt' 0 _ rfl
      subst hp
      have e1 := hrows.cell hlt' 1 rfl
      have e2 := hrows.cell hlt' 2 rfl
      by_cases hgo : (1048576 : Int) < en
      · rw [if_pos (by omega)] at hD
        have HD := Lib.hid hD
        have HE := Lib.hid hen
        rw [hen]
        rw [hen] at hown'
        clear hD hrows h H hen HK
        generalize l[k] = x at *
        obtain ⟨x0, x1, x2, x3, x4⟩ := x
        simp only [Nat.add_zero] at e0
        go_wp2
        go_ret
        exact ⟨_, rfl, by rw [HD.out]; exact hown'.alloc _, hN.alloc _⟩
      · rw [if_neg (by omega)] at hD
        have hsw := Nat.le_trans hs0 hN.size
        have cq := fun (W : World) (hW : Below wr.heap.size wr W) => h l[k] W base _ e (hBw.trans (hW.mono hsw)) hb0 (Nat.le_trans hbr hW.size) (hown'.below hW) (by omega) (H.fine _ (List.getElem_mem hlt') W (hBw.trans (hW.mono hsw)))
        have hlen := H.adds _ (List.getElem_mem hlt') e (by omega)
        have HD := Lib.hid hD
        have HE := Lib.hid hen
        rw [hen]
        rw [hen] at cq
        clear hD hrows h H hen HK hown'
        generalize l[k] = x at *
        obtain ⟨r, hr⟩ : ∃ r, r = F e x := ⟨_, rfl⟩
        rw [← hr] at cq hlen
        have HF := Lib.hid hr
        clear hr
        obtain ⟨x0, x1, x2, x3, x4⟩ := x
        simp only [Nat.add_zero, FnV.val] at e0 cq
        go_wp2_with fail
        refine (cq _ ?_).mono ?_
        · exact (Below.refl _ wr).alloc (Nat.le_refl _) _
        rintro e' w1 ⟨v1, rfl, h1, n1⟩
        dsimp only
        go_wp2
        go_roundw
        case rel => exact ⟨k + 1, r, by omega, by go_num, h1, (hN.alloc _).trans n1, by omega, Lib.hid (by rw [HD.out, HF.out])⟩
        case measure => simp [intOf]; omega
    · have hk' : l.length ≤ k := by have := HN.out; omega
      have hD := HK.out
      rw [List.drop_eq_nil_of_le hk'] at hD
      have HD : Hid (R = e) := Lib.hid hD
      have HE := Lib.hid hen
      rw [hen]
      rw [hen] at hown'
      clear hD hk' hen HK
      go_wp2
      go_ret
      exact ⟨_, rfl, by rw [HD.out]; exact hown', hN⟩

set_option maxRecDepth 100000 in
set_option maxHeartbeats 2000000 in
theorem list_FnV {g : Nat} {F : List UInt8 → FnV → List UInt8} {ok : World → FnV → Prop} {w0 : World} {K : Nat} (h : Puts g FnV.val ok F w0) (eg : ∀ args w, (callFunc g args).run Tryz.prog w = .ok (.enter g args) w) (p : Option Addr) (n cap : Nat) (l : List FnV) (H : Puttable 3 FnV.row ok F K w0 p n l) (base : Nat) (hb0 : w0.heap.size ≤ base) (w : World) (hB0 : Below w0.heap.size w0 w) (hb : base ≤ w.heap.size) (v : Value) (d : List UInt8) (hown : Own w base 5 v d) (hd : d.length ≤ 1001000000) :
    Calls Tryz.prog 184 #[v, .slice p n cap, .func (.func g) #[] #[]] w (Adds5 w base (listC F d l)) := by
  have hm := H.most
  have c1 := fun hx hy => number_of base v d (n : Int) w hown hb hx (by omega) hy
  have c2 := fun (w1 : World) (v1 : Value) (h1 : Own w1 base 5 v1 (numC d n)) (n1 : Near base w w1) hl => each_FnV h eg p n cap l H base hb0 w1 (hB0.trans ((n1.below hb).mono hb0)) (Nat.le_trans hb n1.size) v1 _ h1 hl
  have hq : eachC F (numC d n) l = listC F d l := by unfold listC; rw [H.len]
  have hl := num_len (b := d) (n := (n : Int)) (by omega) (by omega)
  have HQ := Lib.hid hq
  have c1 := c1 (by omega) (by omega)
  clear hq h H hown
  go_enter Tryz.func184, Tryz.ntmps184
  go_wp2_with (first
    | (go_at_call 106; (with_reducible refine c1.mono ?_); rintro e w1 ⟨v1, rfl, h1, n1⟩)
    | (go_at_call 239; (with_reducible refine (c2 _ _ h1 n1 (by omega)).mono ?_); rintro e w2 ⟨v2, rfl, h2, n2⟩))
  go_ret
  exact ⟨_, rfl, by rw [← HQ.out]; exact h2, n1.trans n2⟩


set_option maxRecDepth 100000 in
set_option maxHeartbeats 4000000 in
theorem each_MemV {g : Nat} {F : List UInt8 → MemV → List UInt8} {ok : World → MemV → Prop} {w0 : World} {K : Nat} (h : Puts g MemV.val ok F w0) (eg : ∀ args w, (callFunc g args).run Tryz.prog w = .ok (.enter g args) w) (p : Option Addr) (n cap : Nat) (l : List MemV) (H : Puttable 2 MemV.row ok F K w0 p n l) (base : Nat) (hb0 : w0.heap.size ≤ base) (w : World) (hB0 : Below w0.heap.size w0 w) (hb : base ≤ w.heap.size) (v : Value) (d : List UInt8) (hown : Own w base 5 v d) (hd : d.length ≤ 1002000000) :
    Calls Tryz.prog 240 #[v, .slice p n cap, .func (.func g) #[] #[]] w (Adds5 w base (eachC F d l)) := by
  obtain ⟨R, hR⟩ : ∃ R, R = eachC F d l := ⟨_, rfl⟩
  rw [← hR]
  have HR : Hid (R = eachC F d (l.drop 0)) := Lib.hid hR
  have HN := Lib.hid H.len
  have hm := H.most
  have hKb := H.few
  have hs0 := hB0.size
  clear hR
  obtain ⟨vp, vc, rfl⟩ := hown.any
  go_enter Tryz.func240, Tryz.ntmps240
  go_wp2
  go_loopw [0, 11] (fun u i wr => ∃ (k : Nat) (e : List UInt8), k ≤ n ∧ i = .int .i64 k ∧ Own wr base 5 u e ∧ Near base w wr ∧ e.length ≤ 1002000000 ∧ Hid (R = eachC F e (l.drop k))) (fun _ i _ => n - (intOf i).toNat)
  case atStart => exact ⟨0, d, by omega, rfl, hown, Near.refl _ _, by omega, HR⟩
  case round =>
    clear HR hown hd
    obtain ⟨k, e, hk, rfl, hown', hN, hel, HK⟩ := hrel
    obtain ⟨up, uc, rfl⟩ := hown'.any
    obtain ⟨en, hen⟩ : ∃ en, e.length = en := ⟨_, rfl⟩
    have hbr := Nat.le_trans hb hN.size
    by_cases hlt : k < n
    · have hlt' : k < l.length := by have := HN.out; omega
      have hD := HK.out
      rw [List.drop_eq_getElem_cons hlt', eachC_cons] at hD
      have hBw := hB0.trans ((hN.below hb).mono hb0)
      have hrows := H.rows.below hBw (Nat.le_refl _)
      obtain ⟨b, o, hp, hbb, e0⟩ := hrows k hlt' 0 _ rfl
      subst hp
      have e1 := hrows.cell hlt' 1 rfl
      by_cases hgo : (1048576 : Int) < en
      · rw [if_pos (by omega)] at hD
        have HD := Lib.hid hD
        have HE := Lib.hid hen
        rw [hen]
        rw [hen] at hown'
        clear hD hrows h H hen HK
        generalize l[k] = x at *
        obtain ⟨x0, x1⟩ := x
        simp only [Nat.add_zero] at e0
        go_wp2
        go_ret
        exact ⟨_, rfl, by rw [HD.out]; exact hown'.alloc _, hN.alloc _⟩
      · rw [if_neg (by omega)] at hD
        have hsw := Nat.le_trans hs0 hN.size
        have cq := fun (W : World) (hW : Below wr.heap.size wr W) => h l[k] W base _ e (hBw.trans (hW.mono hsw)) hb0 (Nat.le_trans hbr hW.size) (hown'.below hW) (by omega) (H.fine _ (List.getElem_mem hlt') W (hBw.trans (hW.mono hsw)))
        have hlen := H.adds _ (List.getElem_mem hlt') e (by omega)
        have HD := Lib.hid hD
        have HE := Lib.hid hen
        rw [hen]
        rw [hen] at cq
        clear hD hrows h H hen HK hown'
        generalize l[k] = x at *
        obtain ⟨r, hr⟩ : ∃ r, r = F e x := ⟨_, rfl⟩
        rw [← hr] at cq hlen
        have HF := Lib.hid hr
        clear hr
        obtain ⟨x0, x1⟩ := x
        simp only [Nat.add_zero, MemV.val] at e0 cq
        go_wp2_with fail
        refine (cq _ ?_).mono ?_
        · exact (Below.refl _ wr).alloc (Nat.le_refl _) _
        rintro e' w1 ⟨v1, rfl, h1, n1⟩
        dsimp only
        go_wp2
        go_roundw
        case rel => exact ⟨k + 1, r, by omega, by go_num, h1, (hN.alloc _).trans n1, by omega, Lib.hid (by rw [HD.out, HF.out])⟩
        case measure => simp [intOf]; omega
    · have hk' : l.length ≤ k := by have := HN.out; omega
      have hD := HK.out
      rw [List.drop_eq_nil_of_le hk'] at hD
      have HD : Hid (R = e) := Lib.hid hD
      have HE := Lib.hid hen
      rw [hen]
      rw [hen] at hown'
      clear hD hk' hen HK
      go_wp2
      go_ret
      exact ⟨_, rfl, by rw [HD.out]; exact hown', hN⟩

set_option maxRecDepth 100000 in
set_option maxHeartbeats 2000000 in
theorem list_MemV {g : Nat} {F : List UInt8 → MemV → List UInt8} {ok : World → MemV → Prop} {w0 : World} {K : Nat} (h : Puts g MemV.val ok F w0) (eg : ∀ args w, (callFunc g args).run Tryz.prog w = .ok (.enter g args) w) (p : Option Addr) (n cap : Nat) (l : List MemV) (H : Puttable 2 MemV.row ok F K w0 p n l) (base : Nat) (hb0 : w0.heap.size ≤ base) (w : World) (hB0 : Below w0.heap.size w0 w) (hb : base ≤ w.heap.size) (v : Value) (d : List UInt8) (hown : Own w base 5 v d) (hd : d.length ≤ 1001000000) :
    Calls Tryz.prog 186 #[v, .slice p n cap, .func (.func g) #[] #[]] w (Adds5 w base (listC F d l)) := by
  have hm := H.most
  have c1 := fun hx hy => number_of base v d (n : Int) w hown hb hx (by omega) hy
  have c2 := fun (w1 : World) (v1 : Value) (h1 : Own w1 base 5 v1 (numC d n)) (n1 : Near base w w1) hl => each_MemV h eg p n cap l H base hb0 w1 (hB0.trans ((n1.below hb).mono hb0)) (Nat.le_trans hb n1.size) v1 _ h1 hl
  have hq : eachC F (numC d n) l = listC F d l := by unfold listC; rw [H.len]
  have hl := num_len (b := d) (n := (n : Int)) (by omega) (by omega)
  have HQ := Lib.hid hq
  have c1 := c1 (by omega) (by omega)
  clear hq h H hown
  go_enter Tryz.func186, Tryz.ntmps186
  go_wp2_with (first
    | (go_at_call 106; (with_reducible refine c1.mono ?_); rintro e w1 ⟨v1, rfl, h1, n1⟩)
    | (go_at_call 240; (with_reducible refine (c2 _ _ h1 n1 (by omega)).mono ?_); rintro e w2 ⟨v2, rfl, h2, n2⟩))
  go_ret
  exact ⟨_, rfl, by rw [← HQ.out]; exact h2, n1.trans n2⟩


set_option maxRecDepth 100000 in
set_option maxHeartbeats 4000000 in
theorem each_GlobV {g : Nat} {F : List UInt8 → GlobV → List UInt8} {ok : World → GlobV → Prop} {w0 : World} {K : Nat} (h : Puts g GlobV.val ok F w0) (eg : ∀ args w, (callFunc g args).run Tryz.prog w = .ok (.enter g args) w) (p : Option Addr) (n cap : Nat) (l : List GlobV) (H : Puttable 3 GlobV.row ok F K w0 p n l) (base : Nat) (hb0 : w0.heap.size ≤ base) (w : World) (hB0 : Below w0.heap.size w0 w) (hb : base ≤ w.heap.size) (v : Value) (d : List UInt8) (hown : Own w base 5 v d) (hd : d.length ≤ 1002000000) :
    Calls Tryz.prog 241 #[v, .slice p n cap, .func (.func g) #[] #[]] w (Adds5 w base (eachC F d l)) := by
  obtain ⟨R, hR⟩ : ∃ R, R = eachC F d l := ⟨_, rfl⟩
  rw [← hR]
  have HR : Hid (R = eachC F d (l.drop 0)) := Lib.hid hR
  have HN := Lib.hid H.len
  have hm := H.most
  have hKb := H.few
  have hs0 := hB0.size
  clear hR
  obtain ⟨vp, vc, rfl⟩ := hown.any
  go_enter Tryz.func241, Tryz.ntmps241
  go_wp2
  go_loopw [0, 11] (fun u i wr => ∃ (k : Nat) (e : List UInt8), k ≤ n ∧ i = .int .i64 k ∧ Own wr base 5 u e ∧ Near base w wr ∧ e.length ≤ 1002000000 ∧ Hid (R = eachC F e (l.drop k))) (fun _ i _ => n - (intOf i).toNat)
  case atStart => exact ⟨0, d, by omega, rfl, hown, Near.refl _ _, by omega, HR⟩
  case round =>
    clear HR hown hd
    obtain ⟨k, e, hk, rfl, hown', hN, hel, HK⟩ := hrel
    obtain ⟨up, uc, rfl⟩ := hown'.any
    obtain ⟨en, hen⟩ : ∃ en, e.length = en := ⟨_, rfl⟩
    have hbr := Nat.le_trans hb hN.size
    by_cases hlt : k < n
    · have hlt' : k < l.length := by have := HN.out; omega
      have hD := HK.out
      rw [List.drop_eq_getElem_cons hlt', eachC_cons] at hD
      have hBw := hB0.trans ((hN.below hb).mono hb0)
      have hrows := H.rows.below hBw (Nat.le_refl _)
      obtain ⟨b, o, hp, hbb, e0⟩ := hrows k hlt' 0 _ rfl
      subst hp
      have e1 := hrows.cell hlt' 1 rfl
      have e2 := hrows.cell hlt' 2 rfl
      by_cases hgo : (1048576 : Int) < en
      · rw [if_pos (by omega)] at hD
        have HD := Lib.hid hD
        have HE := Lib.hid hen
        rw [hen]
        rw [hen] at hown'
        clear hD hrows h H hen HK
        generalize l[k] = x at *
        obtain ⟨x0, x1, x2⟩ := x
        simp only [Nat.add_zero] at e0
        go_wp2
        go_ret
        exact ⟨_, rfl, by rw [HD.out]; exact hown'.alloc _, hN.alloc _⟩
      · rw [if_neg (by omega)] at hD
        have hsw := Nat.le_trans hs0 hN.size
        have cq := fun (W : World) (hW : Below wr.heap.size wr W) => h l[k] W base _ e (hBw.trans (hW.mono hsw)) hb0 (Nat.le_trans hbr hW.size) (hown'.below hW) (by omega) (H.fine _ (List.getElem_mem hlt') W (hBw.trans (hW.mono hsw)))
        have hlen := H.adds _ (List.getElem_mem hlt') e (by omega)
        have HD := Lib.hid hD
        have HE := Lib.hid hen
        rw [hen]
        rw [hen] at cq
        clear hD hrows h H hen HK hown'
        generalize l[k] = x at *
        obtain ⟨r, hr⟩ : ∃ r, r = F e x := ⟨_, rfl⟩
        rw [← hr] at cq hlen
        have HF := Lib.hid hr
        clear hr
        obtain ⟨x0, x1, x2⟩ := x
        simp only [Nat.add_zero, GlobV.val] at e0 cq
        go_wp2_with fail
        refine (cq _ ?_).mono ?_
        · exact (Below.refl _ wr).alloc (Nat.le_refl _) _
        rintro e' w1 ⟨v1, rfl, h1, n1⟩
        dsimp only
        go_wp2
        go_roundw
        case rel => exact ⟨k + 1, r, by omega, by go_num, h1, (hN.alloc _).trans n1, by omega, Lib.hid (by rw [HD.out, HF.out])⟩
        case measure => simp [intOf]; omega
    · have hk' : l.length ≤ k := by have := HN.out; omega
      have hD := HK.out
      rw [List.drop_eq_nil_of_le hk'] at hD
      have HD : Hid (R = e) := Lib.hid hD
      have HE := Lib.hid hen
      rw [hen]
      rw [hen] at hown'
      clear hD hk' hen HK
      go_wp2
      go_ret
      exact ⟨_, rfl, by rw [HD.out]; exact hown', hN⟩

set_option maxRecDepth 100000 in
set_option maxHeartbeats 2000000 in
theorem list_GlobV {g : Nat} {F : List UInt8 → GlobV → List UInt8} {ok : World → GlobV → Prop} {w0 : World} {K : Nat} (h : Puts g GlobV.val ok F w0) (eg : ∀ args w, (callFunc g args).run Tryz.prog w = .ok (.enter g args) w) (p : Option Addr) (n cap : Nat) (l : List GlobV) (H : Puttable 3 GlobV.row ok F K w0 p n l) (base : Nat) (hb0 : w0.heap.size ≤ base) (w : World) (hB0 : Below w0.heap.size w0 w) (hb : base ≤ w.heap.size) (v : Value) (d : List UInt8) (hown : Own w base 5 v d) (hd : d.length ≤ 1001000000) :
    Calls Tryz.prog 188 #[v, .slice p n cap, .func (.func g) #[] #[]] w (Adds5 w base (listC F d l)) := by
  have hm := H.most
  have c1 := fun hx hy => number_of base v d (n : Int) w hown hb hx (by omega) hy
  have c2 := fun (w1 : World) (v1 : Value) (h1 : Own w1 base 5 v1 (numC d n)) (n1 : Near base w w1) hl => each_GlobV h eg p n cap l H base hb0 w1 (hB0.trans ((n1.below hb).mono hb0)) (Nat.le_trans hb n1.size) v1 _ h1 hl
  have hq : eachC F (numC d n) l = listC F d l := by unfold listC; rw [H.len]
  have hl := num_len (b := d) (n := (n : Int)) (by omega) (by omega)
  have HQ := Lib.hid hq
  have c1 := c1 (by omega) (by omega)
  clear hq h H hown
  go_enter Tryz.func188, Tryz.ntmps188
  go_wp2_with (first
    | (go_at_call 106; (with_reducible refine c1.mono ?_); rintro e w1 ⟨v1, rfl, h1, n1⟩)
    | (go_at_call 241; (with_reducible refine (c2 _ _ h1 n1 (by omega)).mono ?_); rintro e w2 ⟨v2, rfl, h2, n2⟩))
  go_ret
  exact ⟨_, rfl, by rw [← HQ.out]; exact h2, n1.trans n2⟩


set_option maxRecDepth 100000 in
set_option maxHeartbeats 4000000 in
theorem each_ExpV {g : Nat} {F : List UInt8 → ExpV → List UInt8} {ok : World → ExpV → Prop} {w0 : World} {K : Nat} (h : Puts g ExpV.val ok F w0) (eg : ∀ args w, (callFunc g args).run Tryz.prog w = .ok (.enter g args) w) (p : Option Addr) (n cap : Nat) (l : List ExpV) (H : Puttable 3 ExpV.row ok F K w0 p n l) (base : Nat) (hb0 : w0.heap.size ≤ base) (w : World) (hB0 : Below w0.heap.size w0 w) (hb : base ≤ w.heap.size) (v : Value) (d : List UInt8) (hown : Own w base 5 v d) (hd : d.length ≤ 1002000000) :
    Calls Tryz.prog 242 #[v, .slice p n cap, .func (.func g) #[] #[]] w (Adds5 w base (eachC F d l)) := by
  obtain ⟨R, hR⟩ : ∃ R, R = eachC F d l := ⟨_, rfl⟩
  rw [← hR]
  have HR : Hid (R = eachC F d (l.drop 0)) := Lib.hid hR
  have HN := Lib.hid H.len
  have hm := H.most
  have hKb := H.few
  have hs0 := hB0.size
  clear hR
  obtain ⟨vp, vc, rfl⟩ := hown.any
  go_enter Tryz.func242, Tryz.ntmps242
  go_wp2
  go_loopw [0, 11] (fun u i wr => ∃ (k : Nat) (e : List UInt8), k ≤ n ∧ i = .int .i64 k ∧ Own wr base 5 u e ∧ Near base w wr ∧ e.length ≤ 1002000000 ∧ Hid (R = eachC F e (l.drop k))) (fun _ i _ => n - (intOf i).toNat)
  case atStart => exact ⟨0, d, by omega, rfl, hown, Near.refl _ _, by omega, HR⟩
  case round =>
    clear HR hown hd
    obtain ⟨k, e, hk, rfl, hown', hN, hel, HK⟩ := hrel
    obtain ⟨up, uc, rfl⟩ := hown'.any
    obtain ⟨en, hen⟩ : ∃ en, e.length = en := ⟨_, rfl⟩
    have hbr := Nat.le_trans hb hN.size
    by_cases hlt : k < n
    · have hlt' : k < l.length := by have := HN.out; omega
      have hD := HK.out
      rw [List.drop_eq_getElem_cons hlt', eachC_cons] at hD
      have hBw := hB0.trans ((hN.below hb).mono hb0)
      have hrows := H.rows.below hBw (Nat.le_refl _)
      obtain ⟨b, o, hp, hbb, e0⟩ := hrows k hlt' 0 _ rfl
      subst hp
      have e1 := hrows.cell hlt' 1 rfl
      have e2 := hrows.cell hlt' 2 rfl
      by_cases hgo : (1048576 : Int) < en
      · rw [if_pos (by omega)] at hD
        have HD := Lib.hid hD
        have HE := Lib.hid hen
        rw [hen]
        rw [hen] at hown'
        clear hD hrows h H hen HK
        generalize l[k] = x at *
        obtain ⟨x0, x1, x2⟩ := x
        simp only [Nat.add_zero] at e0
        go_wp2
        go_ret
        exact ⟨_, rfl, by rw [HD.out]; exact hown'.alloc _, hN.alloc _⟩
      · rw [if_neg (by omega)] at hD
        have hsw := Nat.le_trans hs0 hN.size
        have cq := fun (W : World) (hW : Below wr.heap.size wr W) => h l[k] W base _ e (hBw.trans (hW.mono hsw)) hb0 (Nat.le_trans hbr hW.size) (hown'.below hW) (by omega) (H.fine _ (List.getElem_mem hlt') W (hBw.trans (hW.mono hsw)))
        have hlen := H.adds _ (List.getElem_mem hlt') e (by omega)
        have HD := Lib.hid hD
        have HE := Lib.hid hen
        rw [hen]
        rw [hen] at cq
        clear hD hrows h H hen HK hown'
        generalize l[k] = x at *
        obtain ⟨r, hr⟩ : ∃ r, r = F e x := ⟨_, rfl⟩
        rw [← hr] at cq hlen
        have HF := Lib.hid hr
        clear hr
        obtain ⟨x0, x1, x2⟩ := x
        simp only [Nat.add_zero, ExpV.val] at e0 cq
        go_wp2_with fail
        refine (cq _ ?_).mono ?_
        · exact (Below.refl _ wr).alloc (Nat.le_refl _) _
        rintro e' w1 ⟨v1, rfl, h1, n1⟩
        dsimp only
        go_wp2
        go_roundw
        case rel => exact ⟨k + 1, r, by omega, by go_num, h1, (hN.alloc _).trans n1, by omega, Lib.hid (by rw [HD.out, HF.out])⟩
        case measure => simp [intOf]; omega
    · have hk' : l.length ≤ k := by have := HN.out; omega
      have hD := HK.out
      rw [List.drop_eq_nil_of_le hk'] at hD
      have HD : Hid (R = e) := Lib.hid hD
      have HE := Lib.hid hen
      rw [hen]
      rw [hen] at hown'
      clear hD hk' hen HK
      go_wp2
      go_ret
      exact ⟨_, rfl, by rw [HD.out]; exact hown', hN⟩

set_option maxRecDepth 100000 in
set_option maxHeartbeats 2000000 in
theorem list_ExpV {g : Nat} {F : List UInt8 → ExpV → List UInt8} {ok : World → ExpV → Prop} {w0 : World} {K : Nat} (h : Puts g ExpV.val ok F w0) (eg : ∀ args w, (callFunc g args).run Tryz.prog w = .ok (.enter g args) w) (p : Option Addr) (n cap : Nat) (l : List ExpV) (H : Puttable 3 ExpV.row ok F K w0 p n l) (base : Nat) (hb0 : w0.heap.size ≤ base) (w : World) (hB0 : Below w0.heap.size w0 w) (hb : base ≤ w.heap.size) (v : Value) (d : List UInt8) (hown : Own w base 5 v d) (hd : d.length ≤ 1001000000) :
    Calls Tryz.prog 191 #[v, .slice p n cap, .func (.func g) #[] #[]] w (Adds5 w base (listC F d l)) := by
  have hm := H.most
  have c1 := fun hx hy => number_of base v d (n : Int) w hown hb hx (by omega) hy
  have c2 := fun (w1 : World) (v1 : Value) (h1 : Own w1 base 5 v1 (numC d n)) (n1 : Near base w w1) hl => each_ExpV h eg p n cap l H base hb0 w1 (hB0.trans ((n1.below hb).mono hb0)) (Nat.le_trans hb n1.size) v1 _ h1 hl
  have hq : eachC F (numC d n) l = listC F d l := by unfold listC; rw [H.len]
  have hl := num_len (b := d) (n := (n : Int)) (by omega) (by omega)
  have HQ := Lib.hid hq
  have c1 := c1 (by omega) (by omega)
  clear hq h H hown
  go_enter Tryz.func191, Tryz.ntmps191
  go_wp2_with (first
    | (go_at_call 106; (with_reducible refine c1.mono ?_); rintro e w1 ⟨v1, rfl, h1, n1⟩)
    | (go_at_call 242; (with_reducible refine (c2 _ _ h1 n1 (by omega)).mono ?_); rintro e w2 ⟨v2, rfl, h2, n2⟩))
  go_ret
  exact ⟨_, rfl, by rw [← HQ.out]; exact h2, n1.trans n2⟩


set_option maxRecDepth 100000 in
set_option maxHeartbeats 4000000 in
theorem each_DatV {g : Nat} {F : List UInt8 → DatV → List UInt8} {ok : World → DatV → Prop} {w0 : World} {K : Nat} (h : Puts g DatV.val ok F w0) (eg : ∀ args w, (callFunc g args).run Tryz.prog w = .ok (.enter g args) w) (p : Option Addr) (n cap : Nat) (l : List DatV) (H : Puttable 2 DatV.row ok F K w0 p n l) (base : Nat) (hb0 : w0.heap.size ≤ base) (w : World) (hB0 : Below w0.heap.size w0 w) (hb : base ≤ w.heap.size) (v : Value) (d : List UInt8) (hown : Own w base 5 v d) (hd : d.length ≤ 1002000000) :
    Calls Tryz.prog 244 #[v, .slice p n cap, .func (.func g) #[] #[]] w (Adds5 w base (eachC F d l)) := by
  obtain ⟨R, hR⟩ : ∃ R, R = eachC F d l := ⟨_, rfl⟩
  rw [← hR]
  have HR : Hid (R = eachC F d (l.drop 0)) := Lib.hid hR
  have HN := Lib.hid H.len
  have hm := H.most
  have hKb := H.few
  have hs0 := hB0.size
  clear hR
  obtain ⟨vp, vc, rfl⟩ := hown.any
  go_enter Tryz.func244, Tryz.ntmps244
  go_wp2
  go_loopw [0, 11] (fun u i wr => ∃ (k : Nat) (e : List UInt8), k ≤ n ∧ i = .int .i64 k ∧ Own wr base 5 u e ∧ Near base w wr ∧ e.length ≤ 1002000000 ∧ Hid (R = eachC F e (l.drop k))) (fun _ i _ => n - (intOf i).toNat)
  case atStart => exact ⟨0, d, by omega, rfl, hown, Near.refl _ _, by omega, HR⟩
  case round =>
    clear HR hown hd
    obtain ⟨k, e, hk, rfl, hown', hN, hel, HK⟩ := hrel
    obtain ⟨up, uc, rfl⟩ := hown'.any
    obtain ⟨en, hen⟩ : ∃ en, e.length = en := ⟨_, rfl⟩
    have hbr := Nat.le_trans hb hN.size
    by_cases hlt : k < n
    · have hlt' : k < l.length := by have := HN.out; omega
      have hD := HK.out
      rw [List.drop_eq_getElem_cons hlt', eachC_cons] at hD
      have hBw := hB0.trans ((hN.below hb).mono hb0)
      have hrows := H.rows.below hBw (Nat.le_refl _)
      obtain ⟨b, o, hp, hbb, e0⟩ := hrows k hlt' 0 _ rfl
      subst hp
      have e1 := hrows.cell hlt' 1 rfl
      by_cases hgo : (1048576 : Int) < en
      · rw [if_pos (by omega)] at hD
        have HD := Lib.hid hD
        have HE := Lib.hid hen
        rw [hen]
        rw [hen] at hown'
        clear hD hrows h H hen HK
        generalize l[k] = x at *
        obtain ⟨x0, x1⟩ := x
        simp only [Nat.add_zero] at e0
        go_wp2
        go_ret
        exact ⟨_, rfl, by rw [HD.out]; exact hown'.alloc _, hN.alloc _⟩
      · rw [if_neg (by omega)] at hD
        have hsw := Nat.le_trans hs0 hN.size
        have cq := fun (W : World) (hW : Below wr.heap.size wr W) => h l[k] W base _ e (hBw.trans (hW.mono hsw)) hb0 (Nat.le_trans hbr hW.size) (hown'.below hW) (by omega) (H.fine _ (List.getElem_mem hlt') W (hBw.trans (hW.mono hsw)))
        have hlen := H.adds _ (List.getElem_mem hlt') e (by omega)
        have HD := Lib.hid hD
        have HE := Lib.hid hen
        rw [hen]
        rw [hen] at cq
        clear hD hrows h H hen HK hown'
        generalize l[k] = x at *
        obtain ⟨r, hr⟩ : ∃ r, r = F e x := ⟨_, rfl⟩
        rw [← hr] at cq hlen
        have HF := Lib.hid hr
        clear hr
        obtain ⟨x0, x1⟩ := x
        simp only [Nat.add_zero, DatV.val] at e0 cq
        go_wp2_with fail
        refine (cq _ ?_).mono ?_
        · exact (Below.refl _ wr).alloc (Nat.le_refl _) _
        rintro e' w1 ⟨v1, rfl, h1, n1⟩
        dsimp only
        go_wp2
        go_roundw
        case rel => exact ⟨k + 1, r, by omega, by go_num, h1, (hN.alloc _).trans n1, by omega, Lib.hid (by rw [HD.out, HF.out])⟩
        case measure => simp [intOf]; omega
    · have hk' : l.length ≤ k := by have := HN.out; omega
      have hD := HK.out
      rw [List.drop_eq_nil_of_le hk'] at hD
      have HD : Hid (R = e) := Lib.hid hD
      have HE := Lib.hid hen
      rw [hen]
      rw [hen] at hown'
      clear hD hk' hen HK
      go_wp2
      go_ret
      exact ⟨_, rfl, by rw [HD.out]; exact hown', hN⟩

set_option maxRecDepth 100000 in
set_option maxHeartbeats 2000000 in
theorem list_DatV {g : Nat} {F : List UInt8 → DatV → List UInt8} {ok : World → DatV → Prop} {w0 : World} {K : Nat} (h : Puts g DatV.val ok F w0) (eg : ∀ args w, (callFunc g args).run Tryz.prog w = .ok (.enter g args) w) (p : Option Addr) (n cap : Nat) (l : List DatV) (H : Puttable 2 DatV.row ok F K w0 p n l) (base : Nat) (hb0 : w0.heap.size ≤ base) (w : World) (hB0 : Below w0.heap.size w0 w) (hb : base ≤ w.heap.size) (v : Value) (d : List UInt8) (hown : Own w base 5 v d) (hd : d.length ≤ 1001000000) :
    Calls Tryz.prog 197 #[v, .slice p n cap, .func (.func g) #[] #[]] w (Adds5 w base (listC F d l)) := by
  have hm := H.most
  have c1 := fun hx hy => number_of base v d (n : Int) w hown hb hx (by omega) hy
  have c2 := fun (w1 : World) (v1 : Value) (h1 : Own w1 base 5 v1 (numC d n)) (n1 : Near base w w1) hl => each_DatV h eg p n cap l H base hb0 w1 (hB0.trans ((n1.below hb).mono hb0)) (Nat.le_trans hb n1.size) v1 _ h1 hl
  have hq : eachC F (numC d n) l = listC F d l := by unfold listC; rw [H.len]
  have hl := num_len (b := d) (n := (n : Int)) (by omega) (by omega)
  have HQ := Lib.hid hq
  have c1 := c1 (by omega) (by omega)
  clear hq h H hown
  go_enter Tryz.func197, Tryz.ntmps197
  go_wp2_with (first
    | (go_at_call 106; (with_reducible refine c1.mono ?_); rintro e w1 ⟨v1, rfl, h1, n1⟩)
    | (go_at_call 244; (with_reducible refine (c2 _ _ h1 n1 (by omega)).mono ?_); rintro e w2 ⟨v2, rfl, h2, n2⟩))
  go_ret
  exact ⟨_, rfl, by rw [← HQ.out]; exact h2, n1.trans n2⟩


set_option maxRecDepth 100000 in
set_option maxHeartbeats 4000000 in
theorem each_InsV {g : Nat} {F : List UInt8 → InsV → List UInt8} {ok : World → InsV → Prop} {w0 : World} {K : Nat} (h : Puts g InsV.val ok F w0) (eg : ∀ args w, (callFunc g args).run Tryz.prog w = .ok (.enter g args) w) (p : Option Addr) (n cap : Nat) (l : List InsV) (H : Puttable 4 InsV.row ok F K w0 p n l) (base : Nat) (hb0 : w0.heap.size ≤ base) (w : World) (hB0 : Below w0.heap.size w0 w) (hb : base ≤ w.heap.size) (v : Value) (d : List UInt8) (hown : Own w base 5 v d) (hd : d.length ≤ 1002000000) :
    Calls Tryz.prog 195 #[v, .slice p n cap, .func (.func g) #[] #[]] w (Adds5 w base (eachC F d l)) := by
  obtain ⟨R, hR⟩ : ∃ R, R = eachC F d l := ⟨_, rfl⟩
  rw [← hR]
  have HR : Hid (R = eachC F d (l.drop 0)) := Lib.hid hR
  have HN := Lib.hid H.len
  have hm := H.most
  have hKb := H.few
  have hs0 := hB0.size
  clear hR
  obtain ⟨vp, vc, rfl⟩ := hown.any
  go_enter Tryz.func195, Tryz.ntmps195
  go_wp2
  go_loopw [0, 11] (fun u i wr => ∃ (k : Nat) (e : List UInt8), k ≤ n ∧ i = .int .i64 k ∧ Own wr base 5 u e ∧ Near base w wr ∧ e.length ≤ 1002000000 ∧ Hid (R = eachC F e (l.drop k))) (fun _ i _ => n - (intOf i).toNat)
  case atStart => exact ⟨0, d, by omega, rfl, hown, Near.refl _ _, by omega, HR⟩
  case round =>
    clear HR hown hd
    obtain ⟨k, e, hk, rfl, hown', hN, hel, HK⟩ := hrel
    obtain ⟨up, uc, rfl⟩ := hown'.any
    obtain ⟨en, hen⟩ : ∃ en, e.length = en := ⟨_, rfl⟩
    have hbr := Nat.le_trans hb hN.size
    by_cases hlt : k < n
    · have hlt' : k < l.length := by have := HN.out; omega
      have hD := HK.out
      rw [List.drop_eq_getElem_cons hlt', eachC_cons] at hD
      have hBw := hB0.trans ((hN.below hb).mono hb0)
      have hrows := H.rows.below hBw (Nat.le_refl _)
      obtain ⟨b, o, hp, hbb, e0⟩ := hrows k hlt' 0 _ rfl
      subst hp
      have e1 := hrows.cell hlt' 1 rfl
      have e2 := hrows.cell hlt' 2 rfl
      have e3 := hrows.cell hlt' 3 rfl
      by_cases hgo : (1048576 : Int) < en
      · rw [if_pos (by omega)] at hD
        have HD := Lib.hid hD
        have HE := Lib.hid hen
        rw [hen]
        rw [hen] at hown'
        clear hD hrows h H hen HK
        generalize l[k] = x at *
        obtain ⟨x0, x1, x2, x3, x4, x5⟩ := x
        simp only [Nat.add_zero] at e0
        go_wp2
        go_ret
        exact ⟨_, rfl, by rw [HD.out]; exact hown'.alloc _, hN.alloc _⟩
      · rw [if_neg (by omega)] at hD
        have hsw := Nat.le_trans hs0 hN.size
        have cq := fun (W : World) (hW : Below wr.heap.size wr W) => h l[k] W base _ e (hBw.trans (hW.mono hsw)) hb0 (Nat.le_trans hbr hW.size) (hown'.below hW) (by omega) (H.fine _ (List.getElem_mem hlt') W (hBw.trans (hW.mono hsw)))
        have hlen := H.adds _ (List.getElem_mem hlt') e (by omega)
        have HD := Lib.hid hD
        have HE := Lib.hid hen
        rw [hen]
        rw [hen] at cq
        clear hD hrows h H hen HK hown'
        generalize l[k] = x at *
        obtain ⟨r, hr⟩ : ∃ r, r = F e x := ⟨_, rfl⟩
        rw [← hr] at cq hlen
        have HF := Lib.hid hr
        clear hr
        obtain ⟨x0, x1, x2, x3, x4, x5⟩ := x
        simp only [Nat.add_zero, InsV.val] at e0 cq
        go_wp2_with fail
        refine (cq _ ?_).mono ?_
        · exact (Below.refl _ wr).alloc (Nat.le_refl _) _
        rintro e' w1 ⟨v1, rfl, h1, n1⟩
        dsimp only
        go_wp2
        go_roundw
        case rel => exact ⟨k + 1, r, by omega, by go_num, h1, (hN.alloc _).trans n1, by omega, Lib.hid (by rw [HD.out, HF.out])⟩
        case measure => simp [intOf]; omega
    · have hk' : l.length ≤ k := by have := HN.out; omega
      have hD := HK.out
      rw [List.drop_eq_nil_of_le hk'] at hD
      have HD : Hid (R = e) := Lib.hid hD
      have HE := Lib.hid hen
      rw [hen]
      rw [hen] at hown'
      clear hD hk' hen HK
      go_wp2
      go_ret
      exact ⟨_, rfl, by rw [HD.out]; exact hown', hN⟩



set_option maxRecDepth 100000 in
set_option maxHeartbeats 4000000 in
theorem each_RunV {g : Nat} {F : List UInt8 → RunV → List UInt8} {ok : World → RunV → Prop} {w0 : World} {K : Nat} (h : Puts g RunV.val ok F w0) (eg : ∀ args w, (callFunc g args).run Tryz.prog w = .ok (.enter g args) w) (p : Option Addr) (n cap : Nat) (l : List RunV) (H : Puttable 2 RunV.row ok F K w0 p n l) (base : Nat) (hb0 : w0.heap.size ≤ base) (w : World) (hB0 : Below w0.heap.size w0 w) (hb : base ≤ w.heap.size) (v : Value) (d : List UInt8) (hown : Own w base 5 v d) (hd : d.length ≤ 1002000000) :
    Calls Tryz.prog 243 #[v, .slice p n cap, .func (.func g) #[] #[]] w (Adds5 w base (eachC F d l)) := by
  obtain ⟨R, hR⟩ : ∃ R, R = eachC F d l := ⟨_, rfl⟩
  rw [← hR]
  have HR : Hid (R = eachC F d (l.drop 0)) := Lib.hid hR
  have HN := Lib.hid H.len
  have hm := H.most
  have hKb := H.few
  have hs0 := hB0.size
  clear hR
  obtain ⟨vp, vc, rfl⟩ := hown.any
  go_enter Tryz.func243, Tryz.ntmps243
  go_wp2
  go_loopw [0, 11] (fun u i wr => ∃ (k : Nat) (e : List UInt8), k ≤ n ∧ i = .int .i64 k ∧ Own wr base 5 u e ∧ Near base w wr ∧ e.length ≤ 1002000000 ∧ Hid (R = eachC F e (l.drop k))) (fun _ i _ => n - (intOf i).toNat)
  case atStart => exact ⟨0, d, by omega, rfl, hown, Near.refl _ _, by omega, HR⟩
  case round =>
    clear HR hown hd
    obtain ⟨k, e, hk, rfl, hown', hN, hel, HK⟩ := hrel
    obtain ⟨up, uc, rfl⟩ := hown'.any
    obtain ⟨en, hen⟩ : ∃ en, e.length = en := ⟨_, rfl⟩
    have hbr := Nat.le_trans hb hN.size
    by_cases hlt : k < n
    · have hlt' : k < l.length := by have := HN.out; omega
      have hD := HK.out
      rw [List.drop_eq_getElem_cons hlt', eachC_cons] at hD
      have hBw := hB0.trans ((hN.below hb).mono hb0)
      have hrows := H.rows.below hBw (Nat.le_refl _)
      obtain ⟨b, o, hp, hbb, e0⟩ := hrows k hlt' 0 _ rfl
      subst hp
      have e1 := hrows.cell hlt' 1 rfl
      by_cases hgo : (1048576 : Int) < en
      · rw [if_pos (by omega)] at hD
        have HD := Lib.hid hD
        have HE := Lib.hid hen
        rw [hen]
        rw [hen] at hown'
        clear hD hrows h H hen HK
        generalize l[k] = x at *
        obtain ⟨x0, x1⟩ := x
        simp only [Nat.add_zero] at e0
        go_wp2
        go_ret
        exact ⟨_, rfl, by rw [HD.out]; exact hown'.alloc _, hN.alloc _⟩
      · rw [if_neg (by omega)] at hD
        have hsw := Nat.le_trans hs0 hN.size
        have cq := fun (W : World) (hW : Below wr.heap.size wr W) => h l[k] W base _ e (hBw.trans (hW.mono hsw)) hb0 (Nat.le_trans hbr hW.size) (hown'.below hW) (by omega) (H.fine _ (List.getElem_mem hlt') W (hBw.trans (hW.mono hsw)))
        have hlen := H.adds _ (List.getElem_mem hlt') e (by omega)
        have HD := Lib.hid hD
        have HE := Lib.hid hen
        rw [hen]
        rw [hen] at cq
        clear hD hrows h H hen HK hown'
        generalize l[k] = x at *
        obtain ⟨r, hr⟩ : ∃ r, r = F e x := ⟨_, rfl⟩
        rw [← hr] at cq hlen
        have HF := Lib.hid hr
        clear hr
        obtain ⟨x0, x1⟩ := x
        simp only [Nat.add_zero, RunV.val] at e0 cq
        go_wp2_with fail
        refine (cq _ ?_).mono ?_
        · exact (Below.refl _ wr).alloc (Nat.le_refl _) _
        rintro e' w1 ⟨v1, rfl, h1, n1⟩
        dsimp only
        go_wp2
        go_roundw
        case rel => exact ⟨k + 1, r, by omega, by go_num, h1, (hN.alloc _).trans n1, by omega, Lib.hid (by rw [HD.out, HF.out])⟩
        case measure => simp [intOf]; omega
    · have hk' : l.length ≤ k := by have := HN.out; omega
      have hD := HK.out
      rw [List.drop_eq_nil_of_le hk'] at hD
      have HD : Hid (R = e) := Lib.hid hD
      have HE := Lib.hid hen
      rw [hen]
      rw [hen] at hown'
      clear hD hk' hen HK
      go_wp2
      go_ret
      exact ⟨_, rfl, by rw [HD.out]; exact hown', hN⟩

set_option maxRecDepth 100000 in
set_option maxHeartbeats 2000000 in
theorem list_RunV {g : Nat} {F : List UInt8 → RunV → List UInt8} {ok : World → RunV → Prop} {w0 : World} {K : Nat} (h : Puts g RunV.val ok F w0) (eg : ∀ args w, (callFunc g args).run Tryz.prog w = .ok (.enter g args) w) (p : Option Addr) (n cap : Nat) (l : List RunV) (H : Puttable 2 RunV.row ok F K w0 p n l) (base : Nat) (hb0 : w0.heap.size ≤ base) (w : World) (hB0 : Below w0.heap.size w0 w) (hb : base ≤ w.heap.size) (v : Value) (d : List UInt8) (hown : Own w base 5 v d) (hd : d.length ≤ 1001000000) :
    Calls Tryz.prog 192 #[v, .slice p n cap, .func (.func g) #[] #[]] w (Adds5 w base (listC F d l)) := by
  have hm := H.most
  have c1 := fun hx hy => number_of base v d (n : Int) w hown hb hx (by omega) hy
  have c2 := fun (w1 : World) (v1 : Value) (h1 : Own w1 base 5 v1 (numC d n)) (n1 : Near base w w1) hl => each_RunV h eg p n cap l H base hb0 w1 (hB0.trans ((n1.below hb).mono hb0)) (Nat.le_trans hb n1.size) v1 _ h1 hl
  have hq : eachC F (numC d n) l = listC F d l := by unfold listC; rw [H.len]
  have hl := num_len (b := d) (n := (n : Int)) (by omega) (by omega)
  have HQ := Lib.hid hq
  have c1 := c1 (by omega) (by omega)
  clear hq h H hown
  go_enter Tryz.func192, Tryz.ntmps192
  go_wp2_with (first
    | (go_at_call 106; (with_reducible refine c1.mono ?_); rintro e w1 ⟨v1, rfl, h1, n1⟩)
    | (go_at_call 243; (with_reducible refine (c2 _ _ h1 n1 (by omega)).mono ?_); rintro e w2 ⟨v2, rfl, h2, n2⟩))
  go_ret
  exact ⟨_, rfl, by rw [← HQ.out]; exact h2, n1.trans n2⟩


set_option maxRecDepth 100000 in
set_option maxHeartbeats 4000000 in
theorem each_Int {g : Nat} {F : List UInt8 → Int → List UInt8} {ok : World → Int → Prop} {w0 : World} {K : Nat} (h : Puts g intVal ok F w0) (eg : ∀ args w, (callFunc g args).run Tryz.prog w = .ok (.enter g args) w) (p : Option Addr) (n cap : Nat) (l : List Int) (H : Puttable 1 intRow ok F K w0 p n l) (base : Nat) (hb0 : w0.heap.size ≤ base) (w : World) (hB0 : Below w0.heap.size w0 w) (hb : base ≤ w.heap.size) (v : Value) (d : List UInt8) (hown : Own w base 5 v d) (hd : d.length ≤ 1002000000) :
    Calls Tryz.prog 237 #[v, .slice p n cap, .func (.func g) #[] #[]] w (Adds5 w base (eachC F d l)) := by
  obtain ⟨R, hR⟩ : ∃ R, R = eachC F d l := ⟨_, rfl⟩
  rw [← hR]
  have HR : Hid (R = eachC F d (l.drop 0)) := Lib.hid hR
  have HN := Lib.hid H.len
  have hm := H.most
  have hKb := H.few
  have hs0 := hB0.size
  clear hR
  obtain ⟨vp, vc, rfl⟩ := hown.any
  go_enter Tryz.func237, Tryz.ntmps237
  go_wp2
  go_loopw [0, 11] (fun u i wr => ∃ (k : Nat) (e : List UInt8), k ≤ n ∧ i = .int .i64 k ∧ Own wr base 5 u e ∧ Near base w wr ∧ e.length ≤ 1002000000 ∧ Hid (R = eachC F e (l.drop k))) (fun _ i _ => n - (intOf i).toNat)
  case atStart => exact ⟨0, d, by omega, rfl, hown, Near.refl _ _, by omega, HR⟩
  case round =>
    clear HR hown hd
    obtain ⟨k, e, hk, rfl, hown', hN, hel, HK⟩ := hrel
    obtain ⟨up, uc, rfl⟩ := hown'.any
    obtain ⟨en, hen⟩ : ∃ en, e.length = en := ⟨_, rfl⟩
    have hbr := Nat.le_trans hb hN.size
    by_cases hlt : k < n
    · have hlt' : k < l.length := by have := HN.out; omega
      have hD := HK.out
      rw [List.drop_eq_getElem_cons hlt', eachC_cons] at hD
      have hBw := hB0.trans ((hN.below hb).mono hb0)
      have hrows := H.rows.below hBw (Nat.le_refl _)
      obtain ⟨b, o, hp, hbb, e0⟩ := hrows k hlt' 0 _ rfl
      subst hp

      by_cases hgo : (1048576 : Int) < en
      · rw [if_pos (by omega)] at hD
        have HD := Lib.hid hD
        have HE := Lib.hid hen
        rw [hen]
        rw [hen] at hown'
        clear hD hrows h H hen HK
        generalize l[k] = x at *
        simp only [Nat.add_zero, Nat.mul_one] at e0
        go_wp2
        go_ret
        exact ⟨_, rfl, by rw [HD.out]; exact hown', hN⟩
      · rw [if_neg (by omega)] at hD
        have hsw := Nat.le_trans hs0 hN.size
        have cq := fun (W : World) (hW : Below wr.heap.size wr W) => h l[k] W base _ e (hBw.trans (hW.mono hsw)) hb0 (Nat.le_trans hbr hW.size) (hown'.below hW) (by omega) (H.fine _ (List.getElem_mem hlt') W (hBw.trans (hW.mono hsw)))
        have hlen := H.adds _ (List.getElem_mem hlt') e (by omega)
        have HD := Lib.hid hD
        have HE := Lib.hid hen
        rw [hen]
        rw [hen] at cq
        clear hD hrows h H hen HK hown'
        generalize l[k] = x at *
        obtain ⟨r, hr⟩ : ∃ r, r = F e x := ⟨_, rfl⟩
        rw [← hr] at cq hlen
        have HF := Lib.hid hr
        clear hr
        simp only [Nat.add_zero, Nat.mul_one, intVal] at e0 cq
        go_wp2_with fail
        refine (cq _ ?_).mono ?_
        · exact Below.refl _ wr
        rintro e' w1 ⟨v1, rfl, h1, n1⟩
        dsimp only
        go_wp2
        go_roundw
        case rel => exact ⟨k + 1, r, by omega, by go_num, h1, hN.trans n1, by omega, Lib.hid (by rw [HD.out, HF.out])⟩
        case measure => simp [intOf]; omega
    · have hk' : l.length ≤ k := by have := HN.out; omega
      have hD := HK.out
      rw [List.drop_eq_nil_of_le hk'] at hD
      have HD : Hid (R = e) := Lib.hid hD
      have HE := Lib.hid hen
      rw [hen]
      rw [hen] at hown'
      clear hD hk' hen HK
      go_wp2
      go_ret
      exact ⟨_, rfl, by rw [HD.out]; exact hown', hN⟩

set_option maxRecDepth 100000 in
set_option maxHeartbeats 2000000 in
theorem list_Int {g : Nat} {F : List UInt8 → Int → List UInt8} {ok : World → Int → Prop} {w0 : World} {K : Nat} (h : Puts g intVal ok F w0) (eg : ∀ args w, (callFunc g args).run Tryz.prog w = .ok (.enter g args) w) (p : Option Addr) (n cap : Nat) (l : List Int) (H : Puttable 1 intRow ok F K w0 p n l) (base : Nat) (hb0 : w0.heap.size ≤ base) (w : World) (hB0 : Below w0.heap.size w0 w) (hb : base ≤ w.heap.size) (v : Value) (d : List UInt8) (hown : Own w base 5 v d) (hd : d.length ≤ 1001000000) :
    Calls Tryz.prog 178 #[v, .slice p n cap, .func (.func g) #[] #[]] w (Adds5 w base (listC F d l)) := by
  have hm := H.most
  have c1 := fun hx hy => number_of base v d (n : Int) w hown hb hx (by omega) hy
  have c2 := fun (w1 : World) (v1 : Value) (h1 : Own w1 base 5 v1 (numC d n)) (n1 : Near base w w1) hl => each_Int h eg p n cap l H base hb0 w1 (hB0.trans ((n1.below hb).mono hb0)) (Nat.le_trans hb n1.size) v1 _ h1 hl
  have hq : eachC F (numC d n) l = listC F d l := by unfold listC; rw [H.len]
  have hl := num_len (b := d) (n := (n : Int)) (by omega) (by omega)
  have HQ := Lib.hid hq
  have c1 := c1 (by omega) (by omega)
  clear hq h H hown
  go_enter Tryz.func178, Tryz.ntmps178
  go_wp2_with (first
    | (go_at_call 106; (with_reducible refine c1.mono ?_); rintro e w1 ⟨v1, rfl, h1, n1⟩)
    | (go_at_call 237; (with_reducible refine (c2 _ _ h1 n1 (by omega)).mono ?_); rintro e w2 ⟨v2, rfl, h2, n2⟩))
  go_ret
  exact ⟨_, rfl, by rw [← HQ.out]; exact h2, n1.trans n2⟩

end Go.Proofs.YtpamchagidnijaaGreatDoor
