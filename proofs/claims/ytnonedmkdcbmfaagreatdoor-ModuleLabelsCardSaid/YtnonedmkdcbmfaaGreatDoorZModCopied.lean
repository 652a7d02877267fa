/-
  Package module's Copy: a list copied, thing by thing: walked at each type. Contracts that the proofs call; no statement is proved here.
-/
import Derived.Test.YtnonedmkdcbmfaaGreatDoorZModCopyA
import Derived.OwnWalk
namespace Go.Proofs.YtnonedmkdcbmfaaGreatDoor
open Go.RowKit

/-- What holds of a thing and its copy goes on holding while block g, and new blocks, turn. -/
structure Stable {V : Type} (R : World → Nat → V → V → Prop) : Prop where
  on : ∀ {W W' : World} {g lo : Nat} {x y : V}, R W lo x y → W.grownBy W' (some g) → g < lo → R W' lo x y
  less : ∀ {W : World} {lo lo' : Nat} {x y : V}, R W lo x y → lo' ≤ lo → R W lo' x y
theorem cell_grown (w : World) (b o : Nat) (x : Value) : w.grownBy (w.setCell ⟨b, o, none⟩ x) (some b) := ⟨rfl, rfl, rfl, by simp [World.setCell], fun k _ hne => Below.heap_setCell w _ _ k (fun e => hne (by rw [e]))⟩
theorem Stable.below {V : Type} {R : World → Nat → V → V → Prop} (h : Stable R) {W W' : World} {lo : Nat} {x y : V} (hr : R W (lo + 1) x y) (hb : Below W.heap.size W W') : R W' (lo + 1) x y :=
  h.on hr ⟨hb.os, hb.tape, hb.output, hb.size, fun k hk _ => hb.block k hk⟩ (Nat.lt_succ_self lo)
theorem own_under {W W' : World} {base : Nat} {e : TypeId} {size : Nat} {v : Value} {n : Nat} {xs : List Value} (h : W.ownsRow base e size v n xs) (hb : Below W.heap.size W W') : W'.ownsRow base e size v n xs :=
  h.kept (row := none) ⟨hb.os, hb.tape, hb.output, hb.size, fun k hk _ => hb.block k hk⟩ (by cases v.ownBlock with | none => exact .inl rfl | some g => exact .inr (by simp))
theorem len1 {l : List Value} (h : l.length = 1) : ∃ a, l = [a] := by match l, h with | [a], _ => exact ⟨a, rfl⟩
theorem len2 {l : List Value} (h : l.length = 2) : ∃ a b, l = [a, b] := by match l, h with | [a, b], _ => exact ⟨a, b, rfl⟩
theorem len3 {l : List Value} (h : l.length = 3) : ∃ a b c, l = [a, b, c] := by match l, h with | [a, b, c], _ => exact ⟨a, b, c, rfl⟩
theorem len4 {l : List Value} (h : l.length = 4) : ∃ a b c d, l = [a, b, c, d] := by match l, h with | [a, b, c, d], _ => exact ⟨a, b, c, d, rfl⟩
theorem set_1 {A r : List Value} {a z x : Value} {n : Nat} (h : A.length = n) : (A ++ a :: z :: r).set (n + 1) x = A ++ a :: x :: r := by
  rw [List.set_append_right _ _ (by omega), show n + 1 - A.length = 1 by omega]; rfl
theorem set_2 {A r : List Value} {a b z x : Value} {n : Nat} (h : A.length = n) : (A ++ a :: b :: z :: r).set (n + 2) x = A ++ a :: b :: x :: r := by
  rw [List.set_append_right _ _ (by omega), show n + 2 - A.length = 2 by omega]; rfl
theorem set_3 {A r : List Value} {a b c z x : Value} {n : Nat} (h : A.length = n) : (A ++ a :: b :: c :: z :: r).set (n + 3) x = A ++ a :: b :: c :: x :: r := by
  rw [List.set_append_right _ _ (by omega), show n + 3 - A.length = 3 by omega]; rfl
theorem set_at {A r : List Value} {z x : Value} {n : Nat} (h : A.length = n) : (A ++ z :: r).set n x = A ++ x :: r := by
  rw [List.set_append_right _ _ (by omega), show n - A.length = 0 by omega]; rfl

/-- What 'copied' answers. -/
def Copied {V : Type} (R : World → Nat → V → V → Prop) (row : V → List Value) (c : Nat) (E : TypeId) (l : List V) (n : Nat) (w : World) (e : Ending) (w' : World) : Prop :=
  ∃ (p' : Option Addr) (ys : List V), e = .returned (.slice p' n n) ∧ ys.length = n ∧ w'.ownsRow w.heap.size E c (.slice p' n n) n (ys.flatMap row) ∧ (∀ j (h1 : j < l.length) (h2 : j < ys.length), R w' (w.heap.size + 1) l[j] ys[j]) ∧ (p' = some ⟨w.heap.size, 0, none⟩ ∨ p' = none ∧ n = 0) ∧ Below w.heap.size w w'
theorem flat_len {V : Type} (row : V → List Value) (c : Nat) (h : ∀ x, (row x).length = c) : ∀ l : List V, (l.flatMap row).length = l.length * c
  | [] => by simp
  | x :: l => by rw [List.flatMap_cons, List.length_append, h, flat_len row c h l, List.length_cons, Nat.add_mul]; omega


theorem zero_TyV : (Tryz.prog.info? 70).map (fun i => (i.zero, i.size, i.bytes)) = some (some (.agg #[.string ⟨#[]⟩, .string ⟨#[]⟩]), 2, 32) := by kernel_rfl
theorem row_TyV (x : TyV) : (TyV.row x).length = 2 := rfl
set_option maxRecDepth 100000 in
set_option maxHeartbeats 4000000 in
theorem copied_TyV {g : Nat} {R : World → Nat → TyV → TyV → Prop} (hR : Stable R) {ok : World → TyV → Prop} (hc : ∀ x W, ok W x → Calls Tryz.prog g #[(TyV.val x)] W fun e w' => ∃ y, e = .returned (TyV.val y) ∧ R w' W.heap.size x y ∧ Below W.heap.size W w') (eg : ∀ args w, (callFunc g args).run Tryz.prog w = .ok (.enter g args) w)
    (p : Option Addr) (n cap : Nat) (l : List TyV) (hn : l.length = n) (hm : n ≤ 1000000) (hnil : p = none → cap = 0) (w : World) (hr : RowsAt w p 2 TyV.row l) (hok : ∀ W, Below w.heap.size w W → ∀ x ∈ l, ok W x) :
    Calls Tryz.prog 72 #[.slice p n cap, .func (.func g) #[] #[]] w (Copied R TyV.row 2 70 l n w) := by
  cases p with
  | none =>
    have h0 : n = 0 := by
      cases l with
      | nil => simpa using hn.symm
      | cons x l => obtain ⟨b, o, h, _⟩ := hr 0 (by simp) 0 _ rfl; cases h
    have hcap := hnil rfl
    subst h0 hcap
    obtain rfl : l = [] := List.eq_nil_of_length_eq_zero hn
    clear hn hnil hr hok hc
    have hnl := fun (w : World) (a : Option Addr) (n c n' c' : Nat) => Lib.run_eql_slice_nil (P := Tryz.prog) w 22 70 a n c n' c' Tryz.underlying22
    go_enter Tryz.func72, Tryz.ntmps72
    go_wp2
    go_ret
    exact ⟨none, [], rfl, rfl, World.ownsRow_nil _ _ _ _, fun j h1 => absurd h1 (by simp), .inr ⟨rfl, rfl⟩, Below.refl _ _⟩
  | some ad =>
    clear hnil
    obtain ⟨i0, hi, hz0, hz1, hz2⟩ := info_parts zero_TyV
    have HN := Lib.hid hn
    clear hn
    have hnl := fun (w : World) (a : Option Addr) (n c n' c' : Nat) => Lib.run_eql_slice_nil (P := Tryz.prog) w 22 70 a n c n' c' Tryz.underlying22
    go_enter Tryz.func72, Tryz.ntmps72
    go_wp2_with (at_make; refine wpList_make_full _ rfl (.tmp 11) (.tmp 11) 22 rfl w.heap.size 70 i0 (.agg #[.string ⟨#[]⟩, .string ⟨#[]⟩]) 2 Tryz.underlying22 hi hz0 hz1 .i64 .i64 _ _ n rfl rfl rfl rfl (by rw [hz2]; omega) (by unfold maxLen; omega) (Nat.le_refl _) ?_)
    intro w1 hown hgrow
    have hB1 : Below w.heap.size w w1 := Below.grown (Below.refl _ _) hgrow (Nat.le_refl _) (fun g e => by cases e)
    have hlt1 : w.heap.size < w1.heap.size := (hown.lt w.heap.size rfl).2
    obtain ⟨zs, hown⟩ : ∃ zs, w1.ownsRow w.heap.size 70 2 (.slice (some ⟨w.heap.size, 0, none⟩) n n) n zs := ⟨_, hown⟩
    have hzl : zs.length = n * 2 := by have := hown.1; simpa using this
    clear hgrow
    go_wp2
    go_loopw [15] (fun i wr => ∃ (k : Nat) (ys : List TyV) (zs : List Value), k ≤ n ∧ i = .int .i64 k ∧ ys.length = k ∧ zs.length = (n - k) * 2 ∧ wr.ownsRow w.heap.size 70 2 (.slice (some ⟨w.heap.size, 0, none⟩) n n) n (ys.flatMap TyV.row ++ zs) ∧ (∀ j (h1 : j < l.length) (h2 : j < ys.length), R wr (w.heap.size + 1) l[j] ys[j]) ∧ Below w.heap.size w wr ∧ w.heap.size < wr.heap.size) (fun i _ => n - (intOf i).toNat)
    case atStart => exact ⟨0, [], zs, by omega, rfl, rfl, by simpa using hzl, by simpa using hown, fun j _ h2 => absurd h2 (by simp), hB1, hlt1⟩
    case round =>
    clear hown hB1 hlt1 hzl
    obtain ⟨k, ys, zs, hk, rfl, hyl, hzl, hown, hRs, hB, hlt0⟩ := hrel
    by_cases hlt : k < n
    · have hlt' : k < l.length := by have := HN.out; omega
      have hrows := hr.below hB (Nat.le_refl _)
      obtain ⟨b, o, hp, hb, e0⟩ := hrows k hlt' 0 _ rfl
      cases hp
      have e1 := hrows.cell hlt' 1 rfl
      have cx := fun W (hW : Below wr.heap.size wr W) => hc l[k] W (hok W (hB.trans (hW.mono hB.size)) _ (List.getElem_mem hlt'))
      have hal := fun o => alloc_below wr o
      obtain ⟨x, hx⟩ : ∃ x, x = l[k] := ⟨_, rfl⟩
      rw [← hx] at e0 e1 cx
      have HX := Lib.hid hx
      have HO := Lib.hid hown
      have HZ := Lib.hid (And.intro hyl hzl)
      have HRs := Lib.hid hRs
      clear hrows hx hown hyl hzl hRs
      obtain ⟨xp, xr⟩ := x
      simp only [Nat.add_zero, TyV.val] at e0 e1 cx
      go_wp2_with (go_at_fn g; refine (cx _ (hal _)).mono ?_; rintro e w1 ⟨⟨yp, yr⟩, rfl, hRy, hb1⟩; refine Hid.out ?_)
      obtain ⟨hyl, hzl⟩ := HZ.out
      obtain ⟨za, zb, hzz, hla⟩ : ∃ za zb, zs = za ++ zb ∧ za.length = 2 := ⟨zs.take 2, zs.drop 2, (List.take_append_drop ..).symm, by have hp : 1 ≤ n - k := (by omega); rw [List.length_take]; omega⟩
      obtain ⟨z0, z1, rfl⟩ := len2 hla
      subst hzz
      simp only [List.cons_append, List.nil_append] at hzl HO
      have hfl : (ys.flatMap TyV.row).length = k * 2 := by rw [flat_len _ _ row_TyV, hyl]
      have ho1 := own_below (HO.out.alloc _) hb1
      have hlk : k * 2 + 2 ≤ n * 2 := by omega
      have g0 : w1.cell? ⟨w.heap.size, k * 2, none⟩ = some z0 := by
        rw [ho1.cellAt (k * 2) (by omega), List.getElem?_append_right (by rw [hfl]; omega), hfl, show k * 2 - k * 2 = 0 by omega]; rfl
      have f0 := ho1.frozenAt (k * 2)
      have g1 : w1.cell? ⟨w.heap.size, k * 2 + 1, none⟩ = some z1 := by
        rw [ho1.cellAt (k * 2 + 1) (by omega), List.getElem?_append_right (by rw [hfl]; omega), hfl, show k * 2 + 1 - k * 2 = 1 by omega]; rfl
      have f1 := ho1.frozenAt (k * 2 + 1)
      have ho2 := (World.ownsRow.stored ho1 (k * 2) (Value.string yp)).1
      rw [set_at (by rw [hfl])] at ho2
      have ho3 := (World.ownsRow.stored ho2 (k * 2 + 1) (Value.string yr)).1
      rw [set_1 (by rw [hfl])] at ho3
      have hBw : Below w.heap.size w w1 := hB.trans (((hal _).trans (hb1.mono (by simp))).mono hB.size)
      have hRall : ∀ j (h1 : j < l.length) (h2 : j < (ys ++ [(⟨yp, yr⟩ : TyV)]).length), R w1 (w.heap.size + 1) l[j] (ys ++ [(⟨yp, yr⟩ : TyV)])[j] := fun j h1 h2 => by
        by_cases hj : j < ys.length
        · rw [List.getElem_append_left hj]
          exact hR.below (HRs.out j h1 hj) ((hal _).trans (hb1.mono (by simp)))
        · have hjk : j = k := by simp at h2; omega
          subst hjk
          rw [List.getElem_append_right (by omega)]
          simp only [hyl, Nat.sub_self, List.getElem_cons_zero]
          rw [← HX.out]
          exact hR.less hRy (by simp; omega)
      have HF := Lib.hid (And.intro hRall (And.intro hBw (And.intro ho3 (And.intro hyl hzl))))
      have hzl2 : w.heap.size < w1.heap.size := by have hz := hb1.size; simp at hz; omega
      clear hRall hBw ho1 ho2 ho3 hyl hzl hfl hla HO HZ HRs hRy hb1 cx hal e0 e1 hlk
      refine Lib.hid ?_
      go_wp2
      go_roundw
      case rel =>
        obtain ⟨h1, h2, h3, h4, h5⟩ := HF.out
        refine ⟨k + 1, ys ++ [(⟨yp, yr⟩ : TyV)], zb, by omega, by go_num, by simp [h4], by simp at h5; omega, by rw [List.flatMap_append]; simpa [TyV.row, List.flatMap_cons] using h3, fun j a b => ?_, ?_, ?_⟩
        · exact (hR.on (hR.on (h1 j a b) (cell_grown _ _ _ _) (Nat.lt_succ_self _)) (cell_grown _ _ _ _) (Nat.lt_succ_self _))
        · exact ((h2.setCell (Nat.le_refl _) _).setCell (Nat.le_refl _) _)
        · simpa [World.setCell] using hzl2
      case measure => simp [intOf]; omega
    · have hk' : k = n := by omega
      subst hk'
      have hz0 : zs = [] := List.eq_nil_of_length_eq_zero (by rw [hzl]; simp)
      subst hz0
      rw [List.append_nil] at hown
      have HF := Lib.hid (show Copied R TyV.row 2 70 l k w (.returned (.slice (some ⟨w.heap.size, 0, none⟩) k k)) wr from ⟨_, ys, rfl, hyl, hown, hRs, .inl rfl, hB⟩)
      clear hown hRs hyl hzl
      go_wp2
      go_ret
      exact HF.out

theorem zero_MemV : (Tryz.prog.info? 62).map (fun i => (i.zero, i.size, i.bytes)) = some (some (.agg #[.int .i64 0, .int .i64 0]), 2, 16) := by kernel_rfl
theorem row_MemV (x : MemV) : (MemV.row x).length = 2 := rfl
set_option maxRecDepth 100000 in
set_option maxHeartbeats 4000000 in
theorem copied_MemV {g : Nat} {R : World → Nat → MemV → MemV → Prop} (hR : Stable R) {ok : World → MemV → Prop} (hc : ∀ x W, ok W x → Calls Tryz.prog g #[(MemV.val x)] W fun e w' => ∃ y, e = .returned (MemV.val y) ∧ R w' W.heap.size x y ∧ Below W.heap.size W w') (eg : ∀ args w, (callFunc g args).run Tryz.prog w = .ok (.enter g args) w)
    (p : Option Addr) (n cap : Nat) (l : List MemV) (hn : l.length = n) (hm : n ≤ 1000000) (hnil : p = none → cap = 0) (w : World) (hr : RowsAt w p 2 MemV.row l) (hok : ∀ W, Below w.heap.size w W → ∀ x ∈ l, ok W x) :
    Calls Tryz.prog 79 #[.slice p n cap, .func (.func g) #[] #[]] w (Copied R MemV.row 2 62 l n w) := by
  cases p with
  | none =>
    have h0 : n = 0 := by
      cases l with
      | nil => simpa using hn.symm
      | cons x l => obtain ⟨b, o, h, _⟩ := hr 0 (by simp) 0 _ rfl; cases h
    have hcap := hnil rfl
    subst h0 hcap
    obtain rfl : l = [] := List.eq_nil_of_length_eq_zero hn
    clear hn hnil hr hok hc
    have hnl := fun (w : World) (a : Option Addr) (n c n' c' : Nat) => Lib.run_eql_slice_nil (P := Tryz.prog) w 24 62 a n c n' c' Tryz.underlying24
    go_enter Tryz.func79, Tryz.ntmps79
    go_wp2
    go_ret
    exact ⟨none, [], rfl, rfl, World.ownsRow_nil _ _ _ _, fun j h1 => absurd h1 (by simp), .inr ⟨rfl, rfl⟩, Below.refl _ _⟩
  | some ad =>
    clear hnil
    obtain ⟨i0, hi, hz0, hz1, hz2⟩ := info_parts zero_MemV
    have HN := Lib.hid hn
    clear hn
    have hnl := fun (w : World) (a : Option Addr) (n c n' c' : Nat) => Lib.run_eql_slice_nil (P := Tryz.prog) w 24 62 a n c n' c' Tryz.underlying24
    go_enter Tryz.func79, Tryz.ntmps79
    go_wp2_with (at_make; refine wpList_make_full _ rfl (.tmp 11) (.tmp 11) 24 rfl w.heap.size 62 i0 (.agg #[.int .i64 0, .int .i64 0]) 2 Tryz.underlying24 hi hz0 hz1 .i64 .i64 _ _ n rfl rfl rfl rfl (by rw [hz2]; omega) (by unfold maxLen; omega) (Nat.le_refl _) ?_)
    intro w1 hown hgrow
    have hB1 : Below w.heap.size w w1 := Below.grown (Below.refl _ _) hgrow (Nat.le_refl _) (fun g e => by cases e)
    have hlt1 : w.heap.size < w1.heap.size := (hown.lt w.heap.size rfl).2
    obtain ⟨zs, hown⟩ : ∃ zs, w1.ownsRow w.heap.size 62 2 (.slice (some ⟨w.heap.size, 0, none⟩) n n) n zs := ⟨_, hown⟩
    have hzl : zs.length = n * 2 := by have := hown.1; simpa using this
    clear hgrow
    go_wp2
    go_loopw [15] (fun i wr => ∃ (k : Nat) (ys : List MemV) (zs : List Value), k ≤ n ∧ i = .int .i64 k ∧ ys.length = k ∧ zs.length = (n - k) * 2 ∧ wr.ownsRow w.heap.size 62 2 (.slice (some ⟨w.heap.size, 0, none⟩) n n) n (ys.flatMap MemV.row ++ zs) ∧ (∀ j (h1 : j < l.length) (h2 : j < ys.length), R wr (w.heap.size + 1) l[j] ys[j]) ∧ Below w.heap.size w wr ∧ w.heap.size < wr.heap.size) (fun i _ => n - (intOf i).toNat)
    case atStart => exact ⟨0, [], zs, by omega, rfl, rfl, by simpa using hzl, by simpa using hown, fun j _ h2 => absurd h2 (by simp), hB1, hlt1⟩
    case round =>
    clear hown hB1 hlt1 hzl
    obtain ⟨k, ys, zs, hk, rfl, hyl, hzl, hown, hRs, hB, hlt0⟩ := hrel
    by_cases hlt : k < n
    · have hlt' : k < l.length := by have := HN.out; omega
      have hrows := hr.below hB (Nat.le_refl _)
      obtain ⟨b, o, hp, hb, e0⟩ := hrows k hlt' 0 _ rfl
      cases hp
      have e1 := hrows.cell hlt' 1 rfl
      have cx := fun W (hW : Below wr.heap.size wr W) => hc l[k] W (hok W (hB.trans (hW.mono hB.size)) _ (List.getElem_mem hlt'))
      have hal := fun o => alloc_below wr o
      obtain ⟨x, hx⟩ : ∃ x, x = l[k] := ⟨_, rfl⟩
      rw [← hx] at e0 e1 cx
      have HX := Lib.hid hx
      have HO := Lib.hid hown
      have HZ := Lib.hid (And.intro hyl hzl)
      have HRs := Lib.hid hRs
      clear hrows hx hown hyl hzl hRs
      obtain ⟨xn, xm⟩ := x
      simp only [Nat.add_zero, MemV.val] at e0 e1 cx
      go_wp2_with (go_at_fn g; refine (cx _ (hal _)).mono ?_; rintro e w1 ⟨⟨yn, ym⟩, rfl, hRy, hb1⟩; refine Hid.out ?_)
      obtain ⟨hyl, hzl⟩ := HZ.out
      obtain ⟨za, zb, hzz, hla⟩ : ∃ za zb, zs = za ++ zb ∧ za.length = 2 := ⟨zs.take 2, zs.drop 2, (List.take_append_drop ..).symm, by have hp : 1 ≤ n - k := (by omega); rw [List.length_take]; omega⟩
      obtain ⟨z0, z1, rfl⟩ := len2 hla
      subst hzz
      simp only [List.cons_append, List.nil_append] at hzl HO
      have hfl : (ys.flatMap MemV.row).length = k * 2 := by rw [flat_len _ _ row_MemV, hyl]
      have ho1 := own_below (HO.out.alloc _) hb1
      have hlk : k * 2 + 2 ≤ n * 2 := by omega
      have g0 : w1.cell? ⟨w.heap.size, k * 2, none⟩ = some z0 := by
        rw [ho1.cellAt (k * 2) (by omega), List.getElem?_append_right (by rw [hfl]; omega), hfl, show k * 2 - k * 2 = 0 by omega]; rfl
      have f0 := ho1.frozenAt (k * 2)
      have g1 : w1.cell? ⟨w.heap.size, k * 2 + 1, none⟩ = some z1 := by
        rw [ho1.cellAt (k * 2 + 1) (by omega), List.getElem?_append_right (by rw [hfl]; omega), hfl, show k * 2 + 1 - k * 2 = 1 by omega]; rfl
      have f1 := ho1.frozenAt (k * 2 + 1)
      have ho2 := (World.ownsRow.stored ho1 (k * 2) (Value.int .i64 yn)).1
      rw [set_at (by rw [hfl])] at ho2
      have ho3 := (World.ownsRow.stored ho2 (k * 2 + 1) (Value.int .i64 ym)).1
      rw [set_1 (by rw [hfl])] at ho3
      have hBw : Below w.heap.size w w1 := hB.trans (((hal _).trans (hb1.mono (by simp))).mono hB.size)
      have hRall : ∀ j (h1 : j < l.length) (h2 : j < (ys ++ [(⟨yn, ym⟩ : MemV)]).length), R w1 (w.heap.size + 1) l[j] (ys ++ [(⟨yn, ym⟩ : MemV)])[j] := fun j h1 h2 => by
        by_cases hj : j < ys.length
        · rw [List.getElem_append_left hj]
          exact hR.below (HRs.out j h1 hj) ((hal _).trans (hb1.mono (by simp)))
        · have hjk : j = k := by simp at h2; omega
          subst hjk
          rw [List.getElem_append_right (by omega)]
          simp only [hyl, Nat.sub_self, List.getElem_cons_zero]
          rw [← HX.out]
          exact hR.less hRy (by simp; omega)
      have HF := Lib.hid (And.intro hRall (And.intro hBw (And.intro ho3 (And.intro hyl hzl))))
      have hzl2 : w.heap.size < w1.heap.size := by have hz := hb1.size; simp at hz; omega
      clear hRall hBw ho1 ho2 ho3 hyl hzl hfl hla HO HZ HRs hRy hb1 cx hal e0 e1 hlk
      refine Lib.hid ?_
      go_wp2
      go_roundw
      case rel =>
        obtain ⟨h1, h2, h3, h4, h5⟩ := HF.out
        refine ⟨k + 1, ys ++ [(⟨yn, ym⟩ : MemV)], zb, by omega, by go_num, by simp [h4], by simp at h5; omega, by rw [List.flatMap_append]; simpa [MemV.row, List.flatMap_cons] using h3, fun j a b => ?_, ?_, ?_⟩
        · exact (hR.on (hR.on (h1 j a b) (cell_grown _ _ _ _) (Nat.lt_succ_self _)) (cell_grown _ _ _ _) (Nat.lt_succ_self _))
        · exact ((h2.setCell (Nat.le_refl _) _).setCell (Nat.le_refl _) _)
        · simpa [World.setCell] using hzl2
      case measure => simp [intOf]; omega
    · have hk' : k = n := by omega
      subst hk'
      have hz0 : zs = [] := List.eq_nil_of_length_eq_zero (by rw [hzl]; simp)
      subst hz0
      rw [List.append_nil] at hown
      have HF := Lib.hid (show Copied R MemV.row 2 62 l k w (.returned (.slice (some ⟨w.heap.size, 0, none⟩) k k)) wr from ⟨_, ys, rfl, hyl, hown, hRs, .inl rfl, hB⟩)
      clear hown hRs hyl hzl
      go_wp2
      go_ret
      exact HF.out

theorem zero_GlobV : (Tryz.prog.info? 60).map (fun i => (i.zero, i.size, i.bytes)) = some (some (.agg #[.int .i64 0, .bool false, .int .i64 0]), 3, 24) := by kernel_rfl
theorem row_GlobV (x : GlobV) : (GlobV.row x).length = 3 := rfl
set_option maxRecDepth 100000 in
set_option maxHeartbeats 4000000 in
theorem copied_GlobV {g : Nat} {R : World → Nat → GlobV → GlobV → Prop} (hR : Stable R) {ok : World → GlobV → Prop} (hc : ∀ x W, ok W x → Calls Tryz.prog g #[(GlobV.val x)] W fun e w' => ∃ y, e = .returned (GlobV.val y) ∧ R w' W.heap.size x y ∧ Below W.heap.size W w') (eg : ∀ args w, (callFunc g args).run Tryz.prog w = .ok (.enter g args) w)
    (p : Option Addr) (n cap : Nat) (l : List GlobV) (hn : l.length = n) (hm : n ≤ 1000000) (hnil : p = none → cap = 0) (w : World) (hr : RowsAt w p 3 GlobV.row l) (hok : ∀ W, Below w.heap.size w W → ∀ x ∈ l, ok W x) :
    Calls Tryz.prog 81 #[.slice p n cap, .func (.func g) #[] #[]] w (Copied R GlobV.row 3 60 l n w) := by
  cases p with
  | none =>
    have h0 : n = 0 := by
      cases l with
      | nil => simpa using hn.symm
      | cons x l => obtain ⟨b, o, h, _⟩ := hr 0 (by simp) 0 _ rfl; cases h
    have hcap := hnil rfl
    subst h0 hcap
    obtain rfl : l = [] := List.eq_nil_of_length_eq_zero hn
    clear hn hnil hr hok hc
    have hnl := fun (w : World) (a : Option Addr) (n c n' c' : Nat) => Lib.run_eql_slice_nil (P := Tryz.prog) w 25 60 a n c n' c' Tryz.underlying25
    go_enter Tryz.func81, Tryz.ntmps81
    go_wp2
    go_ret
    exact ⟨none, [], rfl, rfl, World.ownsRow_nil _ _ _ _, fun j h1 => absurd h1 (by simp), .inr ⟨rfl, rfl⟩, Below.refl _ _⟩
  | some ad =>
    clear hnil
    obtain ⟨i0, hi, hz0, hz1, hz2⟩ := info_parts zero_GlobV
    have HN := Lib.hid hn
    clear hn
    have hnl := fun (w : World) (a : Option Addr) (n c n' c' : Nat) => Lib.run_eql_slice_nil (P := Tryz.prog) w 25 60 a n c n' c' Tryz.underlying25
    go_enter Tryz.func81, Tryz.ntmps81
    go_wp2_with (at_make; refine wpList_make_full _ rfl (.tmp 11) (.tmp 11) 25 rfl w.heap.size 60 i0 (.agg #[.int .i64 0, .bool false, .int .i64 0]) 3 Tryz.underlying25 hi hz0 hz1 .i64 .i64 _ _ n rfl rfl rfl rfl (by rw [hz2]; omega) (by unfold maxLen; omega) (Nat.le_refl _) ?_)
    intro w1 hown hgrow
    have hB1 : Below w.heap.size w w1 := Below.grown (Below.refl _ _) hgrow (Nat.le_refl _) (fun g e => by cases e)
    have hlt1 : w.heap.size < w1.heap.size := (hown.lt w.heap.size rfl).2
    obtain ⟨zs, hown⟩ : ∃ zs, w1.ownsRow w.heap.size 60 3 (.slice (some ⟨w.heap.size, 0, none⟩) n n) n zs := ⟨_, hown⟩
    have hzl : zs.length = n * 3 := by have := hown.1; simpa using this
    clear hgrow
    go_wp2
    go_loopw [15] (fun i wr => ∃ (k : Nat) (ys : List GlobV) (zs : List Value), k ≤ n ∧ i = .int .i64 k ∧ ys.length = k ∧ zs.length = (n - k) * 3 ∧ wr.ownsRow w.heap.size 60 3 (.slice (some ⟨w.heap.size, 0, none⟩) n n) n (ys.flatMap GlobV.row ++ zs) ∧ (∀ j (h1 : j < l.length) (h2 : j < ys.length), R wr (w.heap.size + 1) l[j] ys[j]) ∧ Below w.heap.size w wr ∧ w.heap.size < wr.heap.size) (fun i _ => n - (intOf i).toNat)
    case atStart => exact ⟨0, [], zs, by omega, rfl, rfl, by simpa using hzl, by simpa using hown, fun j _ h2 => absurd h2 (by simp), hB1, hlt1⟩
    case round =>
    clear hown hB1 hlt1 hzl
    obtain ⟨k, ys, zs, hk, rfl, hyl, hzl, hown, hRs, hB, hlt0⟩ := hrel
    by_cases hlt : k < n
    · have hlt' : k < l.length := by have := HN.out; omega
      have hrows := hr.below hB (Nat.le_refl _)
      obtain ⟨b, o, hp, hb, e0⟩ := hrows k hlt' 0 _ rfl
      cases hp
      have e1 := hrows.cell hlt' 1 rfl
      have e2 := hrows.cell hlt' 2 rfl
      have cx := fun W (hW : Below wr.heap.size wr W) => hc l[k] W (hok W (hB.trans (hW.mono hB.size)) _ (List.getElem_mem hlt'))
      have hal := fun o => alloc_below wr o
      obtain ⟨x, hx⟩ : ∃ x, x = l[k] := ⟨_, rfl⟩
      rw [← hx] at e0 e1 e2 cx
      have HX := Lib.hid hx
      have HO := Lib.hid hown
      have HZ := Lib.hid (And.intro hyl hzl)
      have HRs := Lib.hid hRs
      clear hrows hx hown hyl hzl hRs
      obtain ⟨xt, xb, xi⟩ := x
      simp only [Nat.add_zero, GlobV.val] at e0 e1 e2 cx
      go_wp2_with (go_at_fn g; refine (cx _ (hal _)).mono ?_; rintro e w1 ⟨⟨yt, yb, yi⟩, rfl, hRy, hb1⟩; refine Hid.out ?_)
      obtain ⟨hyl, hzl⟩ := HZ.out
      obtain ⟨za, zb, hzz, hla⟩ : ∃ za zb, zs = za ++ zb ∧ za.length = 3 := ⟨zs.take 3, zs.drop 3, (List.take_append_drop ..).symm, by have hp : 1 ≤ n - k := (by omega); rw [List.length_take]; omega⟩
      obtain ⟨z0, z1, z2, rfl⟩ := len3 hla
      subst hzz
      simp only [List.cons_append, List.nil_append] at hzl HO
      have hfl : (ys.flatMap GlobV.row).length = k * 3 := by rw [flat_len _ _ row_GlobV, hyl]
      have ho1 := own_below (HO.out.alloc _) hb1
      have hlk : k * 3 + 3 ≤ n * 3 := by omega
      have g0 : w1.cell? ⟨w.heap.size, k * 3, none⟩ = some z0 := by
        rw [ho1.cellAt (k * 3) (by omega), List.getElem?_append_right (by rw [hfl]; omega), hfl, show k * 3 - k * 3 = 0 by omega]; rfl
      have f0 := ho1.frozenAt (k * 3)
      have g1 : w1.cell? ⟨w.heap.size, k * 3 + 1, none⟩ = some z1 := by
        rw [ho1.cellAt (k * 3 + 1) (by omega), List.getElem?_append_right (by rw [hfl]; omega), hfl, show k * 3 + 1 - k * 3 = 1 by omega]; rfl
      have f1 := ho1.frozenAt (k * 3 + 1)
      have g2 : w1.cell? ⟨w.heap.size, k * 3 + 2, none⟩ = some z2 := by
        rw [ho1.cellAt (k * 3 + 2) (by omega), List.getElem?_append_right (by rw [hfl]; omega), hfl, show k * 3 + 2 - k * 3 = 2 by omega]; rfl
      have f2 := ho1.frozenAt (k * 3 + 2)
      have ho2 := (World.ownsRow.stored ho1 (k * 3) (Value.int .i64 yt)).1
      rw [set_at (by rw [hfl])] at ho2
      have ho3 := (World.ownsRow.stored ho2 (k * 3 + 1) (Value.bool yb)).1
      rw [set_1 (by rw [hfl])] at ho3
      have ho4 := (World.ownsRow.stored ho3 (k * 3 + 2) (Value.int .i64 yi)).1
      rw [set_2 (by rw [hfl])] at ho4
      have hBw : Below w.heap.size w w1 := hB.trans (((hal _).trans (hb1.mono (by simp))).mono hB.size)
      have hRall : ∀ j (h1 : j < l.length) (h2 : j < (ys ++ [(⟨yt, yb, yi⟩ : GlobV)]).length), R w1 (w.heap.size + 1) l[j] (ys ++ [(⟨yt, yb, yi⟩ : GlobV)])[j] := fun j h1 h2 => by
        by_cases hj : j < ys.length
        · rw [List.getElem_append_left hj]
          exact hR.below (HRs.out j h1 hj) ((hal _).trans (hb1.mono (by simp)))
        · have hjk : j = k := by simp at h2; omega
          subst hjk
          rw [List.getElem_append_right (by omega)]
          simp only [hyl, Nat.sub_self, List.getElem_cons_zero]
          rw [← HX.out]
          exact hR.less hRy (by simp; omega)
      have HF := Lib.hid (And.intro hRall (And.intro hBw (And.intro ho4 (And.intro hyl hzl))))
      have hzl2 : w.heap.size < w1.heap.size := by have hz := hb1.size; simp at hz; omega
      clear hRall hBw ho1 ho2 ho3 ho4 hyl hzl hfl hla HO HZ HRs hRy hb1 cx hal e0 e1 e2 hlk
      refine Lib.hid ?_
      go_wp2
      go_roundw
      case rel =>
        obtain ⟨h1, h2, h3, h4, h5⟩ := HF.out
        refine ⟨k + 1, ys ++ [(⟨yt, yb, yi⟩ : GlobV)], zb, by omega, by go_num, by simp [h4], by simp at h5; omega, by rw [List.flatMap_append]; simpa [GlobV.row, List.flatMap_cons] using h3, fun j a b => ?_, ?_, ?_⟩
        · exact (hR.on (hR.on (hR.on (h1 j a b) (cell_grown _ _ _ _) (Nat.lt_succ_self _)) (cell_grown _ _ _ _) (Nat.lt_succ_self _)) (cell_grown _ _ _ _) (Nat.lt_succ_self _))
        · exact (((h2.setCell (Nat.le_refl _) _).setCell (Nat.le_refl _) _).setCell (Nat.le_refl _) _)
        · simpa [World.setCell] using hzl2
      case measure => simp [intOf]; omega
    · have hk' : k = n := by omega
      subst hk'
      have hz0 : zs = [] := List.eq_nil_of_length_eq_zero (by rw [hzl]; simp)
      subst hz0
      rw [List.append_nil] at hown
      have HF := Lib.hid (show Copied R GlobV.row 3 60 l k w (.returned (.slice (some ⟨w.heap.size, 0, none⟩) k k)) wr from ⟨_, ys, rfl, hyl, hown, hRs, .inl rfl, hB⟩)
      clear hown hRs hyl hzl
      go_wp2
      go_ret
      exact HF.out

theorem zero_ExpV : (Tryz.prog.info? 58).map (fun i => (i.zero, i.size, i.bytes)) = some (some (.agg #[.string ⟨#[]⟩, .int .i64 0, .int .i64 0]), 3, 32) := by kernel_rfl
theorem row_ExpV (x : ExpV) : (ExpV.row x).length = 3 := rfl
set_option maxRecDepth 100000 in
set_option maxHeartbeats 4000000 in
theorem copied_ExpV {g : Nat} {R : World → Nat → ExpV → ExpV → Prop} (hR : Stable R) {ok : World → ExpV → Prop} (hc : ∀ x W, ok W x → Calls Tryz.prog g #[(ExpV.val x)] W fun e w' => ∃ y, e = .returned (ExpV.val y) ∧ R w' W.heap.size x y ∧ Below W.heap.size W w') (eg : ∀ args w, (callFunc g args).run Tryz.prog w = .ok (.enter g args) w)
    (p : Option Addr) (n cap : Nat) (l : List ExpV) (hn : l.length = n) (hm : n ≤ 1000000) (hnil : p = none → cap = 0) (w : World) (hr : RowsAt w p 3 ExpV.row l) (hok : ∀ W, Below w.heap.size w W → ∀ x ∈ l, ok W x) :
    Calls Tryz.prog 83 #[.slice p n cap, .func (.func g) #[] #[]] w (Copied R ExpV.row 3 58 l n w) := by
  cases p with
  | none =>
    have h0 : n = 0 := by
      cases l with
      | nil => simpa using hn.symm
      | cons x l => obtain ⟨b, o, h, _⟩ := hr 0 (by simp) 0 _ rfl; cases h
    have hcap := hnil rfl
    subst h0 hcap
    obtain rfl : l = [] := List.eq_nil_of_length_eq_zero hn
    clear hn hnil hr hok hc
    have hnl := fun (w : World) (a : Option Addr) (n c n' c' : Nat) => Lib.run_eql_slice_nil (P := Tryz.prog) w 26 58 a n c n' c' Tryz.underlying26
    go_enter Tryz.func83, Tryz.ntmps83
    go_wp2
    go_ret
    exact ⟨none, [], rfl, rfl, World.ownsRow_nil _ _ _ _, fun j h1 => absurd h1 (by simp), .inr ⟨rfl, rfl⟩, Below.refl _ _⟩
  | some ad =>
    clear hnil
    obtain ⟨i0, hi, hz0, hz1, hz2⟩ := info_parts zero_ExpV
    have HN := Lib.hid hn
    clear hn
    have hnl := fun (w : World) (a : Option Addr) (n c n' c' : Nat) => Lib.run_eql_slice_nil (P := Tryz.prog) w 26 58 a n c n' c' Tryz.underlying26
    go_enter Tryz.func83, Tryz.ntmps83
    go_wp2_with (at_make; refine wpList_make_full _ rfl (.tmp 11) (.tmp 11) 26 rfl w.heap.size 58 i0 (.agg #[.string ⟨#[]⟩, .int .i64 0, .int .i64 0]) 3 Tryz.underlying26 hi hz0 hz1 .i64 .i64 _ _ n rfl rfl rfl rfl (by rw [hz2]; omega) (by unfold maxLen; omega) (Nat.le_refl _) ?_)
    intro w1 hown hgrow
    have hB1 : Below w.heap.size w w1 := Below.grown (Below.refl _ _) hgrow (Nat.le_refl _) (fun g e => by cases e)
    have hlt1 : w.heap.size < w1.heap.size := (hown.lt w.heap.size rfl).2
    obtain ⟨zs, hown⟩ : ∃ zs, w1.ownsRow w.heap.size 58 3 (.slice (some ⟨w.heap.size, 0, none⟩) n n) n zs := ⟨_, hown⟩
    have hzl : zs.length = n * 3 := by have := hown.1; simpa using this
    clear hgrow
    go_wp2
    go_loopw [15] (fun i wr => ∃ (k : Nat) (ys : List ExpV) (zs : List Value), k ≤ n ∧ i = .int .i64 k ∧ ys.length = k ∧ zs.length = (n - k) * 3 ∧ wr.ownsRow w.heap.size 58 3 (.slice (some ⟨w.heap.size, 0, none⟩) n n) n (ys.flatMap ExpV.row ++ zs) ∧ (∀ j (h1 : j < l.length) (h2 : j < ys.length), R wr (w.heap.size + 1) l[j] ys[j]) ∧ Below w.heap.size w wr ∧ w.heap.size < wr.heap.size) (fun i _ => n - (intOf i).toNat)
    case atStart => exact ⟨0, [], zs, by omega, rfl, rfl, by simpa using hzl, by simpa using hown, fun j _ h2 => absurd h2 (by simp), hB1, hlt1⟩
    case round =>
    clear hown hB1 hlt1 hzl
    obtain ⟨k, ys, zs, hk, rfl, hyl, hzl, hown, hRs, hB, hlt0⟩ := hrel
    by_cases hlt : k < n
    · have hlt' : k < l.length := by have := HN.out; omega
      have hrows := hr.below hB (Nat.le_refl _)
      obtain ⟨b, o, hp, hb, e0⟩ := hrows k hlt' 0 _ rfl
      cases hp
      have e1 := hrows.cell hlt' 1 rfl
      have e2 := hrows.cell hlt' 2 rfl
      have cx := fun W (hW : Below wr.heap.size wr W) => hc l[k] W (hok W (hB.trans (hW.mono hB.size)) _ (List.getElem_mem hlt'))
      have hal := fun o => alloc_below wr o
      obtain ⟨x, hx⟩ : ∃ x, x = l[k] := ⟨_, rfl⟩
      rw [← hx] at e0 e1 e2 cx
      have HX := Lib.hid hx
      have HO := Lib.hid hown
      have HZ := Lib.hid (And.intro hyl hzl)
      have HRs := Lib.hid hRs
      clear hrows hx hown hyl hzl hRs
      obtain ⟨xn, xk, xi⟩ := x
      simp only [Nat.add_zero, ExpV.val] at e0 e1 e2 cx
      go_wp2_with (go_at_fn g; refine (cx _ (hal _)).mono ?_; rintro e w1 ⟨⟨yn, yk, yi⟩, rfl, hRy, hb1⟩; refine Hid.out ?_)
      obtain ⟨hyl, hzl⟩ := HZ.out
      obtain ⟨za, zb, hzz, hla⟩ : ∃ za zb, zs = za ++ zb ∧ za.length = 3 := ⟨zs.take 3, zs.drop 3, (List.take_append_drop ..).symm, by have hp : 1 ≤ n - k := (by omega); rw [List.length_take]; omega⟩
      obtain ⟨z0, z1, z2, rfl⟩ := len3 hla
      subst hzz
      simp only [List.cons_append, List.nil_append] at hzl HO
      have hfl : (ys.flatMap ExpV.row).length = k * 3 := by rw [flat_len _ _ row_ExpV, hyl]
      have ho1 := own_below (HO.out.alloc _) hb1
      have hlk : k * 3 + 3 ≤ n * 3 := by omega
      have g0 : w1.cell? ⟨w.heap.size, k * 3, none⟩ = some z0 := by
        rw [ho1.cellAt (k * 3) (by omega), List.getElem?_append_right (by rw [hfl]; omega), hfl, show k * 3 - k * 3 = 0 by omega]; rfl
      have f0 := ho1.frozenAt (k * 3)
      have g1 : w1.cell? ⟨w.heap.size, k * 3 + 1, none⟩ = some z1 := by
        rw [ho1.cellAt (k * 3 + 1) (by omega), List.getElem?_append_right (by rw [hfl]; omega), hfl, show k * 3 + 1 - k * 3 = 1 by omega]; rfl
      have f1 := ho1.frozenAt (k * 3 + 1)
      have g2 : w1.cell? ⟨w.heap.size, k * 3 + 2, none⟩ = some z2 := by
        rw [ho1.cellAt (k * 3 + 2) (by omega), List.getElem?_append_right (by rw [hfl]; omega), hfl, show k * 3 + 2 - k * 3 = 2 by omega]; rfl
      have f2 := ho1.frozenAt (k * 3 + 2)
      have ho2 := (World.ownsRow.stored ho1 (k * 3) (Value.string yn)).1
      rw [set_at (by rw [hfl])] at ho2
      have ho3 := (World.ownsRow.stored ho2 (k * 3 + 1) (Value.int .i64 yk)).1
      rw [set_1 (by rw [hfl])] at ho3
      have ho4 := (World.ownsRow.stored ho3 (k * 3 + 2) (Value.int .i64 yi)).1
      rw [set_2 (by rw [hfl])] at ho4
      have hBw : Below w.heap.size w w1 := hB.trans (((hal _).trans (hb1.mono (by simp))).mono hB.size)
      have hRall : ∀ j (h1 : j < l.length) (h2 : j < (ys ++ [(⟨yn, yk, yi⟩ : ExpV)]).length), R w1 (w.heap.size + 1) l[j] (ys ++ [(⟨yn, yk, yi⟩ : ExpV)])[j] := fun j h1 h2 => by
        by_cases hj : j < ys.length
        · rw [List.getElem_append_left hj]
          exact hR.below (HRs.out j h1 hj) ((hal _).trans (hb1.mono (by simp)))
        · have hjk : j = k := by simp at h2; omega
          subst hjk
          rw [List.getElem_append_right (by omega)]
          simp only [hyl, Nat.sub_self, List.getElem_cons_zero]
          rw [← HX.out]
          exact hR.less hRy (by simp; omega)
      have HF := Lib.hid (And.intro hRall (And.intro hBw (And.intro ho4 (And.intro hyl hzl))))
      have hzl2 : w.heap.size < w1.heap.size := by have hz := hb1.size; simp at hz; omega
      clear hRall hBw ho1 ho2 ho3 ho4 hyl hzl hfl hla HO HZ HRs hRy hb1 cx hal e0 e1 e2 hlk
      refine Lib.hid ?_
      go_wp2
      go_roundw
      case rel =>
        obtain ⟨h1, h2, h3, h4, h5⟩ := HF.out
        refine ⟨k + 1, ys ++ [(⟨yn, yk, yi⟩ : ExpV)], zb, by omega, by go_num, by simp [h4], by simp at h5; omega, by rw [List.flatMap_append]; simpa [ExpV.row, List.flatMap_cons] using h3, fun j a b => ?_, ?_, ?_⟩
        · exact (hR.on (hR.on (hR.on (h1 j a b) (cell_grown _ _ _ _) (Nat.lt_succ_self _)) (cell_grown _ _ _ _) (Nat.lt_succ_self _)) (cell_grown _ _ _ _) (Nat.lt_succ_self _))
        · exact (((h2.setCell (Nat.le_refl _) _).setCell (Nat.le_refl _) _).setCell (Nat.le_refl _) _)
        · simpa [World.setCell] using hzl2
      case measure => simp [intOf]; omega
    · have hk' : k = n := by omega
      subst hk'
      have hz0 : zs = [] := List.eq_nil_of_length_eq_zero (by rw [hzl]; simp)
      subst hz0
      rw [List.append_nil] at hown
      have HF := Lib.hid (show Copied R ExpV.row 3 58 l k w (.returned (.slice (some ⟨w.heap.size, 0, none⟩) k k)) wr from ⟨_, ys, rfl, hyl, hown, hRs, .inl rfl, hB⟩)
      clear hown hRs hyl hzl
      go_wp2
      go_ret
      exact HF.out

theorem zero_DatV : (Tryz.prog.info? 49).map (fun i => (i.zero, i.size, i.bytes)) = some (some (.agg #[.int .i64 0, .string ⟨#[]⟩]), 2, 24) := by kernel_rfl
theorem row_DatV (x : DatV) : (DatV.row x).length = 2 := rfl
set_option maxRecDepth 100000 in
set_option maxHeartbeats 4000000 in
theorem copied_DatV {g : Nat} {R : World → Nat → DatV → DatV → Prop} (hR : Stable R) {ok : World → DatV → Prop} (hc : ∀ x W, ok W x → Calls Tryz.prog g #[(DatV.val x)] W fun e w' => ∃ y, e = .returned (DatV.val y) ∧ R w' W.heap.size x y ∧ Below W.heap.size W w') (eg : ∀ args w, (callFunc g args).run Tryz.prog w = .ok (.enter g args) w)
    (p : Option Addr) (n cap : Nat) (l : List DatV) (hn : l.length = n) (hm : n ≤ 1000000) (hnil : p = none → cap = 0) (w : World) (hr : RowsAt w p 2 DatV.row l) (hok : ∀ W, Below w.heap.size w W → ∀ x ∈ l, ok W x) :
    Calls Tryz.prog 85 #[.slice p n cap, .func (.func g) #[] #[]] w (Copied R DatV.row 2 49 l n w) := by
  cases p with
  | none =>
    have h0 : n = 0 := by
      cases l with
      | nil => simpa using hn.symm
      | cons x l => obtain ⟨b, o, h, _⟩ := hr 0 (by simp) 0 _ rfl; cases h
    have hcap := hnil rfl
    subst h0 hcap
    obtain rfl : l = [] := List.eq_nil_of_length_eq_zero hn
    clear hn hnil hr hok hc
    have hnl := fun (w : World) (a : Option Addr) (n c n' c' : Nat) => Lib.run_eql_slice_nil (P := Tryz.prog) w 27 49 a n c n' c' Tryz.underlying27
    go_enter Tryz.func85, Tryz.ntmps85
    go_wp2
    go_ret
    exact ⟨none, [], rfl, rfl, World.ownsRow_nil _ _ _ _, fun j h1 => absurd h1 (by simp), .inr ⟨rfl, rfl⟩, Below.refl _ _⟩
  | some ad =>
    clear hnil
    obtain ⟨i0, hi, hz0, hz1, hz2⟩ := info_parts zero_DatV
    have HN := Lib.hid hn
    clear hn
    have hnl := fun (w : World) (a : Option Addr) (n c n' c' : Nat) => Lib.run_eql_slice_nil (P := Tryz.prog) w 27 49 a n c n' c' Tryz.underlying27
    go_enter Tryz.func85, Tryz.ntmps85
    go_wp2_with (at_make; refine wpList_make_full _ rfl (.tmp 11) (.tmp 11) 27 rfl w.heap.size 49 i0 (.agg #[.int .i64 0, .string ⟨#[]⟩]) 2 Tryz.underlying27 hi hz0 hz1 .i64 .i64 _ _ n rfl rfl rfl rfl (by rw [hz2]; omega) (by unfold maxLen; omega) (Nat.le_refl _) ?_)
    intro w1 hown hgrow
    have hB1 : Below w.heap.size w w1 := Below.grown (Below.refl _ _) hgrow (Nat.le_refl _) (fun g e => by cases e)
    have hlt1 : w.heap.size < w1.heap.size := (hown.lt w.heap.size rfl).2
    obtain ⟨zs, hown⟩ : ∃ zs, w1.ownsRow w.heap.size 49 2 (.slice (some ⟨w.heap.size, 0, none⟩) n n) n zs := ⟨_, hown⟩
    have hzl : zs.length = n * 2 := by have := hown.1; simpa using this
    clear hgrow
    go_wp2
    go_loopw [15] (fun i wr => ∃ (k : Nat) (ys : List DatV) (zs : List Value), k ≤ n ∧ i = .int .i64 k ∧ ys.length = k ∧ zs.length = (n - k) * 2 ∧ wr.ownsRow w.heap.size 49 2 (.slice (some ⟨w.heap.size, 0, none⟩) n n) n (ys.flatMap DatV.row ++ zs) ∧ (∀ j (h1 : j < l.length) (h2 : j < ys.length), R wr (w.heap.size + 1) l[j] ys[j]) ∧ Below w.heap.size w wr ∧ w.heap.size < wr.heap.size) (fun i _ => n - (intOf i).toNat)
    case atStart => exact ⟨0, [], zs, by omega, rfl, rfl, by simpa using hzl, by simpa using hown, fun j _ h2 => absurd h2 (by simp), hB1, hlt1⟩
    case round =>
    clear hown hB1 hlt1 hzl
    obtain ⟨k, ys, zs, hk, rfl, hyl, hzl, hown, hRs, hB, hlt0⟩ := hrel
    by_cases hlt : k < n
    · have hlt' : k < l.length := by have := HN.out; omega
      have hrows := hr.below hB (Nat.le_refl _)
      obtain ⟨b, o, hp, hb, e0⟩ := hrows k hlt' 0 _ rfl
      cases hp
      have e1 := hrows.cell hlt' 1 rfl
      have cx := fun W (hW : Below wr.heap.size wr W) => hc l[k] W (hok W (hB.trans (hW.mono hB.size)) _ (List.getElem_mem hlt'))
      have hal := fun o => alloc_below wr o
      obtain ⟨x, hx⟩ : ∃ x, x = l[k] := ⟨_, rfl⟩
      rw [← hx] at e0 e1 cx
      have HX := Lib.hid hx
      have HO := Lib.hid hown
      have HZ := Lib.hid (And.intro hyl hzl)
      have HRs := Lib.hid hRs
      clear hrows hx hown hyl hzl hRs
      obtain ⟨xo, xb⟩ := x
      simp only [Nat.add_zero, DatV.val] at e0 e1 cx
      go_wp2_with (go_at_fn g; refine (cx _ (hal _)).mono ?_; rintro e w1 ⟨⟨yo, yb⟩, rfl, hRy, hb1⟩; refine Hid.out ?_)
      obtain ⟨hyl, hzl⟩ := HZ.out
      obtain ⟨za, zb, hzz, hla⟩ : ∃ za zb, zs = za ++ zb ∧ za.length = 2 := ⟨zs.take 2, zs.drop 2, (List.take_append_drop ..).symm, by have hp : 1 ≤ n - k := (by omega); rw [List.length_take]; omega⟩
      obtain ⟨z0, z1, rfl⟩ := len2 hla
      subst hzz
      simp only [List.cons_append, List.nil_append] at hzl HO
      have hfl : (ys.flatMap DatV.row).length = k * 2 := by rw [flat_len _ _ row_DatV, hyl]
      have ho1 := own_below (HO.out.alloc _) hb1
      have hlk : k * 2 + 2 ≤ n * 2 := by omega
      have g0 : w1.cell? ⟨w.heap.size, k * 2, none⟩ = some z0 := by
        rw [ho1.cellAt (k * 2) (by omega), List.getElem?_append_right (by rw [hfl]; omega), hfl, show k * 2 - k * 2 = 0 by omega]; rfl
      have f0 := ho1.frozenAt (k * 2)
      have g1 : w1.cell? ⟨w.heap.size, k * 2 + 1, none⟩ = some z1 := by
        rw [ho1.cellAt (k * 2 + 1) (by omega), List.getElem?_append_right (by rw [hfl]; omega), hfl, show k * 2 + 1 - k * 2 = 1 by omega]; rfl
      have f1 := ho1.frozenAt (k * 2 + 1)
      have ho2 := (World.ownsRow.stored ho1 (k * 2) (Value.int .i64 yo)).1
      rw [set_at (by rw [hfl])] at ho2
      have ho3 := (World.ownsRow.stored ho2 (k * 2 + 1) (Value.string yb)).1
      rw [set_1 (by rw [hfl])] at ho3
      have hBw : Below w.heap.size w w1 := hB.trans (((hal _).trans (hb1.mono (by simp))).mono hB.size)
      have hRall : ∀ j (h1 : j < l.length) (h2 : j < (ys ++ [(⟨yo, yb⟩ : DatV)]).length), R w1 (w.heap.size + 1) l[j] (ys ++ [(⟨yo, yb⟩ : DatV)])[j] := fun j h1 h2 => by
        by_cases hj : j < ys.length
        · rw [List.getElem_append_left hj]
          exact hR.below (HRs.out j h1 hj) ((hal _).trans (hb1.mono (by simp)))
        · have hjk : j = k := by simp at h2; omega
          subst hjk
          rw [List.getElem_append_right (by omega)]
          simp only [hyl, Nat.sub_self, List.getElem_cons_zero]
          rw [← HX.out]
          exact hR.less hRy (by simp; omega)
      have HF := Lib.hid (And.intro hRall (And.intro hBw (And.intro ho3 (And.intro hyl hzl))))
      have hzl2 : w.heap.size < w1.heap.size := by have hz := hb1.size; simp at hz; omega
      clear hRall hBw ho1 ho2 ho3 hyl hzl hfl hla HO HZ HRs hRy hb1 cx hal e0 e1 hlk
      refine Lib.hid ?_
      go_wp2
      go_roundw
      case rel =>
        obtain ⟨h1, h2, h3, h4, h5⟩ := HF.out
        refine ⟨k + 1, ys ++ [(⟨yo, yb⟩ : DatV)], zb, by omega, by go_num, by simp [h4], by simp at h5; omega, by rw [List.flatMap_append]; simpa [DatV.row, List.flatMap_cons] using h3, fun j a b => ?_, ?_, ?_⟩
        · exact (hR.on (hR.on (h1 j a b) (cell_grown _ _ _ _) (Nat.lt_succ_self _)) (cell_grown _ _ _ _) (Nat.lt_succ_self _))
        · exact ((h2.setCell (Nat.le_refl _) _).setCell (Nat.le_refl _) _)
        · simpa [World.setCell] using hzl2
      case measure => simp [intOf]; omega
    · have hk' : k = n := by omega
      subst hk'
      have hz0 : zs = [] := List.eq_nil_of_length_eq_zero (by rw [hzl]; simp)
      subst hz0
      rw [List.append_nil] at hown
      have HF := Lib.hid (show Copied R DatV.row 2 49 l k w (.returned (.slice (some ⟨w.heap.size, 0, none⟩) k k)) wr from ⟨_, ys, rfl, hyl, hown, hRs, .inl rfl, hB⟩)
      clear hown hRs hyl hzl
      go_wp2
      go_ret
      exact HF.out

theorem zero_FnV : (Tryz.prog.info? 33).map (fun i => (i.zero, i.size, i.bytes)) = some (some (.agg #[.int .i64 0, .string ⟨#[]⟩, .slice none 0 0]), 3, 48) := by kernel_rfl
theorem row_FnV (x : FnV) : (FnV.row x).length = 3 := rfl
set_option maxRecDepth 100000 in
set_option maxHeartbeats 4000000 in
theorem copied_FnV {g : Nat} {R : World → Nat → FnV → FnV → Prop} (hR : Stable R) {ok : World → FnV → Prop} (hc : ∀ x W, ok W x → Calls Tryz.prog g #[(FnV.val x)] W fun e w' => ∃ y, e = .returned (FnV.val y) ∧ R w' W.heap.size x y ∧ Below W.heap.size W w') (eg : ∀ args w, (callFunc g args).run Tryz.prog w = .ok (.enter g args) w)
    (p : Option Addr) (n cap : Nat) (l : List FnV) (hn : l.length = n) (hm : n ≤ 1000000) (hnil : p = none → cap = 0) (w : World) (hr : RowsAt w p 3 FnV.row l) (hok : ∀ W, Below w.heap.size w W → ∀ x ∈ l, ok W x) :
    Calls Tryz.prog 75 #[.slice p n cap, .func (.func g) #[] #[]] w (Copied R FnV.row 3 33 l n w) := by
  cases p with
  | none =>
    have h0 : n = 0 := by
      cases l with
      | nil => simpa using hn.symm
      | cons x l => obtain ⟨b, o, h, _⟩ := hr 0 (by simp) 0 _ rfl; cases h
    have hcap := hnil rfl
    subst h0 hcap
    obtain rfl : l = [] := List.eq_nil_of_length_eq_zero hn
    clear hn hnil hr hok hc
    have hnl := fun (w : World) (a : Option Addr) (n c n' c' : Nat) => Lib.run_eql_slice_nil (P := Tryz.prog) w 23 33 a n c n' c' Tryz.underlying23
    go_enter Tryz.func75, Tryz.ntmps75
    go_wp2
    go_ret
    exact ⟨none, [], rfl, rfl, World.ownsRow_nil _ _ _ _, fun j h1 => absurd h1 (by simp), .inr ⟨rfl, rfl⟩, Below.refl _ _⟩
  | some ad =>
    clear hnil
    obtain ⟨i0, hi, hz0, hz1, hz2⟩ := info_parts zero_FnV
    have HN := Lib.hid hn
    clear hn
    have hnl := fun (w : World) (a : Option Addr) (n c n' c' : Nat) => Lib.run_eql_slice_nil (P := Tryz.prog) w 23 33 a n c n' c' Tryz.underlying23
    go_enter Tryz.func75, Tryz.ntmps75
    go_wp2_with (at_make; refine wpList_make_full _ rfl (.tmp 11) (.tmp 11) 23 rfl w.heap.size 33 i0 (.agg #[.int .i64 0, .string ⟨#[]⟩, .slice none 0 0]) 3 Tryz.underlying23 hi hz0 hz1 .i64 .i64 _ _ n rfl rfl rfl rfl (by rw [hz2]; omega) (by unfold maxLen; omega) (Nat.le_refl _) ?_)
    intro w1 hown hgrow
    have hB1 : Below w.heap.size w w1 := Below.grown (Below.refl _ _) hgrow (Nat.le_refl _) (fun g e => by cases e)
    have hlt1 : w.heap.size < w1.heap.size := (hown.lt w.heap.size rfl).2
    obtain ⟨zs, hown⟩ : ∃ zs, w1.ownsRow w.heap.size 33 3 (.slice (some ⟨w.heap.size, 0, none⟩) n n) n zs := ⟨_, hown⟩
    have hzl : zs.length = n * 3 := by have := hown.1; simpa using this
    clear hgrow
    go_wp2
    go_loopw [15] (fun i wr => ∃ (k : Nat) (ys : List FnV) (zs : List Value), k ≤ n ∧ i = .int .i64 k ∧ ys.length = k ∧ zs.length = (n - k) * 3 ∧ wr.ownsRow w.heap.size 33 3 (.slice (some ⟨w.heap.size, 0, none⟩) n n) n (ys.flatMap FnV.row ++ zs) ∧ (∀ j (h1 : j < l.length) (h2 : j < ys.length), R wr (w.heap.size + 1) l[j] ys[j]) ∧ Below w.heap.size w wr ∧ w.heap.size < wr.heap.size) (fun i _ => n - (intOf i).toNat)
    case atStart => exact ⟨0, [], zs, by omega, rfl, rfl, by simpa using hzl, by simpa using hown, fun j _ h2 => absurd h2 (by simp), hB1, hlt1⟩
    case round =>
    clear hown hB1 hlt1 hzl
    obtain ⟨k, ys, zs, hk, rfl, hyl, hzl, hown, hRs, hB, hlt0⟩ := hrel
    by_cases hlt : k < n
    · have hlt' : k < l.length := by have := HN.out; omega
      have hrows := hr.below hB (Nat.le_refl _)
      obtain ⟨b, o, hp, hb, e0⟩ := hrows k hlt' 0 _ rfl
      cases hp
      have e1 := hrows.cell hlt' 1 rfl
      have e2 := hrows.cell hlt' 2 rfl
      have cx := fun W (hW : Below wr.heap.size wr W) => hc l[k] W (hok W (hB.trans (hW.mono hB.size)) _ (List.getElem_mem hlt'))
      have hal := fun o => alloc_below wr o
      obtain ⟨x, hx⟩ : ∃ x, x = l[k] := ⟨_, rfl⟩
      rw [← hx] at e0 e1 e2 cx
      have HX := Lib.hid hx
      have HO := Lib.hid hown
      have HZ := Lib.hid (And.intro hyl hzl)
      have HRs := Lib.hid hRs
      clear hrows hx hown hyl hzl hRs
      obtain ⟨xt, xl, xp, xc, xk⟩ := x
      simp only [Nat.add_zero, FnV.val] at e0 e1 e2 cx
      generalize xk.length = nk at *
      go_wp2_with (go_at_fn g; refine (cx _ (hal _)).mono ?_; rintro e w1 ⟨⟨yt, yl, yp, yc, yk⟩, rfl, hRy, hb1⟩; refine Hid.out ?_)
      obtain ⟨hyl, hzl⟩ := HZ.out
      obtain ⟨za, zb, hzz, hla⟩ : ∃ za zb, zs = za ++ zb ∧ za.length = 3 := ⟨zs.take 3, zs.drop 3, (List.take_append_drop ..).symm, by have hp : 1 ≤ n - k := (by omega); rw [List.length_take]; omega⟩
      obtain ⟨z0, z1, z2, rfl⟩ := len3 hla
      subst hzz
      simp only [List.cons_append, List.nil_append] at hzl HO
      have hfl : (ys.flatMap FnV.row).length = k * 3 := by rw [flat_len _ _ row_FnV, hyl]
      have ho1 := own_below (HO.out.alloc _) hb1
      have hlk : k * 3 + 3 ≤ n * 3 := by omega
      have g0 : w1.cell? ⟨w.heap.size, k * 3, none⟩ = some z0 := by
        rw [ho1.cellAt (k * 3) (by omega), List.getElem?_append_right (by rw [hfl]; omega), hfl, show k * 3 - k * 3 = 0 by omega]; rfl
      have f0 := ho1.frozenAt (k * 3)
      have g1 : w1.cell? ⟨w.heap.size, k * 3 + 1, none⟩ = some z1 := by
        rw [ho1.cellAt (k * 3 + 1) (by omega), List.getElem?_append_right (by rw [hfl]; omega), hfl, show k * 3 + 1 - k * 3 = 1 by omega]; rfl
      have f1 := ho1.frozenAt (k * 3 + 1)
      have g2 : w1.cell? ⟨w.heap.size, k * 3 + 2, none⟩ = some z2 := by
        rw [ho1.cellAt (k * 3 + 2) (by omega), List.getElem?_append_right (by rw [hfl]; omega), hfl, show k * 3 + 2 - k * 3 = 2 by omega]; rfl
      have f2 := ho1.frozenAt (k * 3 + 2)
      have ho2 := (World.ownsRow.stored ho1 (k * 3) (Value.int .i64 yt)).1
      rw [set_at (by rw [hfl])] at ho2
      have ho3 := (World.ownsRow.stored ho2 (k * 3 + 1) (Value.string yl)).1
      rw [set_1 (by rw [hfl])] at ho3
      have ho4 := (World.ownsRow.stored ho3 (k * 3 + 2) (Value.slice yp yk.length yc)).1
      rw [set_2 (by rw [hfl])] at ho4
      have hBw : Below w.heap.size w w1 := hB.trans (((hal _).trans (hb1.mono (by simp))).mono hB.size)
      have hRall : ∀ j (h1 : j < l.length) (h2 : j < (ys ++ [(⟨yt, yl, yp, yc, yk⟩ : FnV)]).length), R w1 (w.heap.size + 1) l[j] (ys ++ [(⟨yt, yl, yp, yc, yk⟩ : FnV)])[j] := fun j h1 h2 => by
        by_cases hj : j < ys.length
        · rw [List.getElem_append_left hj]
          exact hR.below (HRs.out j h1 hj) ((hal _).trans (hb1.mono (by simp)))
        · have hjk : j = k := by simp at h2; omega
          subst hjk
          rw [List.getElem_append_right (by omega)]
          simp only [hyl, Nat.sub_self, List.getElem_cons_zero]
          rw [← HX.out]
          exact hR.less hRy (by simp; omega)
      have HF := Lib.hid (And.intro hRall (And.intro hBw (And.intro ho4 (And.intro hyl hzl))))
      have hzl2 : w.heap.size < w1.heap.size := by have hz := hb1.size; simp at hz; omega
      clear hRall hBw ho1 ho2 ho3 ho4 hyl hzl hfl hla HO HZ HRs hRy hb1 cx hal e0 e1 e2 hlk
      refine Lib.hid ?_
      go_wp2
      go_roundw
      case rel =>
        obtain ⟨h1, h2, h3, h4, h5⟩ := HF.out
        refine ⟨k + 1, ys ++ [(⟨yt, yl, yp, yc, yk⟩ : FnV)], zb, by omega, by go_num, by simp [h4], by simp at h5; omega, by rw [List.flatMap_append]; simpa [FnV.row, List.flatMap_cons] using h3, fun j a b => ?_, ?_, ?_⟩
        · exact (hR.on (hR.on (hR.on (h1 j a b) (cell_grown _ _ _ _) (Nat.lt_succ_self _)) (cell_grown _ _ _ _) (Nat.lt_succ_self _)) (cell_grown _ _ _ _) (Nat.lt_succ_self _))
        · exact (((h2.setCell (Nat.le_refl _) _).setCell (Nat.le_refl _) _).setCell (Nat.le_refl _) _)
        · simpa [World.setCell] using hzl2
      case measure => simp [intOf]; omega
    · have hk' : k = n := by omega
      subst hk'
      have hz0 : zs = [] := List.eq_nil_of_length_eq_zero (by rw [hzl]; simp)
      subst hz0
      rw [List.append_nil] at hown
      have HF := Lib.hid (show Copied R FnV.row 3 33 l k w (.returned (.slice (some ⟨w.heap.size, 0, none⟩) k k)) wr from ⟨_, ys, rfl, hyl, hown, hRs, .inl rfl, hB⟩)
      clear hown hRs hyl hzl
      go_wp2
      go_ret
      exact HF.out

theorem zero_InsV : (Tryz.prog.info? 40).map (fun i => (i.zero, i.size, i.bytes)) = some (some (.agg #[.int .i64 0, .int .i64 0, .int .i64 0, .slice none 0 0]), 4, 48) := by kernel_rfl
theorem row_InsV (x : InsV) : (InsV.row x).length = 4 := rfl
set_option maxRecDepth 100000 in
set_option maxHeartbeats 4000000 in
theorem copied_InsV {g : Nat} {R : World → Nat → InsV → InsV → Prop} (hR : Stable R) {ok : World → InsV → Prop} (hc : ∀ x W, ok W x → Calls Tryz.prog g #[(InsV.val x)] W fun e w' => ∃ y, e = .returned (InsV.val y) ∧ R w' W.heap.size x y ∧ Below W.heap.size W w') (eg : ∀ args w, (callFunc g args).run Tryz.prog w = .ok (.enter g args) w)
    (p : Option Addr) (n cap : Nat) (l : List InsV) (hn : l.length = n) (hm : n ≤ 1000000) (hnil : p = none → cap = 0) (w : World) (hr : RowsAt w p 4 InsV.row l) (hok : ∀ W, Below w.heap.size w W → ∀ x ∈ l, ok W x) :
    Calls Tryz.prog 77 #[.slice p n cap, .func (.func g) #[] #[]] w (Copied R InsV.row 4 40 l n w) := by
  cases p with
  | none =>
    have h0 : n = 0 := by
      cases l with
      | nil => simpa using hn.symm
      | cons x l => obtain ⟨b, o, h, _⟩ := hr 0 (by simp) 0 _ rfl; cases h
    have hcap := hnil rfl
    subst h0 hcap
    obtain rfl : l = [] := List.eq_nil_of_length_eq_zero hn
    clear hn hnil hr hok hc
    have hnl := fun (w : World) (a : Option Addr) (n c n' c' : Nat) => Lib.run_eql_slice_nil (P := Tryz.prog) w 31 40 a n c n' c' Tryz.underlying31
    go_enter Tryz.func77, Tryz.ntmps77
    go_wp2
    go_ret
    exact ⟨none, [], rfl, rfl, World.ownsRow_nil _ _ _ _, fun j h1 => absurd h1 (by simp), .inr ⟨rfl, rfl⟩, Below.refl _ _⟩
  | some ad =>
    clear hnil
    obtain ⟨i0, hi, hz0, hz1, hz2⟩ := info_parts zero_InsV
    have HN := Lib.hid hn
    clear hn
    have hnl := fun (w : World) (a : Option Addr) (n c n' c' : Nat) => Lib.run_eql_slice_nil (P := Tryz.prog) w 31 40 a n c n' c' Tryz.underlying31
    go_enter Tryz.func77, Tryz.ntmps77
    go_wp2_with (at_make; refine wpList_make_full _ rfl (.tmp 11) (.tmp 11) 31 rfl w.heap.size 40 i0 (.agg #[.int .i64 0, .int .i64 0, .int .i64 0, .slice none 0 0]) 4 Tryz.underlying31 hi hz0 hz1 .i64 .i64 _ _ n rfl rfl rfl rfl (by rw [hz2]; omega) (by unfold maxLen; omega) (Nat.le_refl _) ?_)
    intro w1 hown hgrow
    have hB1 : Below w.heap.size w w1 := Below.grown (Below.refl _ _) hgrow (Nat.le_refl _) (fun g e => by cases e)
    have hlt1 : w.heap.size < w1.heap.size := (hown.lt w.heap.size rfl).2
    obtain ⟨zs, hown⟩ : ∃ zs, w1.ownsRow w.heap.size 40 4 (.slice (some ⟨w.heap.size, 0, none⟩) n n) n zs := ⟨_, hown⟩
    have hzl : zs.length = n * 4 := by have := hown.1; simpa using this
    clear hgrow
    go_wp2
    go_loopw [15] (fun i wr => ∃ (k : Nat) (ys : List InsV) (zs : List Value), k ≤ n ∧ i = .int .i64 k ∧ ys.length = k ∧ zs.length = (n - k) * 4 ∧ wr.ownsRow w.heap.size 40 4 (.slice (some ⟨w.heap.size, 0, none⟩) n n) n (ys.flatMap InsV.row ++ zs) ∧ (∀ j (h1 : j < l.length) (h2 : j < ys.length), R wr (w.heap.size + 1) l[j] ys[j]) ∧ Below w.heap.size w wr ∧ w.heap.size < wr.heap.size) (fun i _ => n - (intOf i).toNat)
    case atStart => exact ⟨0, [], zs, by omega, rfl, rfl, by simpa using hzl, by simpa using hown, fun j _ h2 => absurd h2 (by simp), hB1, hlt1⟩
    case round =>
    clear hown hB1 hlt1 hzl
    obtain ⟨k, ys, zs, hk, rfl, hyl, hzl, hown, hRs, hB, hlt0⟩ := hrel
    by_cases hlt : k < n
    · have hlt' : k < l.length := by have := HN.out; omega
      have hrows := hr.below hB (Nat.le_refl _)
      obtain ⟨b, o, hp, hb, e0⟩ := hrows k hlt' 0 _ rfl
      cases hp
      have e1 := hrows.cell hlt' 1 rfl
      have e2 := hrows.cell hlt' 2 rfl
      have e3 := hrows.cell hlt' 3 rfl
      have cx := fun W (hW : Below wr.heap.size wr W) => hc l[k] W (hok W (hB.trans (hW.mono hB.size)) _ (List.getElem_mem hlt'))
      have hal := fun o => alloc_below wr o
      obtain ⟨x, hx⟩ : ∃ x, x = l[k] := ⟨_, rfl⟩
      rw [← hx] at e0 e1 e2 e3 cx
      have HX := Lib.hid hx
      have HO := Lib.hid hown
      have HZ := Lib.hid (And.intro hyl hzl)
      have HRs := Lib.hid hRs
      clear hrows hx hown hyl hzl hRs
      obtain ⟨xo, xa, xb, xp, xc, xl⟩ := x
      simp only [Nat.add_zero, InsV.val] at e0 e1 e2 e3 cx
      generalize xl.length = nl at *
      go_wp2_with (go_at_fn g; refine (cx _ (hal _)).mono ?_; rintro e w1 ⟨⟨yo, ya, yb, yp, yc, yl⟩, rfl, hRy, hb1⟩; refine Hid.out ?_)
      obtain ⟨hyl, hzl⟩ := HZ.out
      obtain ⟨za, zb, hzz, hla⟩ : ∃ za zb, zs = za ++ zb ∧ za.length = 4 := ⟨zs.take 4, zs.drop 4, (List.take_append_drop ..).symm, by have hp : 1 ≤ n - k := (by omega); rw [List.length_take]; omega⟩
      obtain ⟨z0, z1, z2, z3, rfl⟩ := len4 hla
      subst hzz
      simp only [List.cons_append, List.nil_append] at hzl HO
      have hfl : (ys.flatMap InsV.row).length = k * 4 := by rw [flat_len _ _ row_InsV, hyl]
      have ho1 := own_below (HO.out.alloc _) hb1
      have hlk : k * 4 + 4 ≤ n * 4 := by omega
      have g0 : w1.cell? ⟨w.heap.size, k * 4, none⟩ = some z0 := by
        rw [ho1.cellAt (k * 4) (by omega), List.getElem?_append_right (by rw [hfl]; omega), hfl, show k * 4 - k * 4 = 0 by omega]; rfl
      have f0 := ho1.frozenAt (k * 4)
      have g1 : w1.cell? ⟨w.heap.size, k * 4 + 1, none⟩ = some z1 := by
        rw [ho1.cellAt (k * 4 + 1) (by omega), List.getElem?_append_right (by rw [hfl]; omega), hfl, show k * 4 + 1 - k * 4 = 1 by omega]; rfl
      have f1 := ho1.frozenAt (k * 4 + 1)
      have g2 : w1.cell? ⟨w.heap.size, k * 4 + 2, none⟩ = some z2 := by
        rw [ho1.cellAt (k * 4 + 2) (by omega), List.getElem?_append_right (by rw [hfl]; omega), hfl, show k * 4 + 2 - k * 4 = 2 by omega]; rfl
      have f2 := ho1.frozenAt (k * 4 + 2)
      have g3 : w1.cell? ⟨w.heap.size, k * 4 + 3, none⟩ = some z3 := by
        rw [ho1.cellAt (k * 4 + 3) (by omega), List.getElem?_append_right (by rw [hfl]; omega), hfl, show k * 4 + 3 - k * 4 = 3 by omega]; rfl
      have f3 := ho1.frozenAt (k * 4 + 3)
      have ho2 := (World.ownsRow.stored ho1 (k * 4) (Value.int .i64 yo)).1
      rw [set_at (by rw [hfl])] at ho2
      have ho3 := (World.ownsRow.stored ho2 (k * 4 + 1) (Value.int .i64 ya)).1
      rw [set_1 (by rw [hfl])] at ho3
      have ho4 := (World.ownsRow.stored ho3 (k * 4 + 2) (Value.int .i64 yb)).1
      rw [set_2 (by rw [hfl])] at ho4
      have ho5 := (World.ownsRow.stored ho4 (k * 4 + 3) (Value.slice yp yl.length yc)).1
      rw [set_3 (by rw [hfl])] at ho5
      have hBw : Below w.heap.size w w1 := hB.trans (((hal _).trans (hb1.mono (by simp))).mono hB.size)
      have hRall : ∀ j (h1 : j < l.length) (h2 : j < (ys ++ [(⟨yo, ya, yb, yp, yc, yl⟩ : InsV)]).length), R w1 (w.heap.size + 1) l[j] (ys ++ [(⟨yo, ya, yb, yp, yc, yl⟩ : InsV)])[j] := fun j h1 h2 => by
        by_cases hj : j < ys.length
        · rw [List.getElem_append_left hj]
          exact hR.below (HRs.out j h1 hj) ((hal _).trans (hb1.mono (by simp)))
        · have hjk : j = k := by simp at h2; omega
          subst hjk
          rw [List.getElem_append_right (by omega)]
          simp only [hyl, Nat.sub_self, List.getElem_cons_zero]
          rw [← HX.out]
          exact hR.less hRy (by simp; omega)
      have HF := Lib.hid (And.intro hRall (And.intro hBw (And.intro ho5 (And.intro hyl hzl))))
      have hzl2 : w.heap.size < w1.heap.size := by have hz := hb1.size; simp at hz; omega
      clear hRall hBw ho1 ho2 ho3 ho4 ho5 hyl hzl hfl hla HO HZ HRs hRy hb1 cx hal e0 e1 e2 e3 hlk
      refine Lib.hid ?_
      go_wp2
      go_roundw
      case rel =>
        obtain ⟨h1, h2, h3, h4, h5⟩ := HF.out
        refine ⟨k + 1, ys ++ [(⟨yo, ya, yb, yp, yc, yl⟩ : InsV)], zb, by omega, by go_num, by simp [h4], by simp at h5; omega, by rw [List.flatMap_append]; simpa [InsV.row, List.flatMap_cons] using h3, fun j a b => ?_, ?_, ?_⟩
        · exact (hR.on (hR.on (hR.on (hR.on (h1 j a b) (cell_grown _ _ _ _) (Nat.lt_succ_self _)) (cell_grown _ _ _ _) (Nat.lt_succ_self _)) (cell_grown _ _ _ _) (Nat.lt_succ_self _)) (cell_grown _ _ _ _) (Nat.lt_succ_self _))
        · exact ((((h2.setCell (Nat.le_refl _) _).setCell (Nat.le_refl _) _).setCell (Nat.le_refl _) _).setCell (Nat.le_refl _) _)
        · simpa [World.setCell] using hzl2
      case measure => simp [intOf]; omega
    · have hk' : k = n := by omega
      subst hk'
      have hz0 : zs = [] := List.eq_nil_of_length_eq_zero (by rw [hzl]; simp)
      subst hz0
      rw [List.append_nil] at hown
      have HF := Lib.hid (show Copied R InsV.row 4 40 l k w (.returned (.slice (some ⟨w.heap.size, 0, none⟩) k k)) wr from ⟨_, ys, rfl, hyl, hown, hRs, .inl rfl, hB⟩)
      clear hown hRs hyl hzl
      go_wp2
      go_ret
      exact HF.out

theorem zero_Int : (Tryz.prog.info? 3).map (fun i => (i.zero, i.size, i.bytes)) = some (some (.int .i64 0), 1, 8) := by kernel_rfl
theorem row_Int (x : Int) : (Int.row4 x).length = 1 := rfl
set_option maxRecDepth 100000 in
set_option maxHeartbeats 4000000 in
theorem copied_Int {g : Nat} {R : World → Nat → Int → Int → Prop} (hR : Stable R) {ok : World → Int → Prop} (hc : ∀ x W, ok W x → Calls Tryz.prog g #[.int .i64 x] W fun e w' => ∃ y, e = .returned (.int .i64 y) ∧ R w' W.heap.size x y ∧ Below W.heap.size W w') (eg : ∀ args w, (callFunc g args).run Tryz.prog w = .ok (.enter g args) w)
    (p : Option Addr) (n cap : Nat) (l : List Int) (hn : l.length = n) (hm : n ≤ 1000000) (hnil : p = none → cap = 0) (w : World) (hr : RowsAt w p 1 Int.row4 l) (hok : ∀ W, Below w.heap.size w W → ∀ x ∈ l, ok W x) :
    Calls Tryz.prog 118 #[.slice p n cap, .func (.func g) #[] #[]] w (Copied R Int.row4 1 3 l n w) := by
  cases p with
  | none =>
    have h0 : n = 0 := by
      cases l with
      | nil => simpa using hn.symm
      | cons x l => obtain ⟨b, o, h, _⟩ := hr 0 (by simp) 0 _ rfl; cases h
    have hcap := hnil rfl
    subst h0 hcap
    obtain rfl : l = [] := List.eq_nil_of_length_eq_zero hn
    clear hn hnil hr hok hc
    have hnl := fun (w : World) (a : Option Addr) (n c n' c' : Nat) => Lib.run_eql_slice_nil (P := Tryz.prog) w 38 3 a n c n' c' Tryz.underlying38
    go_enter Tryz.func118, Tryz.ntmps118
    go_wp2
    go_ret
    exact ⟨none, [], rfl, rfl, World.ownsRow_nil _ _ _ _, fun j h1 => absurd h1 (by simp), .inr ⟨rfl, rfl⟩, Below.refl _ _⟩
  | some ad =>
    clear hnil
    obtain ⟨i0, hi, hz0, hz1, hz2⟩ := info_parts zero_Int
    have HN := Lib.hid hn
    clear hn
    have hnl := fun (w : World) (a : Option Addr) (n c n' c' : Nat) => Lib.run_eql_slice_nil (P := Tryz.prog) w 38 3 a n c n' c' Tryz.underlying38
    go_enter Tryz.func118, Tryz.ntmps118
    go_wp2_with (at_make; refine wpList_make_full _ rfl (.tmp 11) (.tmp 11) 38 rfl w.heap.size 3 i0 (.int .i64 0) 1 Tryz.underlying38 hi hz0 hz1 .i64 .i64 _ _ n rfl rfl rfl rfl (by rw [hz2]; omega) (by unfold maxLen; omega) (Nat.le_refl _) ?_)
    intro w1 hown hgrow
    have hB1 : Below w.heap.size w w1 := Below.grown (Below.refl _ _) hgrow (Nat.le_refl _) (fun g e => by cases e)
    have hlt1 : w.heap.size < w1.heap.size := (hown.lt w.heap.size rfl).2
    obtain ⟨zs, hown⟩ : ∃ zs, w1.ownsRow w.heap.size 3 1 (.slice (some ⟨w.heap.size, 0, none⟩) n n) n zs := ⟨_, hown⟩
    have hzl : zs.length = n * 1 := by have := hown.1; simpa using this
    clear hgrow
    go_wp2
    go_loopw [15] (fun i wr => ∃ (k : Nat) (ys : List Int) (zs : List Value), k ≤ n ∧ i = .int .i64 k ∧ ys.length = k ∧ zs.length = (n - k) * 1 ∧ wr.ownsRow w.heap.size 3 1 (.slice (some ⟨w.heap.size, 0, none⟩) n n) n (ys.flatMap Int.row4 ++ zs) ∧ (∀ j (h1 : j < l.length) (h2 : j < ys.length), R wr (w.heap.size + 1) l[j] ys[j]) ∧ Below w.heap.size w wr ∧ w.heap.size < wr.heap.size) (fun i _ => n - (intOf i).toNat)
    case atStart => exact ⟨0, [], zs, by omega, rfl, rfl, by simpa using hzl, by simpa using hown, fun j _ h2 => absurd h2 (by simp), hB1, hlt1⟩
    case round =>
    clear hown hB1 hlt1 hzl
    obtain ⟨k, ys, zs, hk, rfl, hyl, hzl, hown, hRs, hB, hlt0⟩ := hrel
    by_cases hlt : k < n
    · have hlt' : k < l.length := by have := HN.out; omega
      have hrows := hr.below hB (Nat.le_refl _)
      obtain ⟨b, o, hp, hb, e0⟩ := hrows k hlt' 0 _ rfl
      cases hp

      have cx := fun W (hW : Below wr.heap.size wr W) => hc l[k] W (hok W (hB.trans (hW.mono hB.size)) _ (List.getElem_mem hlt'))
      have hal := Below.refl wr.heap.size wr
      obtain ⟨x, hx⟩ : ∃ x, x = l[k] := ⟨_, rfl⟩
      rw [← hx] at e0  cx
      have HX := Lib.hid hx
      have HO := Lib.hid hown
      have HZ := Lib.hid (And.intro hyl hzl)
      have HRs := Lib.hid hRs
      clear hrows hx hown hyl hzl hRs
      simp only [Nat.add_zero, Nat.mul_one] at e0  cx
      go_wp2_with (go_at_fn g; refine (cx _ hal).mono ?_; rintro e w1 ⟨y, rfl, hRy, hb1⟩; refine Hid.out ?_)
      obtain ⟨hyl, hzl⟩ := HZ.out
      obtain ⟨za, zb, hzz, hla⟩ : ∃ za zb, zs = za ++ zb ∧ za.length = 1 := ⟨zs.take 1, zs.drop 1, (List.take_append_drop ..).symm, by have hp : 1 ≤ n - k := (by omega); rw [List.length_take]; omega⟩
      obtain ⟨z0, rfl⟩ := len1 hla
      subst hzz
      simp only [List.cons_append, List.nil_append] at hzl HO
      have hfl : (ys.flatMap Int.row4).length = k * 1 := by rw [flat_len _ _ row_Int, hyl]
      have ho1 := own_below (HO.out) hb1
      have hlk : k * 1 + 1 ≤ n * 1 := by omega
      have g0 : w1.cell? ⟨w.heap.size, k, none⟩ = some z0 := by
        rw [ho1.cellAt (k) (by omega), List.getElem?_append_right (by rw [hfl]; omega), hfl, show k - k * 1 = 0 by omega]; rfl
      have f0 := ho1.frozenAt (k)
      have ho2 := (World.ownsRow.stored ho1 (k) (Value.int .i64 y)).1
      rw [set_at (by rw [hfl]; omega)] at ho2
      have hBw : Below w.heap.size w w1 := hB.trans ((hb1).mono hB.size)
      have hRall : ∀ j (h1 : j < l.length) (h2 : j < (ys ++ [(y : Int)]).length), R w1 (w.heap.size + 1) l[j] (ys ++ [(y : Int)])[j] := fun j h1 h2 => by
        by_cases hj : j < ys.length
        · rw [List.getElem_append_left hj]
          exact hR.below (HRs.out j h1 hj) (hb1)
        · have hjk : j = k := by simp at h2; omega
          subst hjk
          rw [List.getElem_append_right (by omega)]
          simp only [hyl, Nat.sub_self, List.getElem_cons_zero]
          rw [← HX.out]
          exact hR.less hRy (by omega)
      have HF := Lib.hid (And.intro hRall (And.intro hBw (And.intro ho2 (And.intro hyl hzl))))
      have hzl2 : w.heap.size < w1.heap.size := by have hz := hb1.size; omega
      clear hRall hBw ho1 ho2 hyl hzl hfl hla HO HZ HRs hRy hb1 cx hal e0 hlk
      refine Lib.hid ?_
      go_wp2
      go_roundw
      case rel =>
        obtain ⟨h1, h2, h3, h4, h5⟩ := HF.out
        refine ⟨k + 1, ys ++ [(y : Int)], zb, by omega, by go_num, by simp [h4], by simp at h5; omega, by rw [List.flatMap_append]; simpa [Int.row4, List.flatMap_cons] using h3, fun j a b => ?_, ?_, ?_⟩
        · exact (hR.on (h1 j a b) (cell_grown _ _ _ _) (Nat.lt_succ_self _))
        · exact (h2.setCell (Nat.le_refl _) _)
        · simpa [World.setCell] using hzl2
      case measure => simp [intOf]; omega
    · have hk' : k = n := by omega
      subst hk'
      have hz0 : zs = [] := List.eq_nil_of_length_eq_zero (by rw [hzl]; simp)
      subst hz0
      rw [List.append_nil] at hown
      have HF := Lib.hid (show Copied R Int.row4 1 3 l k w (.returned (.slice (some ⟨w.heap.size, 0, none⟩) k k)) wr from ⟨_, ys, rfl, hyl, hown, hRs, .inl rfl, hB⟩)
      clear hown hRs hyl hzl
      go_wp2
      go_ret
      exact HF.out
end Go.Proofs.YtnonedmkdcbmfaaGreatDoor

/-
  Package module's Copy: an instruction, and a function, copied: walked. Contracts that the proofs call; no statement is proved here.
-/
namespace Go.Proofs.YtnonedmkdcbmfaaGreatDoor
open Go.RowKit

theorem own_lower {w : World} {base base' size n : Nat} {e : TypeId} {v : Value} {xs : List Value} (h : w.ownsRow base e size v n xs) (hb : base' ≤ base) : w.ownsRow base' e size v n xs := by
  refine ⟨h.1, ?_⟩
  rcases h.2 with ⟨h1, h2⟩ | ⟨g, cap, cur, h1, h2, h3⟩
  · exact .inl ⟨h1, h2⟩
  · exact .inr ⟨g, cap, cur, h1, Nat.le_trans hb h2, h3⟩
theorem own_on {w w' : World} {base size n g : Nat} {e : TypeId} {v : Value} {xs : List Value} (h : w.ownsRow base e size v n xs) (hg : w.grownBy w' (some g)) (hlt : g < base) : w'.ownsRow base e size v n xs :=
  h.kept hg (by
    cases hv : v.ownBlock with
    | none => exact .inl rfl
    | some b => exact .inr fun e => by injection e with e; have := (h.lt b hv).1; omega)
/-- y is x, its labels copied. -/
def copyI (w : World) (lo : Nat) (x y : InsV) : Prop := y.op = x.op ∧ y.a = x.a ∧ y.b = x.b ∧ y.ls = x.ls ∧ w.ownsRow lo 3 1 (.slice y.lp y.ls.length y.lc) y.ls.length (y.ls.flatMap Int.row4)
theorem stableI : Stable copyI := ⟨fun h hg hlt => ⟨h.1, h.2.1, h.2.2.1, h.2.2.2.1, own_on h.2.2.2.2 hg hlt⟩, fun h hl => ⟨h.1, h.2.1, h.2.2.1, h.2.2.2.1, own_lower h.2.2.2.2 hl⟩⟩
def okI (W : World) (x : InsV) : Prop := IntsAt W x.lp x.ls ∧ (x.lp = none → x.lc = 0) ∧ x.ls.length ≤ 1000000
/-- y is x, its code copied. -/
def copyF (w : World) (lo : Nat) (x y : FnV) : Prop := y.type = x.type ∧ y.locals = x.locals ∧ y.code.length = x.code.length ∧ ∃ B, lo ≤ B ∧ w.ownsRow B 40 4 (.slice y.cp y.code.length y.cc) y.code.length (y.code.flatMap InsV.row) ∧ (y.cp = some ⟨B, 0, none⟩ ∨ y.cp = none ∧ y.code = []) ∧ ∀ j (h1 : j < x.code.length) (h2 : j < y.code.length), copyI w (B + 1) x.code[j] y.code[j]
theorem stableF : Stable copyF := ⟨fun ⟨h1, h2, h3, B, h4, h5, h6, h7⟩ hg hlt => ⟨h1, h2, h3, B, h4, own_on h5 hg (by omega), h6, fun j a b => stableI.on (h7 j a b) hg (by omega)⟩, fun ⟨h1, h2, h3, B, h4, h5, h6, h7⟩ hl => ⟨h1, h2, h3, B, by omega, h5, h6, h7⟩⟩
def okF (W : World) (f : FnV) : Prop := RowsAt W f.cp 4 InsV.row f.code ∧ (f.cp = none → f.cc = 0) ∧ f.code.length ≤ 1000000 ∧ f.locals.size ≤ 281474976710656 ∧ ∀ x ∈ f.code, okI W x
theorem okI.below {W W' : World} {x : InsV} (h : okI W x) (hb : Below W.heap.size W W') : okI W' x := ⟨h.1.below hb (Nat.le_refl _), h.2⟩
theorem okF.below {W W' : World} {f : FnV} (h : okF W f) (hb : Below W.heap.size W W') : okF W' f := ⟨h.1.below hb (Nat.le_refl _), h.2.1, h.2.2.1, h.2.2.2.1, fun x hx => (h.2.2.2.2 x hx).below hb⟩

theorem copied_same {V : Type} {row : V → List Value} {c : Nat} {E : TypeId} {l : List V} {n : Nat} {w : World} {e : Ending} {w' : World} (h : Copied (fun _ _ x y => y = x) row c E l n w e w') (hn : l.length = n) :
    ∃ p', e = .returned (.slice p' n n) ∧ w'.ownsRow w.heap.size E c (.slice p' n n) n (l.flatMap row) ∧ (p' = some ⟨w.heap.size, 0, none⟩ ∨ p' = none ∧ n = 0) ∧ Below w.heap.size w w' := by
  obtain ⟨p', ys, h1, h2, h3, h4, h5, h6⟩ := h
  have : ys = l := List.ext_getElem (by omega) fun j a b => h4 j b a
  subst this
  exact ⟨p', h1, h3, h5, h6⟩

set_option maxRecDepth 100000 in
set_option maxHeartbeats 4000000 in
theorem copy_InsV (x : InsV) (w : World) (h : okI w x) :
    Calls Tryz.prog 78 #[x.val] w fun e w' => ∃ y, e = .returned (InsV.val y) ∧ copyI w' w.heap.size x y ∧ Below w.heap.size w w' := by
  have hB := fun o o' => ((((Below.refl _ w).alloc (Nat.le_refl _) o).alloc (by simp) o').drew : Below w.heap.size w ((w.alloc o).alloc o').drew)
  have cc := fun o o' => (copied_Int (R := fun _ _ x y => y = x) ⟨fun h _ _ => h, fun h _ => h⟩ (ok := fun _ _ => True) (fun x W _ => (copy_Int x W).mono fun e w' ⟨he, hb⟩ => ⟨x, he, rfl, hb⟩) enters_copy_Int x.lp x.ls.length x.lc x.ls rfl h.2.2 h.2.1 ((w.alloc o).alloc o').drew (ints_rows (h.1.below (hB o o') (Nat.le_refl _))) (fun _ _ _ _ => trivial)).mono fun e w' hh => copied_same hh rfl
  have hx := Lib.hid (show ∀ y : InsV, y.op = x.op → y.a = x.a → y.b = x.b → y.ls = x.ls → ∀ W' lo, W'.ownsRow lo 3 1 (.slice y.lp y.ls.length y.lc) y.ls.length (y.ls.flatMap Int.row4) → copyI W' lo x y from fun y a b c d W' lo e => ⟨a, b, c, d, e⟩)
  clear h
  obtain ⟨xo, xa, xb, xp, xc, xl⟩ := x
  simp only [InsV.val] at *
  obtain ⟨n, hn⟩ : ∃ n, xl.length = n := ⟨_, rfl⟩
  rw [hn] at cc ⊢
  have HN := Lib.hid hn
  clear hn
  go_enter Tryz.func78, Tryz.ntmps78
  go_wp2
  go_region_held3 (fun W => W.cell? ⟨w.heap.size, 0, none⟩ = some (.int .i64 xo) ∧ W.cell? ⟨w.heap.size, 1, none⟩ = some (.int .i64 xa) ∧ W.cell? ⟨w.heap.size, 2, none⟩ = some (.int .i64 xb) ∧ W.cell? ⟨w.heap.size, 3, none⟩ = some (.slice xp n xc))
    (first | exact keep_4 hb1 (by assumption) | go_keep)
    (first
      | (go_at_call 118; refine (cc _ _).mono ?_; rintro e w1 ⟨p', rfl, ho, hp, hb1⟩; have ⟨m0, m1⟩ := two_new hb1; have r0 : w1.cell? ⟨w.heap.size + 1, 0, none⟩ = some (.int .i64 0) := m0 0; have r1 : w1.cell? ⟨w.heap.size + 1, 1, none⟩ = some (.int .i64 0) := m0 1; have r2 : w1.cell? ⟨w.heap.size + 1, 2, none⟩ = some (.int .i64 0) := m0 2; have r3 : w1.cell? ⟨w.heap.size + 1, 3, none⟩ = some (.slice none 0 0) := m0 3; have f0 := m1 0; have f1 := m1 1; have f2 := m1 2; have f3 := m1 3; clear m0 m1))
  all_goals
    have hc := hx.out ⟨xo, xa, xb, p', n, xl⟩ rfl rfl rfl rfl w1 _ (by simp only [HN.out]; exact ho)
    have hbx := bnext (hB _ _) (hB _ _).size hb1
    have HC := Lib.hid hc
    have HS := Lib.hid (show w.heap.size + 1 < ((w.alloc (.cells #[.int .i64 xo, .int .i64 xa, .int .i64 xb, .slice xp n xc] 40)).alloc (.cells #[.int .i64 0, .int .i64 0, .int .i64 0, .slice none 0 0] 40)).drew.heap.size by show _ < ((w.alloc _).alloc _).heap.size; simp)
    clear hc ho hp
    go_wp2
    refine bodyPost_ret (v := .agg #[.int .i64 xo, .int .i64 xa, .int .i64 xb, .slice p' n n]) ?_ rfl ?_
    · rw [results_one_cell rfl]; go_simp
    · have hc := HC.out
      have hs := HS.out
      refine ⟨⟨xo, xa, xb, p', n, xl⟩, by simp only [HN.out], ?_, (((hbx.setCell (by show w.heap.size ≤ w.heap.size + 1; omega) _).setCell (by show w.heap.size ≤ w.heap.size + 1; omega) _).setCell (by show w.heap.size ≤ w.heap.size + 1; omega) _).setCell (by show w.heap.size ≤ w.heap.size + 1; omega) _⟩
      exact stableI.less (stableI.on (stableI.on (stableI.on (stableI.on hc (cell_grown _ _ _ _) hs) (cell_grown _ _ _ _) hs) (cell_grown _ _ _ _) hs) (cell_grown _ _ _ _) hs) (Nat.le_of_lt (Nat.lt_trans (Nat.lt_succ_self _) hs))
theorem enters_copyInstr : ∀ args w, (callFunc 78 args).run Tryz.prog w = .ok (.enter 78 args) w := enters_of Tryz.func78 (by kernel_rfl) rfl

set_option maxRecDepth 100000 in
set_option maxHeartbeats 4000000 in
theorem copy_FnV (x : FnV) (w : World) (h : okF w x) :
    Calls Tryz.prog 76 #[x.val] w fun e w' => ∃ y, e = .returned (FnV.val y) ∧ copyF w' w.heap.size x y ∧ Below w.heap.size w w' := by
  have hB := fun o o' => ((((Below.refl _ w).alloc (Nat.le_refl _) o).alloc (by simp) o').drew : Below w.heap.size w ((w.alloc o).alloc o').drew)
  have cc := fun o o' W (hW : Below ((w.alloc o).alloc o').drew.heap.size ((w.alloc o).alloc o').drew W) => copied_InsV stableI (ok := okI) (fun x W hx => copy_InsV x W hx) enters_copyInstr x.cp x.code.length x.cc x.code rfl h.2.2.1 h.2.1 W (h.1.below ((hB o o').trans (hW.mono (hB o o').size)) (Nat.le_refl _)) (fun W' hW' y hy => (h.2.2.2.2 y hy).below ((hB o o').trans ((hW.trans (hW'.mono hW.size)).mono (hB o o').size)))
  have cl := fun W => lib_clone x.locals W h.2.2.2.1
  have hx := Lib.hid (show ∀ (n : Nat) (p' : Option Addr) (ys : List InsV) (W' : World) (B : Nat), x.code.length = n → ys.length = n → W'.ownsRow B 40 4 (.slice p' n n) n (ys.flatMap InsV.row) → (∀ j (h1 : j < x.code.length) (h2 : j < ys.length), copyI W' (B + 1) x.code[j] ys[j]) → (p' = some ⟨B, 0, none⟩ ∨ p' = none ∧ n = 0) → copyF W' B x ⟨x.type, x.locals, p', n, ys⟩ from fun n p' ys W' B e a b c d => ⟨rfl, rfl, a.trans e.symm, B, Nat.le_refl _, by simp only [a]; exact b, by rcases d with d | ⟨d, d2⟩; exact .inl d; exact .inr ⟨d, List.eq_nil_of_length_eq_zero (a.trans d2)⟩, c⟩)
  clear h
  obtain ⟨xt, xl, xp, xc, xk⟩ := x
  simp only [FnV.val] at *
  obtain ⟨n, hn⟩ : ∃ n, xk.length = n := ⟨_, rfl⟩
  rw [hn] at cc ⊢
  have HN := Lib.hid hn
  clear hn
  go_enter Tryz.func76, Tryz.ntmps76
  go_wp2
  go_region_held3 (fun W => W.cell? ⟨w.heap.size, 0, none⟩ = some (.int .i64 xt) ∧ W.cell? ⟨w.heap.size, 1, none⟩ = some (.string xl) ∧ W.cell? ⟨w.heap.size, 2, none⟩ = some (.slice xp n xc))
    (first | exact keep_3 hb2 (by assumption) | exact keep_3 hb1 (by assumption) | go_keep)
    (first
      | (go_at_call 74; (with_reducible refine (cl _).mono ?_); rintro e w1 ⟨rfl, hb1⟩; have ⟨m0, m1⟩ := two_new hb1; have r0 : w1.cell? ⟨w.heap.size + 1, 0, none⟩ = some (.int .i64 0) := m0 0; have r1 : w1.cell? ⟨w.heap.size + 1, 1, none⟩ = some (.string ⟨#[]⟩) := m0 1; have r2 : w1.cell? ⟨w.heap.size + 1, 2, none⟩ = some (.slice none 0 0) := m0 2; have f0 := m1 0; have f1 := m1 1; have f2 := m1 2; clear m0 m1)
      | (go_at_call 77; refine (cc _ _ _ hb1).mono ?_; rintro e w2 ⟨p', ys, rfl, hys, ho, hel, hp, hb2⟩; have q0 := cell_below r0 hb2; have q1 := cell_below r1 hb2; have q2 := cell_below r2 hb2; have h0 := frozen_below r0 f0 hb2; have h1 := frozen_below r1 f1 hb2; have h2 := frozen_below r2 f2 hb2))
  all_goals
    have hc := hx.out n p' ys w2 _ HN.out hys ho hel hp
    have hbx := bnext (hB _ _) (hB _ _).size hb1
    have hby := bnext hbx hbx.size hb2
    have HC := Lib.hid hc
    have HS := Lib.hid (Nat.lt_of_lt_of_le (show w.heap.size + 1 < ((w.alloc (.cells #[.int .i64 xt, .string xl, .slice xp n xc] 33)).alloc (.cells #[.int .i64 0, .string ⟨#[]⟩, .slice none 0 0] 33)).drew.heap.size by show _ < ((w.alloc _).alloc _).heap.size; simp) hb1.size)
    have HY := Lib.hid hys
    clear hc ho hp hys hel
    go_wp2
    refine bodyPost_ret (v := .agg #[.int .i64 xt, .string xl, .slice p' n n]) ?_ rfl ?_
    · rw [results_one_cell rfl]; go_simp
    · have hc := HC.out
      have hs := HS.out
      refine ⟨⟨xt, xl, p', n, ys⟩, by simp only [HY.out], ?_, ((hby.setCell (by show w.heap.size ≤ w.heap.size + 1; omega) _).setCell (by show w.heap.size ≤ w.heap.size + 1; omega) _).setCell (by show w.heap.size ≤ w.heap.size + 1; omega) _⟩
      exact stableF.less (stableF.on (stableF.on (stableF.on hc (cell_grown _ _ _ _) hs) (cell_grown _ _ _ _) hs) (cell_grown _ _ _ _) hs) (Nat.le_of_lt (Nat.lt_trans (Nat.lt_succ_self _) hs))
theorem enters_copy_FnV : ∀ args w, (callFunc 76 args).run Tryz.prog w = .ok (.enter 76 args) w := enters_of Tryz.func76 (by kernel_rfl) rfl
end Go.Proofs.YtnonedmkdcbmfaaGreatDoor

/-
  Package module's Copy, walked, of a module with one function: where the copy lies, block by block. Contracts that the proofs call; no statement is proved here.
-/
namespace Go.Proofs.YtnonedmkdcbmfaaGreatDoor
open Go.RowKit

/-- A row of the call's own, in a block from lo on, below hi. -/
def InB (w : World) (lo hi : Nat) (E : TypeId) (c : Nat) (p : Option Addr) (n cap : Nat) (xs : List Value) : Prop := w.ownsRow lo E c (.slice p n cap) n xs ∧ ∀ g, (Value.slice p n cap).ownBlock = some g → g < hi
theorem InB.on {w w' : World} {lo hi g : Nat} {E : TypeId} {c n cap : Nat} {p : Option Addr} {xs : List Value} (h : InB w lo hi E c p n cap xs) (hg : w.grownBy w' (some g)) (hn : g < lo ∨ hi ≤ g) : InB w' lo hi E c p n cap xs :=
  ⟨h.1.kept hg (by
    cases hv : (Value.slice p n cap).ownBlock with
    | none => exact .inl rfl
    | some b => exact .inr fun e => by injection e with e; have := (h.1.lt b hv).1; have := h.2 b hv; omega), h.2⟩
theorem InB.below {w w' : World} {lo hi : Nat} {E : TypeId} {c n cap : Nat} {p : Option Addr} {xs : List Value} (h : InB w lo hi E c p n cap xs) (hb : Below w.heap.size w w') : InB w' lo hi E c p n cap xs := ⟨own_below h.1 hb, h.2⟩
theorem InB.hi {w : World} {lo hi hi' : Nat} {E : TypeId} {c n cap : Nat} {p : Option Addr} {xs : List Value} (h : InB w lo hi E c p n cap xs) (hh : hi ≤ hi') : InB w lo hi' E c p n cap xs := ⟨h.1, fun g hg => Nat.lt_of_lt_of_le (h.2 g hg) hh⟩
theorem InB.of_own {w : World} {lo : Nat} {E : TypeId} {c n cap : Nat} {p : Option Addr} {xs : List Value} (h : w.ownsRow lo E c (.slice p n cap) n xs) : InB w lo w.heap.size E c p n cap xs := ⟨h, fun g hg => (h.lt g hg).2⟩

/-- A module with one function, in blocks of the call's own, list by list. -/
structure Own1 (w : World) (b1 b2 bc b3 b4 b5 b6 b7 : Nat) (m : MoV) (f : FnV) : Prop where
  one : m.funcs = [f]
  o1 : b1 ≤ b2
  o2 : b2 + 1 ≤ bc
  oc : bc + 1 ≤ b3
  o3 : b3 ≤ b4
  o4 : b4 ≤ b5
  o5 : b5 ≤ b6
  o6 : b6 ≤ b7
  types : InB w b1 b2 70 2 m.tp m.types.length m.tc (m.types.flatMap TyV.row)
  funcs : InB w b2 (b2 + 1) 33 3 m.fp 1 m.fc (FnV.row f)
  code : InB w bc (bc + 1) 40 4 f.cp f.code.length f.cc (f.code.flatMap InsV.row)
  labels : ∀ x ∈ f.code, InB w (bc + 1) b3 3 1 x.lp x.ls.length x.lc (x.ls.flatMap Int.row4)
  memory : InB w b3 b4 62 2 m.mp m.memory.length m.mc (m.memory.flatMap MemV.row)
  globals : InB w b4 b5 60 3 m.gp m.globals.length m.gc (m.globals.flatMap GlobV.row)
  exports : InB w b5 b6 58 3 m.ep m.exports.length m.ec (m.exports.flatMap ExpV.row)
  data : InB w b6 b7 49 2 m.dp m.data.length m.dc (m.data.flatMap DatV.row)
/-- m' is m, as far as Same goes. -/
structure Like (m m' : MoV) (f f' : FnV) : Prop where
  types : m'.types = m.types
  memory : m'.memory = m.memory
  globals : m'.globals = m.globals
  exports : m'.exports = m.exports
  start : m'.start = m.start
  data : m'.data = m.data
  type : f'.type = f.type
  locals : f'.locals = f.locals
  len : f'.code.length = f.code.length
  code : ∀ j (h1 : j < f.code.length) (h2 : j < f'.code.length), f'.code[j].op = f.code[j].op ∧ f'.code[j].a = f.code[j].a ∧ f'.code[j].b = f.code[j].b ∧ f'.code[j].ls = f.code[j].ls
/-- What Copy asks of a module here. -/
structure OkMod (w : World) (m : MoV) (f : FnV) : Prop where
  one : m.funcs = [f]
  at0 : ModAt w m
  types : m.types.length ≤ 1000000 ∧ (m.tp = none → m.tc = 0)
  funcs : m.fp = none → m.fc = 0
  memory : m.memory.length ≤ 1000000 ∧ (m.mp = none → m.mc = 0)
  globals : m.globals.length ≤ 1000000 ∧ (m.gp = none → m.gc = 0)
  exports : m.exports.length ≤ 1000000 ∧ (m.ep = none → m.ec = 0)
  data : m.data.length ≤ 1000000 ∧ (m.dp = none → m.dc = 0)
  tyIn : ∀ t ∈ m.types, t.params.size ≤ 281474976710656 ∧ t.results.size ≤ 281474976710656
  exIn : ∀ t ∈ m.exports, t.name.size ≤ 281474976710656
  daIn : ∀ t ∈ m.data, t.bytes.size ≤ 281474976710656
  fn : okF w f
  some1 : f.code ≠ []

/-- What Copy answers. -/
def Copy1 (w : World) (m : MoV) (f : FnV) (e : Ending) (w' : World) : Prop :=
  ∃ (m' : MoV) (f' : FnV) (b1 b2 bc b3 b4 b5 b6 : Nat), e = .returned m'.val ∧ w.heap.size ≤ b1 ∧ Own1 w' b1 b2 bc b3 b4 b5 b6 w'.heap.size m' f' ∧ Like m m' f f' ∧ Below w.heap.size w w'
theorem copies_types {w : World} {m : MoV} {f : FnV} (h : OkMod w m f) (W : World) (hW : Below w.heap.size w W) :
    Calls Tryz.prog 72 #[.slice m.tp m.types.length m.tc, .func (.func 73) #[] #[]] W fun e w' => ∃ p', e = .returned (.slice p' m.types.length m.types.length) ∧ w'.ownsRow W.heap.size 70 2 (.slice p' m.types.length m.types.length) m.types.length (m.types.flatMap TyV.row) ∧ (p' = some ⟨W.heap.size, 0, none⟩ ∨ p' = none ∧ m.types.length = 0) ∧ Below W.heap.size W w' :=
  (copied_TyV (R := fun _ _ x y => y = x) ⟨fun h _ _ => h, fun h _ => h⟩ (ok := (fun _ t => t.params.size ≤ 281474976710656 ∧ t.results.size ≤ 281474976710656)) (fun x W hx => (copy_TyV x hx.1 hx.2 W).mono fun _ _ ⟨he, hb⟩ => ⟨x, he, rfl, hb⟩) enters_copy_TyV m.tp _ m.tc m.types rfl h.types.1 h.types.2 W (h.at0.types.below hW (Nat.le_refl _)) (fun _ _ x hx => h.tyIn x hx)).mono fun _ _ hh => copied_same hh rfl
theorem copies_funcs {w : World} {m : MoV} {f : FnV} (h : OkMod w m f) (W : World) (hW : Below w.heap.size w W) :
    Calls Tryz.prog 75 #[.slice m.fp m.funcs.length m.fc, .func (.func 76) #[] #[]] W (Copied copyF FnV.row 3 33 m.funcs m.funcs.length W) :=
  copied_FnV stableF (ok := okF) (fun x W hx => copy_FnV x W hx) enters_copy_FnV m.fp _ m.fc m.funcs rfl (by rw [h.one]; simp) h.funcs W (h.at0.funcs.below hW (Nat.le_refl _)) (fun W' hW' x hx => by rw [h.one] at hx; rw [List.mem_singleton.1 hx]; exact h.fn.below (hW.trans (hW'.mono hW.size)))
theorem copies_memory {w : World} {m : MoV} {f : FnV} (h : OkMod w m f) (W : World) (hW : Below w.heap.size w W) :
    Calls Tryz.prog 79 #[.slice m.mp m.memory.length m.mc, .func (.func 80) #[] #[]] W fun e w' => ∃ p', e = .returned (.slice p' m.memory.length m.memory.length) ∧ w'.ownsRow W.heap.size 62 2 (.slice p' m.memory.length m.memory.length) m.memory.length (m.memory.flatMap MemV.row) ∧ (p' = some ⟨W.heap.size, 0, none⟩ ∨ p' = none ∧ m.memory.length = 0) ∧ Below W.heap.size W w' :=
  (copied_MemV (R := fun _ _ x y => y = x) ⟨fun h _ _ => h, fun h _ => h⟩ (ok := (fun _ _ => True)) (fun x W _ => (copy_MemV x W).mono fun _ _ ⟨he, hb⟩ => ⟨x, he, rfl, hb⟩) enters_copy_MemV m.mp _ m.mc m.memory rfl h.memory.1 h.memory.2 W (h.at0.memory.below hW (Nat.le_refl _)) (fun _ _ _ _ => trivial)).mono fun _ _ hh => copied_same hh rfl
theorem copies_globals {w : World} {m : MoV} {f : FnV} (h : OkMod w m f) (W : World) (hW : Below w.heap.size w W) :
    Calls Tryz.prog 81 #[.slice m.gp m.globals.length m.gc, .func (.func 82) #[] #[]] W fun e w' => ∃ p', e = .returned (.slice p' m.globals.length m.globals.length) ∧ w'.ownsRow W.heap.size 60 3 (.slice p' m.globals.length m.globals.length) m.globals.length (m.globals.flatMap GlobV.row) ∧ (p' = some ⟨W.heap.size, 0, none⟩ ∨ p' = none ∧ m.globals.length = 0) ∧ Below W.heap.size W w' :=
  (copied_GlobV (R := fun _ _ x y => y = x) ⟨fun h _ _ => h, fun h _ => h⟩ (ok := (fun _ _ => True)) (fun x W _ => (copy_GlobV x W).mono fun _ _ ⟨he, hb⟩ => ⟨x, he, rfl, hb⟩) enters_copy_GlobV m.gp _ m.gc m.globals rfl h.globals.1 h.globals.2 W (h.at0.globals.below hW (Nat.le_refl _)) (fun _ _ _ _ => trivial)).mono fun _ _ hh => copied_same hh rfl
theorem copies_exports {w : World} {m : MoV} {f : FnV} (h : OkMod w m f) (W : World) (hW : Below w.heap.size w W) :
    Calls Tryz.prog 83 #[.slice m.ep m.exports.length m.ec, .func (.func 84) #[] #[]] W fun e w' => ∃ p', e = .returned (.slice p' m.exports.length m.exports.length) ∧ w'.ownsRow W.heap.size 58 3 (.slice p' m.exports.length m.exports.length) m.exports.length (m.exports.flatMap ExpV.row) ∧ (p' = some ⟨W.heap.size, 0, none⟩ ∨ p' = none ∧ m.exports.length = 0) ∧ Below W.heap.size W w' :=
  (copied_ExpV (R := fun _ _ x y => y = x) ⟨fun h _ _ => h, fun h _ => h⟩ (ok := (fun _ t => t.name.size ≤ 281474976710656)) (fun x W hx => (copy_ExpV x hx W).mono fun _ _ ⟨he, hb⟩ => ⟨x, he, rfl, hb⟩) enters_copy_ExpV m.ep _ m.ec m.exports rfl h.exports.1 h.exports.2 W (h.at0.exports.below hW (Nat.le_refl _)) (fun _ _ x hx => h.exIn x hx)).mono fun _ _ hh => copied_same hh rfl
theorem copies_data {w : World} {m : MoV} {f : FnV} (h : OkMod w m f) (W : World) (hW : Below w.heap.size w W) :
    Calls Tryz.prog 85 #[.slice m.dp m.data.length m.dc, .func (.func 86) #[] #[]] W fun e w' => ∃ p', e = .returned (.slice p' m.data.length m.data.length) ∧ w'.ownsRow W.heap.size 49 2 (.slice p' m.data.length m.data.length) m.data.length (m.data.flatMap DatV.row) ∧ (p' = some ⟨W.heap.size, 0, none⟩ ∨ p' = none ∧ m.data.length = 0) ∧ Below W.heap.size W w' :=
  (copied_DatV (R := fun _ _ x y => y = x) ⟨fun h _ _ => h, fun h _ => h⟩ (ok := (fun _ t => t.bytes.size ≤ 281474976710656)) (fun x W hx => (copy_DatV x hx W).mono fun _ _ ⟨he, hb⟩ => ⟨x, he, rfl, hb⟩) enters_copy_DatV m.dp _ m.dc m.data rfl h.data.1 h.data.2 W (h.at0.data.below hW (Nat.le_refl _)) (fun _ _ x hx => h.daIn x hx)).mono fun _ _ hh => copied_same hh rfl

theorem Own1.on {w w' : World} {b1 b2 bc b3 b4 b5 b6 b7 g : Nat} {m : MoV} {f : FnV} (h : Own1 w b1 b2 bc b3 b4 b5 b6 b7 m f) (hg : w.grownBy w' (some g)) (hl : g < b1) : Own1 w' b1 b2 bc b3 b4 b5 b6 b7 m f := by
  have := h.o1; have := h.o2; have := h.oc; have := h.o3; have := h.o4; have := h.o5; have := h.o6
  exact { h with types := h.types.on hg (by omega), funcs := h.funcs.on hg (by omega), code := h.code.on hg (by omega), labels := fun x hx => (h.labels x hx).on hg (by omega), memory := h.memory.on hg (by omega), globals := h.globals.on hg (by omega), exports := h.exports.on hg (by omega), data := h.data.on hg (by omega) }
theorem Own1.below {w w' : World} {b1 b2 bc b3 b4 b5 b6 b7 : Nat} {m : MoV} {f : FnV} (h : Own1 w b1 b2 bc b3 b4 b5 b6 b7 m f) (hb : Below w.heap.size w w') : Own1 w' b1 b2 bc b3 b4 b5 b6 b7 m f :=
  { h with types := h.types.below hb, funcs := h.funcs.below hb, code := h.code.below hb, labels := fun x hx => (h.labels x hx).below hb, memory := h.memory.below hb, globals := h.globals.below hb, exports := h.exports.below hb, data := h.data.below hb }

theorem keepset_7 {W : World} {B C o : Nat} {x u0 u1 u2 u3 u4 u5 u6 : Value} (hne : B ≠ C) (h : W.cell? ⟨B, 0, none⟩ = some u0 ∧ W.cell? ⟨B, 1, none⟩ = some u1 ∧ W.cell? ⟨B, 2, none⟩ = some u2 ∧ W.cell? ⟨B, 3, none⟩ = some u3 ∧ W.cell? ⟨B, 4, none⟩ = some u4 ∧ W.cell? ⟨B, 5, none⟩ = some u5 ∧ W.cell? ⟨B, 6, none⟩ = some u6) : (W.setCell ⟨C, o, none⟩ x).cell? ⟨B, 0, none⟩ = some u0 ∧ (W.setCell ⟨C, o, none⟩ x).cell? ⟨B, 1, none⟩ = some u1 ∧ (W.setCell ⟨C, o, none⟩ x).cell? ⟨B, 2, none⟩ = some u2 ∧ (W.setCell ⟨C, o, none⟩ x).cell? ⟨B, 3, none⟩ = some u3 ∧ (W.setCell ⟨C, o, none⟩ x).cell? ⟨B, 4, none⟩ = some u4 ∧ (W.setCell ⟨C, o, none⟩ x).cell? ⟨B, 5, none⟩ = some u5 ∧ (W.setCell ⟨C, o, none⟩ x).cell? ⟨B, 6, none⟩ = some u6 := by
  have e : ∀ k, (W.setCell ⟨C, o, none⟩ x).cell? ⟨B, k, none⟩ = W.cell? ⟨B, k, none⟩ := fun k => by simp only [World.cell?]; rw [Below.heap_setCell W _ _ B hne]
  simpa only [e] using h
theorem keeprow_7 {W : World} {B C : Nat} {cs : Array Value} {u0 u1 u2 u3 u4 u5 u6 : Value} (hne : B ≠ C) (h : W.cell? ⟨B, 0, none⟩ = some u0 ∧ W.cell? ⟨B, 1, none⟩ = some u1 ∧ W.cell? ⟨B, 2, none⟩ = some u2 ∧ W.cell? ⟨B, 3, none⟩ = some u3 ∧ W.cell? ⟨B, 4, none⟩ = some u4 ∧ W.cell? ⟨B, 5, none⟩ = some u5 ∧ W.cell? ⟨B, 6, none⟩ = some u6) : (W.setRow C cs).cell? ⟨B, 0, none⟩ = some u0 ∧ (W.setRow C cs).cell? ⟨B, 1, none⟩ = some u1 ∧ (W.setRow C cs).cell? ⟨B, 2, none⟩ = some u2 ∧ (W.setRow C cs).cell? ⟨B, 3, none⟩ = some u3 ∧ (W.setRow C cs).cell? ⟨B, 4, none⟩ = some u4 ∧ (W.setRow C cs).cell? ⟨B, 5, none⟩ = some u5 ∧ (W.setRow C cs).cell? ⟨B, 6, none⟩ = some u6 := by
  have e : ∀ k, (W.setRow C cs).cell? ⟨B, k, none⟩ = W.cell? ⟨B, k, none⟩ := fun k => cell_setRow_other W C cs ⟨B, k, none⟩ hne
  simpa only [e] using h
theorem row_grown (w : World) (C : Nat) (cs : Array Value) : w.grownBy (w.setRow C cs) (some C) := ⟨rfl, rfl, rfl, by simp, fun k _ hne => setRow_other w C k cs (fun e => hne (by rw [e]))⟩
/-- The result's block, not yet written. -/
def Res7 (W : World) (C : Nat) : Prop := W.heap[C]? = some (.cells #[.slice none 0 0, .slice none 0 0, .slice none 0 0, .slice none 0 0, .slice none 0 0, .int .i64 0, .slice none 0 0] 29)
theorem heap_in {w : World} {b : Nat} {o : Obj} (h : w.heap[b]? = some o) : b < w.heap.size := by
  by_cases hh : b < w.heap.size
  · exact hh
  · rw [Array.getElem?_eq_none (by omega)] at h; cases h
theorem Res7.cells {W : World} {C : Nat} (h : Res7 W C) : W.cell? ⟨C, 0, none⟩ = some (.slice none 0 0) ∧ W.cell? ⟨C, 1, none⟩ = some (.slice none 0 0) ∧ W.cell? ⟨C, 2, none⟩ = some (.slice none 0 0) ∧ W.cell? ⟨C, 3, none⟩ = some (.slice none 0 0) ∧ W.cell? ⟨C, 4, none⟩ = some (.slice none 0 0) ∧ W.cell? ⟨C, 5, none⟩ = some (.int .i64 0) ∧ W.cell? ⟨C, 6, none⟩ = some (.slice none 0 0) ∧ W.frozen? ⟨C, 0, none⟩ = false ∧ W.frozen? ⟨C, 1, none⟩ = false ∧ W.frozen? ⟨C, 2, none⟩ = false ∧ W.frozen? ⟨C, 3, none⟩ = false ∧ W.frozen? ⟨C, 4, none⟩ = false ∧ W.frozen? ⟨C, 5, none⟩ = false ∧ W.frozen? ⟨C, 6, none⟩ = false := by
  have c : ∀ j, W.cell? ⟨C, j, none⟩ = _ := fun j => by rw [World.cell?, h]
  have f : ∀ j, W.frozen? ⟨C, j, none⟩ = false := fun j => by simp [World.frozen?, show W.heap[C]? = _ from h]
  exact ⟨c 0, c 1, c 2, c 3, c 4, c 5, c 6, f 0, f 1, f 2, f 3, f 4, f 5, f 6⟩
theorem Res7.below {W W' : World} {C : Nat} (h : Res7 W C) (hb : Below W.heap.size W W') : Res7 W' C := (hb.block C (heap_in h)).trans h
theorem two_res {w w1 : World} {cs : Array Value} {t : TypeId} (hb : Below ((w.alloc (.cells cs t)).alloc (.cells #[.slice none 0 0, .slice none 0 0, .slice none 0 0, .slice none 0 0, .slice none 0 0, .int .i64 0, .slice none 0 0] 29)).drew.heap.size ((w.alloc (.cells cs t)).alloc (.cells #[.slice none 0 0, .slice none 0 0, .slice none 0 0, .slice none 0 0, .slice none 0 0, .int .i64 0, .slice none 0 0] 29)).drew w1) : Res7 w1 (w.heap.size + 1) := by
  have hl : w.heap.size + 1 < ((w.alloc (.cells cs t)).alloc (.cells #[.slice none 0 0, .slice none 0 0, .slice none 0 0, .slice none 0 0, .slice none 0 0, .int .i64 0, .slice none 0 0] 29)).drew.heap.size := by show _ < ((w.alloc (.cells cs t)).alloc (.cells #[.slice none 0 0, .slice none 0 0, .slice none 0 0, .slice none 0 0, .slice none 0 0, .int .i64 0, .slice none 0 0] 29)).heap.size; simp
  unfold Res7
  rw [hb.block _ hl]
  show ((w.alloc (.cells cs t)).alloc (.cells #[.slice none 0 0, .slice none 0 0, .slice none 0 0, .slice none 0 0, .slice none 0 0, .int .i64 0, .slice none 0 0] 29)).heap[w.heap.size + 1]? = _
  rw [show w.heap.size + 1 = (w.alloc (.cells cs t)).heap.size by simp]; exact heap_alloc_new _ _
/-- The six lists are copied, one behind the other. -/
theorem copy_asm {W0 w1 w2 w3 w4 w5 w6 : World} {m : MoV} {f : FnV} (hm : m.funcs = [f]) (hne : f.code ≠ [])
    {p1 p3 p4 p5 p6 : Option Addr} {e2 : Ending}
    (o1 : w1.ownsRow W0.heap.size 70 2 (.slice p1 m.types.length m.types.length) m.types.length (m.types.flatMap TyV.row)) (k1 : Below W0.heap.size W0 w1)
    (o2 : Copied copyF FnV.row 3 33 m.funcs m.funcs.length w1 e2 w2)
    (o3 : w3.ownsRow w2.heap.size 62 2 (.slice p3 m.memory.length m.memory.length) m.memory.length (m.memory.flatMap MemV.row)) (k3 : Below w2.heap.size w2 w3)
    (o4 : w4.ownsRow w3.heap.size 60 3 (.slice p4 m.globals.length m.globals.length) m.globals.length (m.globals.flatMap GlobV.row)) (k4 : Below w3.heap.size w3 w4)
    (o5 : w5.ownsRow w4.heap.size 58 3 (.slice p5 m.exports.length m.exports.length) m.exports.length (m.exports.flatMap ExpV.row)) (k5 : Below w4.heap.size w4 w5)
    (o6 : w6.ownsRow w5.heap.size 49 2 (.slice p6 m.data.length m.data.length) m.data.length (m.data.flatMap DatV.row)) (k6 : Below w5.heap.size w5 w6) :
    ∃ (p2 : Option Addr) (f' : FnV) (bc : Nat), e2 = .returned (.slice p2 1 1) ∧ Own1 w6 W0.heap.size w1.heap.size bc w2.heap.size w3.heap.size w4.heap.size w5.heap.size w6.heap.size ⟨p1, m.types.length, m.types, p2, 1, [f'], p3, m.memory.length, m.memory, p4, m.globals.length, m.globals, p5, m.exports.length, m.exports, m.start, p6, m.data.length, m.data⟩ f' ∧
      Like m ⟨p1, m.types.length, m.types, p2, 1, [f'], p3, m.memory.length, m.memory, p4, m.globals.length, m.globals, p5, m.exports.length, m.exports, m.start, p6, m.data.length, m.data⟩ f f' ∧ Below w1.heap.size w1 w2 := by
  obtain ⟨p2, ys, e1, hl, ho, hel, hp, k2⟩ := o2
  rw [hm] at hl hel ho hp e1
  simp only [List.length_singleton] at hl ho hp e1
  match ys, hl with
  | [f'], _ =>
  obtain ⟨h1, h2, h3, B, h4, h5, h6, h7⟩ := hel 0 (by simp) (by simp)
  simp only [List.getElem_cons_zero] at h1 h2 h3 h5 h6 h7
  have hne' : f'.code ≠ [] := fun e => hne (List.eq_nil_of_length_eq_zero (by rw [← h3, e]; rfl))
  have hcp : f'.cp = some ⟨B, 0, none⟩ := by
    rcases h6 with h | ⟨_, h⟩
    · exact h
    · exact absurd h hne'
  have hp2 : p2 = some ⟨w1.heap.size, 0, none⟩ := by
    rcases hp with h | ⟨_, h⟩
    · exact h
    · cases h
  have hB2 : B < w2.heap.size := (h5.lt B (by rw [hcp]; rfl)).2
  have k26 : Below w2.heap.size w2 w6 := k3.trans ((k4.trans ((k5.trans (k6.mono k5.size)).mono k4.size)).mono k3.size)
  have k36 : Below w3.heap.size w3 w6 := k4.trans ((k5.trans (k6.mono k5.size)).mono k4.size)
  have k46 : Below w4.heap.size w4 w6 := k5.trans (k6.mono k5.size)
  have k16 : Below w1.heap.size w1 w6 := k2.trans (k26.mono k2.size)
  refine ⟨p2, f', B, e1, ⟨rfl, k1.size, h4, by omega, k3.size, k4.size, k5.size, k6.size, (InB.of_own o1).below k16, ?_, ?_, ?_, (InB.of_own o3).below k36, (InB.of_own o4).below k46, (InB.of_own o5).below k6, InB.of_own o6⟩, ⟨rfl, rfl, rfl, rfl, rfl, rfl, h1, h2, h3, fun j a b => ?_⟩, k2⟩
  · refine InB.below ⟨by simpa using ho, fun g hg => ?_⟩ k26
    rw [hp2] at hg; simp only [Value.ownBlock, Option.some.injEq] at hg; omega
  · refine InB.below ⟨h5, fun g hg => ?_⟩ k26
    rw [hcp] at hg; simp only [Value.ownBlock, Option.some.injEq] at hg; omega
  · intro x hx
    obtain ⟨j, hj, rfl⟩ := List.getElem_of_mem hx
    exact (InB.of_own (h7 j (by omega) hj).2.2.2.2).below k26
  · have := h7 j a b
    exact ⟨this.1, this.2.1, this.2.2.1, this.2.2.2.1⟩

set_option maxRecDepth 100000 in
set_option maxHeartbeats 8000000 in
theorem mod_copy (m : MoV) (f : FnV) (w : World) (h : OkMod w m f) :
    Calls Tryz.prog 22 #[m.val] w (Copy1 w m f) := by
  have hB := fun o o' => ((((Below.refl _ w).alloc (Nat.le_refl _) o).alloc (by simp) o').drew : Below w.heap.size w ((w.alloc o).alloc o').drew)
  have hS := fun o o' => (show w.heap.size + 1 < ((w.alloc o).alloc o').drew.heap.size by show _ < ((w.alloc _).alloc _).heap.size; simp)
  have c1 := fun W hW => copies_types h W hW
  have c2 := fun W hW => copies_funcs h W hW
  have c3 := fun W hW => copies_memory h W hW
  have c4 := fun W hW => copies_globals h W hW
  have c5 := fun W hW => copies_exports h W hW
  have c6 := fun W hW => copies_data h W hW
  have c2' := fun W hW => (c2 W hW).mono fun e w' hh => (show (∃ p2, e = .returned (.slice p2 1 1)) ∧ Copied copyF FnV.row 3 33 m.funcs m.funcs.length W e w' ∧ Below W.heap.size W w' from by
    obtain ⟨p2, ys, e1, a, b, c, d, k⟩ := id hh
    rw [h.one] at e1
    exact ⟨⟨p2, e1⟩, hh, k⟩)
  clear c2
  have HA := Lib.hid (show ∀ (W0 w1 w2 w3 w4 w5 w6 : World) (p1 p2 p3 p4 p5 p6 : Option Addr), w1.ownsRow W0.heap.size 70 2 (.slice p1 m.types.length m.types.length) m.types.length (m.types.flatMap TyV.row) → Below W0.heap.size W0 w1 → Copied copyF FnV.row 3 33 m.funcs m.funcs.length w1 (.returned (.slice p2 1 1)) w2 → w3.ownsRow w2.heap.size 62 2 (.slice p3 m.memory.length m.memory.length) m.memory.length (m.memory.flatMap MemV.row) → Below w2.heap.size w2 w3 → w4.ownsRow w3.heap.size 60 3 (.slice p4 m.globals.length m.globals.length) m.globals.length (m.globals.flatMap GlobV.row) → Below w3.heap.size w3 w4 → w5.ownsRow w4.heap.size 58 3 (.slice p5 m.exports.length m.exports.length) m.exports.length (m.exports.flatMap ExpV.row) → Below w4.heap.size w4 w5 → w6.ownsRow w5.heap.size 49 2 (.slice p6 m.data.length m.data.length) m.data.length (m.data.flatMap DatV.row) → Below w5.heap.size w5 w6 → w.heap.size + 1 < W0.heap.size → ∀ W' : World, W'.heap.size = w6.heap.size → (∀ b1 b2 bc b3 b4 b5 b6 b7 m' f', w.heap.size + 1 < b1 → Own1 w6 b1 b2 bc b3 b4 b5 b6 b7 m' f' → Own1 W' b1 b2 bc b3 b4 b5 b6 b7 m' f') → Below w.heap.size w W' →
      Copy1 w m f (.returned (.agg #[.slice p1 m.types.length m.types.length, .slice p2 1 1, .slice p3 m.memory.length m.memory.length, .slice p4 m.globals.length m.globals.length, .slice p5 m.exports.length m.exports.length, .int .i64 m.start, .slice p6 m.data.length m.data.length])) W' from
    fun W0 w1 w2 w3 w4 w5 w6 p1 p2 p3 p4 p5 p6 o1 k1 o2 o3 k3 o4 k4 o5 k5 o6 k6 hlt W' hsz hon hbl => by
      obtain ⟨q2, f', bc, he, hO, hL, _⟩ := copy_asm h.one h.some1 o1 k1 o2 o3 k3 o4 k4 o5 k5 o6 k6
      injection he with he
      injection he with he
      subst he
      exact ⟨_, f', _, _, bc, _, _, _, _, rfl, by omega, hsz ▸ hon _ _ _ _ _ _ _ _ _ _ hlt hO, hL, hbl⟩)
  have hfl : m.funcs.length = 1 := by rw [h.one]; rfl
  clear h
  obtain ⟨tp, tc, mt, fp, fc, mf, mp, mc, mm, gp, gc, mg, ep, ec, me, st, dp, dc, md⟩ := m
  simp only [MoV.val] at *
  obtain ⟨nt, hnt⟩ : ∃ n, mt.length = n := ⟨_, rfl⟩
  obtain ⟨nm, hnm⟩ : ∃ n, mm.length = n := ⟨_, rfl⟩
  obtain ⟨ng, hng⟩ : ∃ n, mg.length = n := ⟨_, rfl⟩
  obtain ⟨ne, hne⟩ : ∃ n, me.length = n := ⟨_, rfl⟩
  obtain ⟨nd, hnd⟩ : ∃ n, md.length = n := ⟨_, rfl⟩
  rw [hfl, hnt, hnm, hng, hne, hnd]
  rw [hnt] at c1
  rw [hfl] at c2'
  rw [hnm] at c3
  rw [hng] at c4
  rw [hne] at c5
  rw [hnd] at c6
  have HN := Lib.hid (And.intro hfl (And.intro hnt (And.intro hnm (And.intro hng (And.intro hne hnd)))))
  clear hfl hnt hnm hng hne hnd
  go_enter Tryz.func22, Tryz.ntmps22
  go_wp2
  go_region_held3 (fun W => W.cell? ⟨w.heap.size, 0, none⟩ = some (.slice tp nt tc) ∧ W.cell? ⟨w.heap.size, 1, none⟩ = some (.slice fp 1 fc) ∧ W.cell? ⟨w.heap.size, 2, none⟩ = some (.slice mp nm mc) ∧ W.cell? ⟨w.heap.size, 3, none⟩ = some (.slice gp ng gc) ∧ W.cell? ⟨w.heap.size, 4, none⟩ = some (.slice ep ne ec) ∧ W.cell? ⟨w.heap.size, 5, none⟩ = some (.int .i64 st) ∧ W.cell? ⟨w.heap.size, 6, none⟩ = some (.slice dp nd dc))
    (first | (with_reducible exact keepset_7 (by omega) (keepset_7 (by omega) (keepset_7 (by omega) (keepset_7 (by omega) (keepset_7 (by omega) (keepset_7 (by omega) (keepset_7 (by omega) (by assumption)))))))) | (with_reducible exact keep_7 k6 (by assumption)) | (with_reducible exact keep_7 k5 (by assumption)) | (with_reducible exact keep_7 k4 (by assumption)) | (with_reducible exact keep_7 k3 (by assumption)) | (with_reducible exact keep_7 k2 (by assumption)) | (with_reducible exact keep_7 k1 (by assumption)) | go_keep)
    (first
      | (go_at_call 72; refine (c1 _ (hB _ _)).mono ?_; rintro e w1 ⟨p1, rfl, o1, q1, k1⟩; have R1 := two_res k1; have K1 := bnext (hB _ _) (hB _ _).size k1; clear q1)
      | (go_at_call 75; refine (c2' _ K1).mono ?_; rintro e w2 ⟨⟨p2, rfl⟩, o2, k2⟩; have R2 := R1.below k2; have K2 := bnext K1 K1.size k2; clear R1)
      | (go_at_call 79; refine (c3 _ K2).mono ?_; rintro e w3 ⟨p3, rfl, o3, q3, k3⟩; have R3 := R2.below k3; have K3 := bnext K2 K2.size k3; clear R2 q3)
      | (go_at_call 81; refine (c4 _ K3).mono ?_; rintro e w4 ⟨p4, rfl, o4, q4, k4⟩; have R4 := R3.below k4; have K4 := bnext K3 K3.size k4; clear R3 q4)
      | (go_at_call 83; refine (c5 _ K4).mono ?_; rintro e w5 ⟨p5, rfl, o5, q5, k5⟩; have R5 := R4.below k5; have K5 := bnext K4 K4.size k5; clear R4 q5)
      | (go_at_call 85; refine (c6 _ K5).mono ?_; rintro e w6 ⟨p6, rfl, o6, q6, k6⟩; have R6 := R5.below k6; have K6 := bnext K5 K5.size k6; clear R5 q6; have HF := Lib.hid (HA.out _ w1 w2 w3 w4 w5 w6 p1 p2 p3 p4 p5 p6 (by simp only [HN.out]; exact o1) k1 (by rw [HN.out.1]; exact o2) (by simp only [HN.out]; exact o3) k3 (by simp only [HN.out]; exact o4) k4 (by simp only [HN.out]; exact o5) k5 (by simp only [HN.out]; exact o6) k6 (hS _ _)); have HK := Lib.hid K6; clear c1 c2' c3 c4 c5 c6 HA hB hS o1 o2 o3 o4 o5 o6 k1 k2 k3 k4 k5 K1 K2 K3 K4 K5 K6; have ⟨r0, r1, r2, r3, r4, r5, r6, f0, f1, f2, f3, f4, f5, f6⟩ := R6.cells; clear R6))
  all_goals
    clear f0 f1 f2 f3 f4 f5 f6
    go_wp2
    refine bodyPost_ret (v := .agg #[.slice p1 nt nt, .slice p2 1 1, .slice p3 nm nm, .slice p4 ng ng, .slice p5 ne ne, .int .i64 st, .slice p6 nd nd]) ?_ rfl ?_
    · rw [results_one_cell rfl]; go_simp
    · have hf := HF.out
      simp only [HN.out] at hf
      refine hf _ ?_ ?_ ?_
      · simp [World.setCell]
      · exact fun b1 b2 bc b3 b4 b5 b6 b7 m' f' hl h => (((((((h.on (cell_grown _ _ _ _) hl).on (cell_grown _ _ _ _) hl).on (cell_grown _ _ _ _) hl).on (cell_grown _ _ _ _) hl).on (cell_grown _ _ _ _) hl).on (cell_grown _ _ _ _) hl).on (cell_grown _ _ _ _) hl)
      · exact (((((((HK.out.setCell (by show w.heap.size ≤ w.heap.size + 1; omega) _).setCell (by show w.heap.size ≤ w.heap.size + 1; omega) _).setCell (by show w.heap.size ≤ w.heap.size + 1; omega) _).setCell (by show w.heap.size ≤ w.heap.size + 1; omega) _).setCell (by show w.heap.size ≤ w.heap.size + 1; omega) _).setCell (by show w.heap.size ≤ w.heap.size + 1; omega) _).setCell (by show w.heap.size ≤ w.heap.size + 1; omega) _)
end Go.Proofs.YtnonedmkdcbmfaaGreatDoor
