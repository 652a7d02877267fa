/-
  Facts and contracts that the proof calls.
-/
import Derived.Test.YtdinpakclmnacaaGreatDoorKfModLib
import Derived.Test.YtdinpakclmnacaaGreatDoorKfModRefSameF
import Derived.StillTailTactics
import Derived.Laws.EntriesVeiled
namespace Go.Proofs.YtdinpakclmnacaaGreatDoor
set_option maxRecDepth 100000
set_option maxHeartbeats 16000000
open Go.RowKit
def Says2 {α : Type} (g : Nat) (lb : Array Value) (val : α → Value) (ok : World → α → Prop) (p : α → α → Bool) (w0 : World) : Prop :=
  ∀ (x y : α) (w : World), Below w0.heap.size w0 w → ok w x → ok w y → Calls Tryz.prog g (#[val x, val y] ++ lb) w fun e w' => e = .returned (.bool (p x y)) ∧ Below w.heap.size w w'
def Int.row4 (n : Int) : List Value := [.int .i64 n]
def anyI (_ : World) (_ : Int) : Prop := True
theorem alike_TyV {g : Nat} {lb : Array Value} {q : TyV → TyV → Bool} {w0 : World} (h : Says2 g lb TyV.val anyTy q w0) (eg : ∀ args w, (callFunc g args).run Tryz.prog w = .ok (.enter g args) w) (p1 p2 : Option Addr) (n1 n2 cap1 cap2 : Nat) (l1 l2 : List TyV) (hn1 : l1.length = n1) (hn2 : l2.length = n2) (hm1 : n1 ≤ 281474976710656) (hm2 : n2 ≤ 281474976710656) (w : World) (hB0 : Below w0.heap.size w0 w) (hr1 : RowsAt w p1 2 TyV.row l1) (hr2 : RowsAt w p2 2 TyV.row l2) (hk1 : ∀ x ∈ l1, anyTy w x) (hk2 : ∀ x ∈ l2, anyTy w x) :
    Calls Tryz.prog 55 #[.slice p1 n1 cap1, .slice p2 n2 cap2, .func (.func g) #[] lb] w fun e w' => e = .returned (.bool (sameL q l1 l2)) ∧ Below w.heap.size w w' := by
  by_cases hne : n1 = n2
  case neg =>
    rw [sameL_len (by omega)]
    have hz : ((n1 : Int) != (n2 : Int)) = true := by simp; omega
    clear hne hr1 hr2 hk1 hk2 h
    go_enter Tryz.func55, Tryz.ntmps55
    go_wp2
    go_ret
    exact ⟨rfl, Below.refl _ _⟩
  subst hne
  obtain ⟨R, hR⟩ : ∃ R, R = sameL q l1 l2 := ⟨_, rfl⟩
  rw [← hR]
  have HR : Hid (R = sameL q (l1.drop 0) (l2.drop 0)) := Lib.hid hR
  have HN := Lib.hid (And.intro hn1 hn2)
  clear hR hn1 hn2
  go_enter Tryz.func55, Tryz.ntmps55
  go_wp2
  go_loopw [15] (fun i wr => ∃ k : Nat, k ≤ n1 ∧ i = .int .i64 k ∧ Below w.heap.size w wr ∧ Hid (R = sameL q (l1.drop k) (l2.drop k))) (fun i _ => n1 - (intOf i).toNat)
  case atStart => exact ⟨0, by omega, rfl, Below.refl _ _, HR⟩
  case round =>
    clear HR
    obtain ⟨k, hk, rfl, hB, HK⟩ := hrel
    by_cases hlt : k < n1
    · have hle : k < l1.length := by have := HN.out.1; omega
      have hlf : k < l2.length := by have := HN.out.2; omega
      have hrows1 := hr1.below hB (Nat.le_refl _)
      have hrows2 := hr2.below hB (Nat.le_refl _)
      obtain ⟨b1, o1, hp1, hb1, e0⟩ := hrows1 k hle 0 _ rfl
      obtain ⟨b2, o2, hp2, hb2, f0⟩ := hrows2 k hlf 0 _ rfl
      subst hp1 hp2
      have e1 := hrows1.cell hle 1 rfl
      have f1 := hrows2.cell hlf 1 rfl
      have hx : anyTy wr l1[k] ∧ anyTy wr l2[k] := ⟨hk1 _ (List.getElem_mem hle), hk2 _ (List.getElem_mem hlf)⟩
      have hD := HK.out
      rw [sameL_drop hle hlf] at hD
      generalize l1[k] = x at *
      generalize l2[k] = y at *
      have cq := fun (W : World) (hW : Below wr.heap.size wr W) (hx' : anyTy W x) (hy' : anyTy W y) => h x y W ((hB0.trans (hB.mono hB0.size)).trans (hW.mono (Nat.le_trans hB0.size hB.size))) hx' hy'
      generalize q x y = Y at cq hD
      have HD := Lib.hid hD
      have HX := Lib.hid hx
      clear hD hrows1 hrows2 hx h hr1 hr2 hk1 hk2
      obtain ⟨xp, xr⟩ := x
      obtain ⟨yp, yr⟩ := y
      simp only [Nat.add_zero, TyV.val] at e0 e1 f0 f1 cq
      cases Y with
      | false =>
        go_wp2
        go_still_tail 9, (by kernel_rfl)
        change wpList _ _ _ _ _ wr.drew
        go_wp2_with (go_at_fn g; refine (cq _ ?_ ?_ ?_).mono ?_; (exact (Below.refl wr.heap.size wr).drew); (exact HX.out.1); (exact HX.out.2); rintro e w1 ⟨rfl, hc1⟩)
        go_ret
        exact ⟨ret_bl4 (by have := HD.out; simpa using this), bnext hB.drew hB.size hc1⟩
      | true =>
        go_wp2
        go_still_tail 9, (by kernel_rfl)
        change wpList _ _ _ _ _ wr.drew
        go_wp2_with (go_at_fn g; refine (cq _ ?_ ?_ ?_).mono ?_; (exact (Below.refl wr.heap.size wr).drew); (exact HX.out.1); (exact HX.out.2); rintro e w1 ⟨rfl, hc1⟩)
        have hB2 := bnext hB.drew hB.size hc1
        go_roundw
        case rel => exact ⟨k + 1, by omega, by go_num, hB2, Lib.hid (by have := HD.out; simpa using this)⟩
        case measure => simp [intOf]; omega
    · have hD := HK.out
      rw [List.drop_eq_nil_of_le (by have := HN.out.1; omega), List.drop_eq_nil_of_le (by have := HN.out.2; omega)] at hD
      have HD := Lib.hid hD
      clear hD
      go_wp2
      go_ret
      exact ⟨ret_bl4 HD.out, hB⟩
theorem alike_MemV {g : Nat} {lb : Array Value} {q : MemV → MemV → Bool} {w0 : World} (h : Says2 g lb MemV.val anyMem q w0) (eg : ∀ args w, (callFunc g args).run Tryz.prog w = .ok (.enter g args) w) (p1 p2 : Option Addr) (n1 n2 cap1 cap2 : Nat) (l1 l2 : List MemV) (hn1 : l1.length = n1) (hn2 : l2.length = n2) (hm1 : n1 ≤ 281474976710656) (hm2 : n2 ≤ 281474976710656) (w : World) (hB0 : Below w0.heap.size w0 w) (hr1 : RowsAt w p1 2 MemV.row l1) (hr2 : RowsAt w p2 2 MemV.row l2) (hk1 : ∀ x ∈ l1, anyMem w x) (hk2 : ∀ x ∈ l2, anyMem w x) :
    Calls Tryz.prog 57 #[.slice p1 n1 cap1, .slice p2 n2 cap2, .func (.func g) #[] lb] w fun e w' => e = .returned (.bool (sameL q l1 l2)) ∧ Below w.heap.size w w' := by
  by_cases hne : n1 = n2
  case neg =>
    rw [sameL_len (by omega)]
    have hz : ((n1 : Int) != (n2 : Int)) = true := by simp; omega
    clear hne hr1 hr2 hk1 hk2 h
    go_enter Tryz.func57, Tryz.ntmps57
    go_wp2
    go_ret
    exact ⟨rfl, Below.refl _ _⟩
  subst hne
  obtain ⟨R, hR⟩ : ∃ R, R = sameL q l1 l2 := ⟨_, rfl⟩
  rw [← hR]
  have HR : Hid (R = sameL q (l1.drop 0) (l2.drop 0)) := Lib.hid hR
  have HN := Lib.hid (And.intro hn1 hn2)
  clear hR hn1 hn2
  go_enter Tryz.func57, Tryz.ntmps57
  go_wp2
  go_loopw [15] (fun i wr => ∃ k : Nat, k ≤ n1 ∧ i = .int .i64 k ∧ Below w.heap.size w wr ∧ Hid (R = sameL q (l1.drop k) (l2.drop k))) (fun i _ => n1 - (intOf i).toNat)
  case atStart => exact ⟨0, by omega, rfl, Below.refl _ _, HR⟩
  case round =>
    clear HR
    obtain ⟨k, hk, rfl, hB, HK⟩ := hrel
    by_cases hlt : k < n1
    · have hle : k < l1.length := by have := HN.out.1; omega
      have hlf : k < l2.length := by have := HN.out.2; omega
      have hrows1 := hr1.below hB (Nat.le_refl _)
      have hrows2 := hr2.below hB (Nat.le_refl _)
      obtain ⟨b1, o1, hp1, hb1, e0⟩ := hrows1 k hle 0 _ rfl
      obtain ⟨b2, o2, hp2, hb2, f0⟩ := hrows2 k hlf 0 _ rfl
      subst hp1 hp2
      have e1 := hrows1.cell hle 1 rfl
      have f1 := hrows2.cell hlf 1 rfl
      have hx : anyMem wr l1[k] ∧ anyMem wr l2[k] := ⟨hk1 _ (List.getElem_mem hle), hk2 _ (List.getElem_mem hlf)⟩
      have hD := HK.out
      rw [sameL_drop hle hlf] at hD
      generalize l1[k] = x at *
      generalize l2[k] = y at *
      have cq := fun (W : World) (hW : Below wr.heap.size wr W) (hx' : anyMem W x) (hy' : anyMem W y) => h x y W ((hB0.trans (hB.mono hB0.size)).trans (hW.mono (Nat.le_trans hB0.size hB.size))) hx' hy'
      generalize q x y = Y at cq hD
      have HD := Lib.hid hD
      have HX := Lib.hid hx
      clear hD hrows1 hrows2 hx h hr1 hr2 hk1 hk2
      obtain ⟨xn, xm⟩ := x
      obtain ⟨yn, ym⟩ := y
      simp only [Nat.add_zero, MemV.val] at e0 e1 f0 f1 cq
      cases Y with
      | false =>
        go_wp2
        go_still_tail 9, (by kernel_rfl)
        change wpList _ _ _ _ _ wr.drew
        go_wp2_with (go_at_fn g; refine (cq _ ?_ ?_ ?_).mono ?_; (exact (Below.refl wr.heap.size wr).drew); (exact HX.out.1); (exact HX.out.2); rintro e w1 ⟨rfl, hc1⟩)
        go_ret
        exact ⟨ret_bl4 (by have := HD.out; simpa using this), bnext hB.drew hB.size hc1⟩
      | true =>
        go_wp2
        go_still_tail 9, (by kernel_rfl)
        change wpList _ _ _ _ _ wr.drew
        go_wp2_with (go_at_fn g; refine (cq _ ?_ ?_ ?_).mono ?_; (exact (Below.refl wr.heap.size wr).drew); (exact HX.out.1); (exact HX.out.2); rintro e w1 ⟨rfl, hc1⟩)
        have hB2 := bnext hB.drew hB.size hc1
        go_roundw
        case rel => exact ⟨k + 1, by omega, by go_num, hB2, Lib.hid (by have := HD.out; simpa using this)⟩
        case measure => simp [intOf]; omega
    · have hD := HK.out
      rw [List.drop_eq_nil_of_le (by have := HN.out.1; omega), List.drop_eq_nil_of_le (by have := HN.out.2; omega)] at hD
      have HD := Lib.hid hD
      clear hD
      go_wp2
      go_ret
      exact ⟨ret_bl4 HD.out, hB⟩
theorem alike_GlobV {g : Nat} {lb : Array Value} {q : GlobV → GlobV → Bool} {w0 : World} (h : Says2 g lb GlobV.val anyGlob q w0) (eg : ∀ args w, (callFunc g args).run Tryz.prog w = .ok (.enter g args) w) (p1 p2 : Option Addr) (n1 n2 cap1 cap2 : Nat) (l1 l2 : List GlobV) (hn1 : l1.length = n1) (hn2 : l2.length = n2) (hm1 : n1 ≤ 281474976710656) (hm2 : n2 ≤ 281474976710656) (w : World) (hB0 : Below w0.heap.size w0 w) (hr1 : RowsAt w p1 3 GlobV.row l1) (hr2 : RowsAt w p2 3 GlobV.row l2) (hk1 : ∀ x ∈ l1, anyGlob w x) (hk2 : ∀ x ∈ l2, anyGlob w x) :
    Calls Tryz.prog 59 #[.slice p1 n1 cap1, .slice p2 n2 cap2, .func (.func g) #[] lb] w fun e w' => e = .returned (.bool (sameL q l1 l2)) ∧ Below w.heap.size w w' := by
  by_cases hne : n1 = n2
  case neg =>
    rw [sameL_len (by omega)]
    have hz : ((n1 : Int) != (n2 : Int)) = true := by simp; omega
    clear hne hr1 hr2 hk1 hk2 h
    go_enter Tryz.func59, Tryz.ntmps59
    go_wp2
    go_ret
    exact ⟨rfl, Below.refl _ _⟩
  subst hne
  obtain ⟨R, hR⟩ : ∃ R, R = sameL q l1 l2 := ⟨_, rfl⟩
  rw [← hR]
  have HR : Hid (R = sameL q (l1.drop 0) (l2.drop 0)) := Lib.hid hR
  have HN := Lib.hid (And.intro hn1 hn2)
  clear hR hn1 hn2
  go_enter Tryz.func59, Tryz.ntmps59
  go_wp2
  go_loopw [15] (fun i wr => ∃ k : Nat, k ≤ n1 ∧ i = .int .i64 k ∧ Below w.heap.size w wr ∧ Hid (R = sameL q (l1.drop k) (l2.drop k))) (fun i _ => n1 - (intOf i).toNat)
  case atStart => exact ⟨0, by omega, rfl, Below.refl _ _, HR⟩
  case round =>
    clear HR
    obtain ⟨k, hk, rfl, hB, HK⟩ := hrel
    by_cases hlt : k < n1
    · have hle : k < l1.length := by have := HN.out.1; omega
      have hlf : k < l2.length := by have := HN.out.2; omega
      have hrows1 := hr1.below hB (Nat.le_refl _)
      have hrows2 := hr2.below hB (Nat.le_refl _)
      obtain ⟨b1, o1, hp1, hb1, e0⟩ := hrows1 k hle 0 _ rfl
      obtain ⟨b2, o2, hp2, hb2, f0⟩ := hrows2 k hlf 0 _ rfl
      subst hp1 hp2
      have e1 := hrows1.cell hle 1 rfl
      have e2 := hrows1.cell hle 2 rfl
      have f1 := hrows2.cell hlf 1 rfl
      have f2 := hrows2.cell hlf 2 rfl
      have hx : anyGlob wr l1[k] ∧ anyGlob wr l2[k] := ⟨hk1 _ (List.getElem_mem hle), hk2 _ (List.getElem_mem hlf)⟩
      have hD := HK.out
      rw [sameL_drop hle hlf] at hD
      generalize l1[k] = x at *
      generalize l2[k] = y at *
      have cq := fun (W : World) (hW : Below wr.heap.size wr W) (hx' : anyGlob W x) (hy' : anyGlob W y) => h x y W ((hB0.trans (hB.mono hB0.size)).trans (hW.mono (Nat.le_trans hB0.size hB.size))) hx' hy'
      generalize q x y = Y at cq hD
      have HD := Lib.hid hD
      have HX := Lib.hid hx
      clear hD hrows1 hrows2 hx h hr1 hr2 hk1 hk2
      obtain ⟨xt, xb, xi⟩ := x
      obtain ⟨yt, yb, yi⟩ := y
      simp only [Nat.add_zero, GlobV.val] at e0 e1 e2 f0 f1 f2 cq
      cases Y with
      | false =>
        go_wp2
        go_still_tail 9, (by kernel_rfl)
        change wpList _ _ _ _ _ wr.drew
        go_wp2_with (go_at_fn g; refine (cq _ ?_ ?_ ?_).mono ?_; (exact (Below.refl wr.heap.size wr).drew); (exact HX.out.1); (exact HX.out.2); rintro e w1 ⟨rfl, hc1⟩)
        go_ret
        exact ⟨ret_bl4 (by have := HD.out; simpa using this), bnext hB.drew hB.size hc1⟩
      | true =>
        go_wp2
        go_still_tail 9, (by kernel_rfl)
        change wpList _ _ _ _ _ wr.drew
        go_wp2_with (go_at_fn g; refine (cq _ ?_ ?_ ?_).mono ?_; (exact (Below.refl wr.heap.size wr).drew); (exact HX.out.1); (exact HX.out.2); rintro e w1 ⟨rfl, hc1⟩)
        have hB2 := bnext hB.drew hB.size hc1
        go_roundw
        case rel => exact ⟨k + 1, by omega, by go_num, hB2, Lib.hid (by have := HD.out; simpa using this)⟩
        case measure => simp [intOf]; omega
    · have hD := HK.out
      rw [List.drop_eq_nil_of_le (by have := HN.out.1; omega), List.drop_eq_nil_of_le (by have := HN.out.2; omega)] at hD
      have HD := Lib.hid hD
      clear hD
      go_wp2
      go_ret
      exact ⟨ret_bl4 HD.out, hB⟩
theorem alike_ExpV {g : Nat} {lb : Array Value} {q : ExpV → ExpV → Bool} {w0 : World} (h : Says2 g lb ExpV.val anyExp q w0) (eg : ∀ args w, (callFunc g args).run Tryz.prog w = .ok (.enter g args) w) (p1 p2 : Option Addr) (n1 n2 cap1 cap2 : Nat) (l1 l2 : List ExpV) (hn1 : l1.length = n1) (hn2 : l2.length = n2) (hm1 : n1 ≤ 281474976710656) (hm2 : n2 ≤ 281474976710656) (w : World) (hB0 : Below w0.heap.size w0 w) (hr1 : RowsAt w p1 3 ExpV.row l1) (hr2 : RowsAt w p2 3 ExpV.row l2) (hk1 : ∀ x ∈ l1, anyExp w x) (hk2 : ∀ x ∈ l2, anyExp w x) :
    Calls Tryz.prog 61 #[.slice p1 n1 cap1, .slice p2 n2 cap2, .func (.func g) #[] lb] w fun e w' => e = .returned (.bool (sameL q l1 l2)) ∧ Below w.heap.size w w' := by
  by_cases hne : n1 = n2
  case neg =>
    rw [sameL_len (by omega)]
    have hz : ((n1 : Int) != (n2 : Int)) = true := by simp; omega
    clear hne hr1 hr2 hk1 hk2 h
    go_enter Tryz.func61, Tryz.ntmps61
    go_wp2
    go_ret
    exact ⟨rfl, Below.refl _ _⟩
  subst hne
  obtain ⟨R, hR⟩ : ∃ R, R = sameL q l1 l2 := ⟨_, rfl⟩
  rw [← hR]
  have HR : Hid (R = sameL q (l1.drop 0) (l2.drop 0)) := Lib.hid hR
  have HN := Lib.hid (And.intro hn1 hn2)
  clear hR hn1 hn2
  go_enter Tryz.func61, Tryz.ntmps61
  go_wp2
  go_loopw [15] (fun i wr => ∃ k : Nat, k ≤ n1 ∧ i = .int .i64 k ∧ Below w.heap.size w wr ∧ Hid (R = sameL q (l1.drop k) (l2.drop k))) (fun i _ => n1 - (intOf i).toNat)
  case atStart => exact ⟨0, by omega, rfl, Below.refl _ _, HR⟩
  case round =>
    clear HR
    obtain ⟨k, hk, rfl, hB, HK⟩ := hrel
    by_cases hlt : k < n1
    · have hle : k < l1.length := by have := HN.out.1; omega
      have hlf : k < l2.length := by have := HN.out.2; omega
      have hrows1 := hr1.below hB (Nat.le_refl _)
      have hrows2 := hr2.below hB (Nat.le_refl _)
      obtain ⟨b1, o1, hp1, hb1, e0⟩ := hrows1 k hle 0 _ rfl
      obtain ⟨b2, o2, hp2, hb2, f0⟩ := hrows2 k hlf 0 _ rfl
      subst hp1 hp2
      have e1 := hrows1.cell hle 1 rfl
      have e2 := hrows1.cell hle 2 rfl
      have f1 := hrows2.cell hlf 1 rfl
      have f2 := hrows2.cell hlf 2 rfl
      have hx : anyExp wr l1[k] ∧ anyExp wr l2[k] := ⟨hk1 _ (List.getElem_mem hle), hk2 _ (List.getElem_mem hlf)⟩
      have hD := HK.out
      rw [sameL_drop hle hlf] at hD
      generalize l1[k] = x at *
      generalize l2[k] = y at *
      have cq := fun (W : World) (hW : Below wr.heap.size wr W) (hx' : anyExp W x) (hy' : anyExp W y) => h x y W ((hB0.trans (hB.mono hB0.size)).trans (hW.mono (Nat.le_trans hB0.size hB.size))) hx' hy'
      generalize q x y = Y at cq hD
      have HD := Lib.hid hD
      have HX := Lib.hid hx
      clear hD hrows1 hrows2 hx h hr1 hr2 hk1 hk2
      obtain ⟨xn, xk, xi⟩ := x
      obtain ⟨yn, yk, yi⟩ := y
      simp only [Nat.add_zero, ExpV.val] at e0 e1 e2 f0 f1 f2 cq
      cases Y with
      | false =>
        go_wp2
        go_still_tail 9, (by kernel_rfl)
        change wpList _ _ _ _ _ wr.drew
        go_wp2_with (go_at_fn g; refine (cq _ ?_ ?_ ?_).mono ?_; (exact (Below.refl wr.heap.size wr).drew); (exact HX.out.1); (exact HX.out.2); rintro e w1 ⟨rfl, hc1⟩)
        go_ret
        exact ⟨ret_bl4 (by have := HD.out; simpa using this), bnext hB.drew hB.size hc1⟩
      | true =>
        go_wp2
        go_still_tail 9, (by kernel_rfl)
        change wpList _ _ _ _ _ wr.drew
        go_wp2_with (go_at_fn g; refine (cq _ ?_ ?_ ?_).mono ?_; (exact (Below.refl wr.heap.size wr).drew); (exact HX.out.1); (exact HX.out.2); rintro e w1 ⟨rfl, hc1⟩)
        have hB2 := bnext hB.drew hB.size hc1
        go_roundw
        case rel => exact ⟨k + 1, by omega, by go_num, hB2, Lib.hid (by have := HD.out; simpa using this)⟩
        case measure => simp [intOf]; omega
    · have hD := HK.out
      rw [List.drop_eq_nil_of_le (by have := HN.out.1; omega), List.drop_eq_nil_of_le (by have := HN.out.2; omega)] at hD
      have HD := Lib.hid hD
      clear hD
      go_wp2
      go_ret
      exact ⟨ret_bl4 HD.out, hB⟩
theorem alike_DatV {g : Nat} {lb : Array Value} {q : DatV → DatV → Bool} {w0 : World} (h : Says2 g lb DatV.val anyDat q w0) (eg : ∀ args w, (callFunc g args).run Tryz.prog w = .ok (.enter g args) w) (p1 p2 : Option Addr) (n1 n2 cap1 cap2 : Nat) (l1 l2 : List DatV) (hn1 : l1.length = n1) (hn2 : l2.length = n2) (hm1 : n1 ≤ 281474976710656) (hm2 : n2 ≤ 281474976710656) (w : World) (hB0 : Below w0.heap.size w0 w) (hr1 : RowsAt w p1 2 DatV.row l1) (hr2 : RowsAt w p2 2 DatV.row l2) (hk1 : ∀ x ∈ l1, anyDat w x) (hk2 : ∀ x ∈ l2, anyDat w x) :
    Calls Tryz.prog 63 #[.slice p1 n1 cap1, .slice p2 n2 cap2, .func (.func g) #[] lb] w fun e w' => e = .returned (.bool (sameL q l1 l2)) ∧ Below w.heap.size w w' := by
  by_cases hne : n1 = n2
  case neg =>
    rw [sameL_len (by omega)]
    have hz : ((n1 : Int) != (n2 : Int)) = true := by simp; omega
    clear hne hr1 hr2 hk1 hk2 h
    go_enter Tryz.func63, Tryz.ntmps63
    go_wp2
    go_ret
    exact ⟨rfl, Below.refl _ _⟩
  subst hne
  obtain ⟨R, hR⟩ : ∃ R, R = sameL q l1 l2 := ⟨_, rfl⟩
  rw [← hR]
  have HR : Hid (R = sameL q (l1.drop 0) (l2.drop 0)) := Lib.hid hR
  have HN := Lib.hid (And.intro hn1 hn2)
  clear hR hn1 hn2
  go_enter Tryz.func63, Tryz.ntmps63
  go_wp2
  go_loopw [15] (fun i wr => ∃ k : Nat, k ≤ n1 ∧ i = .int .i64 k ∧ Below w.heap.size w wr ∧ Hid (R = sameL q (l1.drop k) (l2.drop k))) (fun i _ => n1 - (intOf i).toNat)
  case atStart => exact ⟨0, by omega, rfl, Below.refl _ _, HR⟩
  case round =>
    clear HR
    obtain ⟨k, hk, rfl, hB, HK⟩ := hrel
    by_cases hlt : k < n1
    · have hle : k < l1.length := by have := HN.out.1; omega
      have hlf : k < l2.length := by have := HN.out.2; omega
      have hrows1 := hr1.below hB (Nat.le_refl _)
      have hrows2 := hr2.below hB (Nat.le_refl _)
      obtain ⟨b1, o1, hp1, hb1, e0⟩ := hrows1 k hle 0 _ rfl
      obtain ⟨b2, o2, hp2, hb2, f0⟩ := hrows2 k hlf 0 _ rfl
      subst hp1 hp2
      have e1 := hrows1.cell hle 1 rfl
      have f1 := hrows2.cell hlf 1 rfl
      have hx : anyDat wr l1[k] ∧ anyDat wr l2[k] := ⟨hk1 _ (List.getElem_mem hle), hk2 _ (List.getElem_mem hlf)⟩
      have hD := HK.out
      rw [sameL_drop hle hlf] at hD
      generalize l1[k] = x at *
      generalize l2[k] = y at *
      have cq := fun (W : World) (hW : Below wr.heap.size wr W) (hx' : anyDat W x) (hy' : anyDat W y) => h x y W ((hB0.trans (hB.mono hB0.size)).trans (hW.mono (Nat.le_trans hB0.size hB.size))) hx' hy'
      generalize q x y = Y at cq hD
      have HD := Lib.hid hD
      have HX := Lib.hid hx
      clear hD hrows1 hrows2 hx h hr1 hr2 hk1 hk2
      obtain ⟨xo, xb⟩ := x
      obtain ⟨yo, yb⟩ := y
      simp only [Nat.add_zero, DatV.val] at e0 e1 f0 f1 cq
      cases Y with
      | false =>
        go_wp2
        go_still_tail 9, (by kernel_rfl)
        change wpList _ _ _ _ _ wr.drew
        go_wp2_with (go_at_fn g; refine (cq _ ?_ ?_ ?_).mono ?_; (exact (Below.refl wr.heap.size wr).drew); (exact HX.out.1); (exact HX.out.2); rintro e w1 ⟨rfl, hc1⟩)
        go_ret
        exact ⟨ret_bl4 (by have := HD.out; simpa using this), bnext hB.drew hB.size hc1⟩
      | true =>
        go_wp2
        go_still_tail 9, (by kernel_rfl)
        change wpList _ _ _ _ _ wr.drew
        go_wp2_with (go_at_fn g; refine (cq _ ?_ ?_ ?_).mono ?_; (exact (Below.refl wr.heap.size wr).drew); (exact HX.out.1); (exact HX.out.2); rintro e w1 ⟨rfl, hc1⟩)
        have hB2 := bnext hB.drew hB.size hc1
        go_roundw
        case rel => exact ⟨k + 1, by omega, by go_num, hB2, Lib.hid (by have := HD.out; simpa using this)⟩
        case measure => simp [intOf]; omega
    · have hD := HK.out
      rw [List.drop_eq_nil_of_le (by have := HN.out.1; omega), List.drop_eq_nil_of_le (by have := HN.out.2; omega)] at hD
      have HD := Lib.hid hD
      clear hD
      go_wp2
      go_ret
      exact ⟨ret_bl4 HD.out, hB⟩
theorem alike_FnV {g : Nat} {lb : Array Value} {q : FnV → FnV → Bool} {w0 : World} (h : Says2 g lb FnV.val FnAt q w0) (eg : ∀ args w, (callFunc g args).run Tryz.prog w = .ok (.enter g args) w) (p1 p2 : Option Addr) (n1 n2 cap1 cap2 : Nat) (l1 l2 : List FnV) (hn1 : l1.length = n1) (hn2 : l2.length = n2) (hm1 : n1 ≤ 281474976710656) (hm2 : n2 ≤ 281474976710656) (w : World) (hB0 : Below w0.heap.size w0 w) (hr1 : RowsAt w p1 3 FnV.row l1) (hr2 : RowsAt w p2 3 FnV.row l2) (hk1 : ∀ w1, Below w.heap.size w w1 → ∀ x ∈ l1, FnAt w1 x) (hk2 : ∀ w1, Below w.heap.size w w1 → ∀ x ∈ l2, FnAt w1 x) :
    Calls Tryz.prog 65 #[.slice p1 n1 cap1, .slice p2 n2 cap2, .func (.func g) #[] lb] w fun e w' => e = .returned (.bool (sameL q l1 l2)) ∧ Below w.heap.size w w' := by
  by_cases hne : n1 = n2
  case neg =>
    rw [sameL_len (by omega)]
    have hz : ((n1 : Int) != (n2 : Int)) = true := by simp; omega
    clear hne hr1 hr2 hk1 hk2 h
    go_enter Tryz.func65, Tryz.ntmps65
    go_wp2
    go_ret
    exact ⟨rfl, Below.refl _ _⟩
  subst hne
  obtain ⟨R, hR⟩ : ∃ R, R = sameL q l1 l2 := ⟨_, rfl⟩
  rw [← hR]
  have HR : Hid (R = sameL q (l1.drop 0) (l2.drop 0)) := Lib.hid hR
  have HN := Lib.hid (And.intro hn1 hn2)
  clear hR hn1 hn2
  go_enter Tryz.func65, Tryz.ntmps65
  go_wp2
  go_loopw [15] (fun i wr => ∃ k : Nat, k ≤ n1 ∧ i = .int .i64 k ∧ Below w.heap.size w wr ∧ Hid (R = sameL q (l1.drop k) (l2.drop k))) (fun i _ => n1 - (intOf i).toNat)
  case atStart => exact ⟨0, by omega, rfl, Below.refl _ _, HR⟩
  case round =>
    clear HR
    obtain ⟨k, hk, rfl, hB, HK⟩ := hrel
    by_cases hlt : k < n1
    · have hle : k < l1.length := by have := HN.out.1; omega
      have hlf : k < l2.length := by have := HN.out.2; omega
      have hrows1 := hr1.below hB (Nat.le_refl _)
      have hrows2 := hr2.below hB (Nat.le_refl _)
      obtain ⟨b1, o1, hp1, hb1, e0⟩ := hrows1 k hle 0 _ rfl
      obtain ⟨b2, o2, hp2, hb2, f0⟩ := hrows2 k hlf 0 _ rfl
      subst hp1 hp2
      have e1 := hrows1.cell hle 1 rfl
      have e2 := hrows1.cell hle 2 rfl
      have f1 := hrows2.cell hlf 1 rfl
      have f2 := hrows2.cell hlf 2 rfl
      have hx : FnAt wr l1[k] ∧ FnAt wr l2[k] := ⟨hk1 wr hB _ (List.getElem_mem hle), hk2 wr hB _ (List.getElem_mem hlf)⟩
      have hD := HK.out
      rw [sameL_drop hle hlf] at hD
      generalize l1[k] = x at *
      generalize l2[k] = y at *
      have cq := fun (W : World) (hW : Below wr.heap.size wr W) (hx' : FnAt W x) (hy' : FnAt W y) => h x y W ((hB0.trans (hB.mono hB0.size)).trans (hW.mono (Nat.le_trans hB0.size hB.size))) hx' hy'
      generalize q x y = Y at cq hD
      have HD := Lib.hid hD
      have HX := Lib.hid hx
      clear hD hrows1 hrows2 hx h hr1 hr2 hk1 hk2
      obtain ⟨xt, xl, xp, xc, xk⟩ := x
      obtain ⟨yt, yl, yp, yc, yk⟩ := y
      simp only [Nat.add_zero, FnV.val] at e0 e1 e2 f0 f1 f2 cq
      generalize xk.length = nx at e2 cq
      generalize yk.length = ny at f2 cq
      cases Y with
      | false =>
        go_wp2
        go_still_tail 9, (by kernel_rfl)
        change wpList _ _ _ _ _ wr.drew
        go_wp2_with (go_at_fn g; refine (cq _ ?_ ?_ ?_).mono ?_; (exact (Below.refl wr.heap.size wr).drew); (exact HX.out.1.below ((Below.refl wr.heap.size wr).drew) (Nat.le_refl _)); (exact HX.out.2.below ((Below.refl wr.heap.size wr).drew) (Nat.le_refl _)); rintro e w1 ⟨rfl, hc1⟩)
        go_ret
        exact ⟨ret_bl4 (by have := HD.out; simpa using this), bnext hB.drew hB.size hc1⟩
      | true =>
        go_wp2
        go_still_tail 9, (by kernel_rfl)
        change wpList _ _ _ _ _ wr.drew
        go_wp2_with (go_at_fn g; refine (cq _ ?_ ?_ ?_).mono ?_; (exact (Below.refl wr.heap.size wr).drew); (exact HX.out.1.below ((Below.refl wr.heap.size wr).drew) (Nat.le_refl _)); (exact HX.out.2.below ((Below.refl wr.heap.size wr).drew) (Nat.le_refl _)); rintro e w1 ⟨rfl, hc1⟩)
        have hB2 := bnext hB.drew hB.size hc1
        go_roundw
        case rel => exact ⟨k + 1, by omega, by go_num, hB2, Lib.hid (by have := HD.out; simpa using this)⟩
        case measure => simp [intOf]; omega
    · have hD := HK.out
      rw [List.drop_eq_nil_of_le (by have := HN.out.1; omega), List.drop_eq_nil_of_le (by have := HN.out.2; omega)] at hD
      have HD := Lib.hid hD
      clear hD
      go_wp2
      go_ret
      exact ⟨ret_bl4 HD.out, hB⟩
theorem alike_InsV {g : Nat} {lb : Array Value} {q : InsV → InsV → Bool} {w0 : World} (h : Says2 g lb InsV.val InsAt q w0) (eg : ∀ args w, (callFunc g args).run Tryz.prog w = .ok (.enter g args) w) (p1 p2 : Option Addr) (n1 n2 cap1 cap2 : Nat) (l1 l2 : List InsV) (hn1 : l1.length = n1) (hn2 : l2.length = n2) (hm1 : n1 ≤ 281474976710656) (hm2 : n2 ≤ 281474976710656) (w : World) (hB0 : Below w0.heap.size w0 w) (hr1 : RowsAt w p1 4 InsV.row l1) (hr2 : RowsAt w p2 4 InsV.row l2) (hk1 : ∀ w1, Below w.heap.size w w1 → ∀ x ∈ l1, InsAt w1 x) (hk2 : ∀ w1, Below w.heap.size w w1 → ∀ x ∈ l2, InsAt w1 x) :
    Calls Tryz.prog 67 #[.slice p1 n1 cap1, .slice p2 n2 cap2, .func (.func g) #[] lb] w fun e w' => e = .returned (.bool (sameL q l1 l2)) ∧ Below w.heap.size w w' := by
  by_cases hne : n1 = n2
  case neg =>
    rw [sameL_len (by omega)]
    have hz : ((n1 : Int) != (n2 : Int)) = true := by simp; omega
    clear hne hr1 hr2 hk1 hk2 h
    go_enter Tryz.func67, Tryz.ntmps67
    go_wp2
    go_ret
    exact ⟨rfl, Below.refl _ _⟩
  subst hne
  obtain ⟨R, hR⟩ : ∃ R, R = sameL q l1 l2 := ⟨_, rfl⟩
  rw [← hR]
  have HR : Hid (R = sameL q (l1.drop 0) (l2.drop 0)) := Lib.hid hR
  have HN := Lib.hid (And.intro hn1 hn2)
  clear hR hn1 hn2
  go_enter Tryz.func67, Tryz.ntmps67
  go_wp2
  go_loopw [15] (fun i wr => ∃ k : Nat, k ≤ n1 ∧ i = .int .i64 k ∧ Below w.heap.size w wr ∧ Hid (R = sameL q (l1.drop k) (l2.drop k))) (fun i _ => n1 - (intOf i).toNat)
  case atStart => exact ⟨0, by omega, rfl, Below.refl _ _, HR⟩
  case round =>
    clear HR
    obtain ⟨k, hk, rfl, hB, HK⟩ := hrel
    by_cases hlt : k < n1
    · have hle : k < l1.length := by have := HN.out.1; omega
      have hlf : k < l2.length := by have := HN.out.2; omega
      have hrows1 := hr1.below hB (Nat.le_refl _)
      have hrows2 := hr2.below hB (Nat.le_refl _)
      obtain ⟨b1, o1, hp1, hb1, e0⟩ := hrows1 k hle 0 _ rfl
      obtain ⟨b2, o2, hp2, hb2, f0⟩ := hrows2 k hlf 0 _ rfl
      subst hp1 hp2
      have e1 := hrows1.cell hle 1 rfl
      have e2 := hrows1.cell hle 2 rfl
      have e3 := hrows1.cell hle 3 rfl
      have f1 := hrows2.cell hlf 1 rfl
      have f2 := hrows2.cell hlf 2 rfl
      have f3 := hrows2.cell hlf 3 rfl
      have hx : InsAt wr l1[k] ∧ InsAt wr l2[k] := ⟨hk1 wr hB _ (List.getElem_mem hle), hk2 wr hB _ (List.getElem_mem hlf)⟩
      have hD := HK.out
      rw [sameL_drop hle hlf] at hD
      generalize l1[k] = x at *
      generalize l2[k] = y at *
      have cq := fun (W : World) (hW : Below wr.heap.size wr W) (hx' : InsAt W x) (hy' : InsAt W y) => h x y W ((hB0.trans (hB.mono hB0.size)).trans (hW.mono (Nat.le_trans hB0.size hB.size))) hx' hy'
      generalize q x y = Y at cq hD
      have HD := Lib.hid hD
      have HX := Lib.hid hx
      clear hD hrows1 hrows2 hx h hr1 hr2 hk1 hk2
      obtain ⟨xo, xa, xb, xp, xc, xl⟩ := x
      obtain ⟨yo, ya, yb, yp, yc, yl⟩ := y
      simp only [Nat.add_zero, InsV.val] at e0 e1 e2 e3 f0 f1 f2 f3 cq
      generalize xl.length = nx at e3 cq
      generalize yl.length = ny at f3 cq
      cases Y with
      | false =>
        go_wp2
        go_still_tail 9, (by kernel_rfl)
        change wpList _ _ _ _ _ wr.drew
        go_wp2_with (go_at_fn g; refine (cq _ ?_ ?_ ?_).mono ?_; (exact (Below.refl wr.heap.size wr).drew); (exact HX.out.1.below ((Below.refl wr.heap.size wr).drew) (Nat.le_refl _)); (exact HX.out.2.below ((Below.refl wr.heap.size wr).drew) (Nat.le_refl _)); rintro e w1 ⟨rfl, hc1⟩)
        go_ret
        exact ⟨ret_bl4 (by have := HD.out; simpa using this), bnext hB.drew hB.size hc1⟩
      | true =>
        go_wp2
        go_still_tail 9, (by kernel_rfl)
        change wpList _ _ _ _ _ wr.drew
        go_wp2_with (go_at_fn g; refine (cq _ ?_ ?_ ?_).mono ?_; (exact (Below.refl wr.heap.size wr).drew); (exact HX.out.1.below ((Below.refl wr.heap.size wr).drew) (Nat.le_refl _)); (exact HX.out.2.below ((Below.refl wr.heap.size wr).drew) (Nat.le_refl _)); rintro e w1 ⟨rfl, hc1⟩)
        have hB2 := bnext hB.drew hB.size hc1
        go_roundw
        case rel => exact ⟨k + 1, by omega, by go_num, hB2, Lib.hid (by have := HD.out; simpa using this)⟩
        case measure => simp [intOf]; omega
    · have hD := HK.out
      rw [List.drop_eq_nil_of_le (by have := HN.out.1; omega), List.drop_eq_nil_of_le (by have := HN.out.2; omega)] at hD
      have HD := Lib.hid hD
      clear hD
      go_wp2
      go_ret
      exact ⟨ret_bl4 HD.out, hB⟩
theorem alike_Int {g : Nat} {lb : Array Value} {q : Int → Int → Bool} {w0 : World} (h : Says2 g lb (.int .i64) anyI q w0) (eg : ∀ args w, (callFunc g args).run Tryz.prog w = .ok (.enter g args) w) (p1 p2 : Option Addr) (n1 n2 cap1 cap2 : Nat) (l1 l2 : List Int) (hn1 : l1.length = n1) (hn2 : l2.length = n2) (hm1 : n1 ≤ 281474976710656) (hm2 : n2 ≤ 281474976710656) (w : World) (hB0 : Below w0.heap.size w0 w) (hr1 : RowsAt w p1 1 Int.row4 l1) (hr2 : RowsAt w p2 1 Int.row4 l2) (hk1 : ∀ x ∈ l1, anyI w x) (hk2 : ∀ x ∈ l2, anyI w x) :
    Calls Tryz.prog 149 #[.slice p1 n1 cap1, .slice p2 n2 cap2, .func (.func g) #[] lb] w fun e w' => e = .returned (.bool (sameL q l1 l2)) ∧ Below w.heap.size w w' := by
  by_cases hne : n1 = n2
  case neg =>
    rw [sameL_len (by omega)]
    have hz : ((n1 : Int) != (n2 : Int)) = true := by simp; omega
    clear hne hr1 hr2 hk1 hk2 h
    go_enter Tryz.func149, Tryz.ntmps149
    go_wp2
    go_ret
    exact ⟨rfl, Below.refl _ _⟩
  subst hne
  obtain ⟨R, hR⟩ : ∃ R, R = sameL q l1 l2 := ⟨_, rfl⟩
  rw [← hR]
  have HR : Hid (R = sameL q (l1.drop 0) (l2.drop 0)) := Lib.hid hR
  have HN := Lib.hid (And.intro hn1 hn2)
  clear hR hn1 hn2
  go_enter Tryz.func149, Tryz.ntmps149
  go_wp2
  go_loopw [15] (fun i wr => ∃ k : Nat, k ≤ n1 ∧ i = .int .i64 k ∧ Below w.heap.size w wr ∧ Hid (R = sameL q (l1.drop k) (l2.drop k))) (fun i _ => n1 - (intOf i).toNat)
  case atStart => exact ⟨0, by omega, rfl, Below.refl _ _, HR⟩
  case round =>
    clear HR
    obtain ⟨k, hk, rfl, hB, HK⟩ := hrel
    by_cases hlt : k < n1
    · have hle : k < l1.length := by have := HN.out.1; omega
      have hlf : k < l2.length := by have := HN.out.2; omega
      have hrows1 := hr1.below hB (Nat.le_refl _)
      have hrows2 := hr2.below hB (Nat.le_refl _)
      obtain ⟨b1, o1, hp1, hb1, e0⟩ := hrows1 k hle 0 _ rfl
      obtain ⟨b2, o2, hp2, hb2, f0⟩ := hrows2 k hlf 0 _ rfl
      subst hp1 hp2
      have hx : anyI wr l1[k] ∧ anyI wr l2[k] := ⟨hk1 _ (List.getElem_mem hle), hk2 _ (List.getElem_mem hlf)⟩
      have hD := HK.out
      rw [sameL_drop hle hlf] at hD
      generalize l1[k] = x at *
      generalize l2[k] = y at *
      have cq := fun (W : World) (hW : Below wr.heap.size wr W) (hx' : anyI W x) (hy' : anyI W y) => h x y W ((hB0.trans (hB.mono hB0.size)).trans (hW.mono (Nat.le_trans hB0.size hB.size))) hx' hy'
      generalize q x y = Y at cq hD
      have HD := Lib.hid hD
      have HX := Lib.hid hx
      clear hD hrows1 hrows2 hx h hr1 hr2 hk1 hk2
      simp only [Nat.add_zero, Nat.mul_one] at e0 f0 cq
      cases Y with
      | false =>
        go_wp2
        go_still_tail 9, (by kernel_rfl)
        change wpList _ _ _ _ _ wr.drew
        go_wp2_with (go_at_fn g; refine (cq _ ?_ ?_ ?_).mono ?_; (exact (Below.refl wr.heap.size wr).drew); (exact HX.out.1); (exact HX.out.2); rintro e w1 ⟨rfl, hc1⟩)
        go_ret
        exact ⟨ret_bl4 (by have := HD.out; simpa using this), bnext hB.drew hB.size hc1⟩
      | true =>
        go_wp2
        go_still_tail 9, (by kernel_rfl)
        change wpList _ _ _ _ _ wr.drew
        go_wp2_with (go_at_fn g; refine (cq _ ?_ ?_ ?_).mono ?_; (exact (Below.refl wr.heap.size wr).drew); (exact HX.out.1); (exact HX.out.2); rintro e w1 ⟨rfl, hc1⟩)
        have hB2 := bnext hB.drew hB.size hc1
        go_roundw
        case rel => exact ⟨k + 1, by omega, by go_num, hB2, Lib.hid (by have := HD.out; simpa using this)⟩
        case measure => simp [intOf]; omega
    · have hD := HK.out
      rw [List.drop_eq_nil_of_le (by have := HN.out.1; omega), List.drop_eq_nil_of_le (by have := HN.out.2; omega)] at hD
      have HD := Lib.hid hD
      clear hD
      go_wp2
      go_ret
      exact ⟨ret_bl4 HD.out, hB⟩
end Go.Proofs.YtdinpakclmnacaaGreatDoor
