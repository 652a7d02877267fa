/-
  Which functions are the same, by the document's own answer (chapter 4): walked. A contract that the proofs call; no statement is proved here.
-/
import Derived.Test.YtnonedmkdcbmfaaGreatDoorZModRefSameI
import Derived.Deep.RegionWith
namespace Go.Proofs.YtnonedmkdcbmfaaGreatDoor
open Go.RowKit

/-- Two triples, as they were laid, behind whatever follows. -/
theorem boxed23 {w w1 : World} {a b c a' b' c' : Value} {t : TypeId} (hB : Below (w.heap.size + 1 + 1) ((w.alloc (.cells #[a, b, c] t)).alloc (.cells #[a', b', c'] t)) w1) :
    w1.cell? ⟨w.heap.size, 0, none⟩ = some a ∧ w1.cell? ⟨w.heap.size, 1, none⟩ = some b ∧ w1.cell? ⟨w.heap.size, 2, none⟩ = some c ∧
    w1.cell? ⟨w.heap.size + 1, 0, none⟩ = some a' ∧ w1.cell? ⟨w.heap.size + 1, 1, none⟩ = some b' ∧ w1.cell? ⟨w.heap.size + 1, 2, none⟩ = some c' := by
  have h : ∀ j, w1.cell? ⟨w.heap.size, j, none⟩ = #[a, b, c][j]? := fun j => by
    rw [hB.cell (p := ⟨w.heap.size, j, none⟩) (by show w.heap.size < _; omega), World.cell?_alloc_lt _ _ _ (by simp), World.cell?_alloc_new]
  have g : ∀ j, w1.cell? ⟨w.heap.size + 1, j, none⟩ = #[a', b', c'][j]? := fun j => by
    rw [hB.cell (p := ⟨w.heap.size + 1, j, none⟩) (by show w.heap.size + 1 < _; omega), show w.heap.size + 1 = (w.alloc (.cells #[a, b, c] t)).heap.size by simp, World.cell?_alloc_new]
  exact ⟨h 0, h 1, h 2, g 0, g 1, g 2⟩
theorem sameCode_drop {l m : List InsV} {k : Nat} (h1 : k < l.length) (h2 : k < m.length) : sameCode (l.drop k) (m.drop k) = (sameIns l[k] m[k] && sameCode (l.drop (k + 1)) (m.drop (k + 1))) := by
  rw [List.drop_eq_getElem_cons h1, List.drop_eq_getElem_cons h2, sameCode]
theorem sameCode_len : ∀ {l m : List InsV}, l.length ≠ m.length → sameCode l m = false
  | [], [], h => absurd rfl h
  | [], _ :: _, _ => rfl
  | _ :: _, [], _ => rfl
  | x :: l, y :: m, h => by rw [sameCode, sameCode_len (fun e => h (by simp [e])), Bool.and_false]

set_option maxRecDepth 100000 in
set_option maxHeartbeats 4000000 in
theorem ref_sameFn_ne (x y : FnV) (h : ¬ (x.type = y.type ∧ x.locals = y.locals ∧ x.code.length = y.code.length)) (w : World) :
    Calls Tryz.prog 67 #[x.val, y.val] w fun e w' => e = .returned (.bool false) ∧ Below w.heap.size w w' := by
  obtain ⟨xt, xl, xp, xc, xs⟩ := x
  obtain ⟨yt, yl, yp, yc, ys⟩ := y
  simp only [FnV.val] at *
  generalize xs.length = n at *
  generalize ys.length = m at *
  have hB := (((Below.refl w.heap.size w).alloc (Nat.le_refl _) (.cells #[.int .i64 xt, .string xl, .slice xp n xc] 33)).alloc (by simp) (.cells #[.int .i64 yt, .string yl, .slice yp m yc] 33))
  by_cases h1 : xt = yt
  · subst h1
    by_cases h2 : xl = yl
    · subst h2
      have n4 : ((n : Int) != (m : Int)) = true := by have : n ≠ m := fun e => h ⟨rfl, rfl, e⟩; simp; omega
      clear h
      go_enter Tryz.func67, Tryz.ntmps67
      go_wp2
      go_ret
      exact ⟨rfl, hB⟩
    · have n3 : (xl.toList == yl.toList) = false := name_ne h2
      clear h
      go_enter Tryz.func67, Tryz.ntmps67
      go_wp2
      go_ret
      exact ⟨rfl, hB⟩
  · have n1 : (xt != yt) = true := by simpa using h1
    clear h
    go_enter Tryz.func67, Tryz.ntmps67
    go_wp2
    go_ret
    exact ⟨rfl, hB⟩

set_option maxRecDepth 100000 in
set_option maxHeartbeats 8000000 in
theorem ref_sameFn_eq (ty : Int) (loc : ByteArray) (xp yp : Option Addr) (xc yc n : Nat) (xs ys : List InsV) (hx : xs.length = n) (hy : ys.length = n) (hn : n ≤ 4398046511104) (w : World) (hX : CodeAt w xp xs) (hY : CodeAt w yp ys) :
    Calls Tryz.prog 67 #[.agg #[.int .i64 ty, .string loc, .slice xp n xc], .agg #[.int .i64 ty, .string loc, .slice yp n yc]] w fun e w' => e = .returned (.bool (sameCode xs ys)) ∧ Below w.heap.size w w' := by
  have hB0 := (((Below.refl w.heap.size w).alloc (Nat.le_refl _) (.cells #[.int .i64 ty, .string loc, .slice xp n xc] 33)).alloc (by simp) (.cells #[.int .i64 ty, .string loc, .slice yp n yc] 33))
  have hB := Below.refl (w.heap.size + 1 + 1) ((w.alloc (.cells #[.int .i64 ty, .string loc, .slice xp n xc] 33)).alloc (.cells #[.int .i64 ty, .string loc, .slice yp n yc] 33))
  have hs0 : w.heap.size + 1 + 1 ≤ ((w.alloc (.cells #[.int .i64 ty, .string loc, .slice xp n xc] 33)).alloc (.cells #[.int .i64 ty, .string loc, .slice yp n yc] 33)).heap.size := by simp
  obtain ⟨R, hR⟩ : ∃ R, R = sameCode xs ys := ⟨_, rfl⟩
  rw [← hR]
  have HR := Lib.hid hR
  have HN := Lib.hid (And.intro hx hy)
  clear hR hx hy
  go_enter Tryz.func67, Tryz.ntmps67
  go_wp2
  go_loopw [5] (fun i wr => ∃ k : Nat, k ≤ n ∧ i = .int .i64 k ∧ Below (w.heap.size + 1 + 1) ((w.alloc (.cells #[.int .i64 ty, .string loc, .slice xp n xc] 33)).alloc (.cells #[.int .i64 ty, .string loc, .slice yp n yc] 33)) wr ∧ w.heap.size + 1 + 1 ≤ wr.heap.size ∧ Hid (R = sameCode (xs.drop k) (ys.drop k))) (fun i _ => n - (intOf i).toNat)
  case atStart => exact ⟨0, by omega, rfl, hB, hs0, HR⟩
  case round =>
    clear HR hB hs0
    obtain ⟨k, hk, rfl, hB, hs, HK⟩ := hrel
    have hBw := hB0.trans (hB.mono (by omega))
    obtain ⟨_, _, q2, _, _, s2⟩ := boxed23 hB
    by_cases hlt : k < n
    · have h1 : k < xs.length := by have := HN.out; omega
      have h2 : k < ys.length := by have := HN.out; omega
      obtain ⟨hrX, hiX, _⟩ := hX.below hBw (Nat.le_refl _)
      obtain ⟨hrY, hiY, _⟩ := hY.below hBw (Nat.le_refl _)
      obtain ⟨b1, o1, e1, hb1, x0⟩ := hrX k h1 0 _ rfl
      obtain ⟨b2, o2, e2, hb2, y0⟩ := hrY k h2 0 _ rfl
      subst e1 e2
      have x1 := hrX.cell h1 1 rfl
      have x2 := hrX.cell h1 2 rfl
      have x3 := hrX.cell h1 3 rfl
      have y1 := hrY.cell h2 1 rfl
      have y2 := hrY.cell h2 2 rfl
      have y3 := hrY.cell h2 3 rfl
      have hx := hiX _ (List.getElem_mem h1)
      have hy := hiY _ (List.getElem_mem h2)
      have hD := HK.out
      rw [sameCode_drop h1 h2] at hD
      clear hX hY hrX hrY hiX hiY
      generalize xs[k] = x at *
      generalize ys[k] = y at *
      have cs := fun W (hW : Below wr.heap.size wr W) => ref_sameIns x y W (hx.below hW (Nat.le_refl _)) (hy.below hW (Nat.le_refl _))
      generalize sameIns x y = S at *
      have HD := Lib.hid hD
      clear hD hx hy
      obtain ⟨xo, xa, xb, xlp, xlc, xll⟩ := x
      obtain ⟨yo, ya, yb, ylp, ylc, yll⟩ := y
      simp only [Nat.add_zero, InsV.val] at x0 x1 x2 x3 y0 y1 y2 y3 cs
      generalize xll.length = nx at *
      generalize yll.length = ny at *
      cases S
      · go_wp2_with fail
        go_region_with (go_at_call 110; refine (cs _ ?_).mono ?_; (first | exact (Below.refl _ _).drew | exact Below.refl _ _); rintro e w1 ⟨rfl, hb1⟩)
        all_goals go_wp2
        all_goals go_ret
        all_goals exact ⟨ret_bool (by have := HD.out; simpa using this), hBw.drew.trans (hb1.mono (by show _ ≤ wr.heap.size; omega))⟩
      · go_wp2_with fail
        go_region_with (go_at_call 110; refine (cs _ ?_).mono ?_; (first | exact (Below.refl _ _).drew | exact Below.refl _ _); rintro e w1 ⟨rfl, hb1⟩)
        all_goals
          have hB2 := hB.drew.trans (hb1.mono (by show _ ≤ wr.heap.size; omega))
          have hs2 : w.heap.size + 1 + 1 ≤ w1.heap.size := Nat.le_trans hs hb1.size
          clear hB hs hb1 q2 s2 x0 x1 x2 x3 y0 y1 y2 y3 cs
          go_wp2
          go_roundw
          case rel => exact ⟨k + 1, by omega, by go_num, hB2, hs2, Lib.hid (by have := HD.out; simpa using this)⟩
          case measure => simp [intOf]; omega
    · have HD := Lib.hid (show R = true by rw [HK.out, List.drop_eq_nil_of_le (by have := HN.out; omega), List.drop_eq_nil_of_le (by have := HN.out; omega)]; rfl)
      go_wp2
      go_ret
      exact ⟨ret_bool HD.out, hBw⟩

/-- Two functions are the same just if their types, their locals and their codes are. -/
theorem ref_sameFn (x y : FnV) (w : World) (hX : FnAt w x) (hY : FnAt w y) :
    Calls Tryz.prog 67 #[x.val, y.val] w fun e w' => e = .returned (.bool (sameFn x y)) ∧ Below w.heap.size w w' := by
  by_cases h : x.type = y.type ∧ x.locals = y.locals ∧ x.code.length = y.code.length
  · have c := ref_sameFn_eq x.type x.locals x.cp y.cp x.cc y.cc x.code.length x.code y.code rfl h.2.2.symm hX.1.2.2 w hX.1 hY.1
    have e : y.val = .agg #[.int .i64 x.type, .string x.locals, .slice y.cp x.code.length y.cc] := by simp only [FnV.val]; rw [h.1, h.2.1, h.2.2]
    rw [e]
    have e2 : sameFn x y = sameCode x.code y.code := by unfold sameFn; simp [h.1, h.2.1]
    rw [e2]
    exact c
  · have c := ref_sameFn_ne x y h w
    have e2 : sameFn x y = false := by
      unfold sameFn
      by_cases h1 : x.type = y.type ∧ x.locals = y.locals
      · rw [sameCode_len (fun e => h ⟨h1.1, h1.2, e⟩), Bool.and_false]
      · rw [decide_eq_false h1, Bool.false_and]
    rw [e2]
    exact c
end Go.Proofs.YtnonedmkdcbmfaaGreatDoor

/-
  Which modules are the same (chapter 4), on Lean's own lists; and two modules' cells, as they were laid. No program is looked at.
-/
namespace Go.Proofs.YtnonedmkdcbmfaaGreatDoor
open Go.RowKit

def sameL {α : Type} (p : α → α → Bool) : List α → List α → Bool
  | [], [] => true
  | x :: l, y :: m => p x y && sameL p l m
  | _, _ => false
theorem sameL_drop {α : Type} {p : α → α → Bool} {l m : List α} {k : Nat} (h1 : k < l.length) (h2 : k < m.length) : sameL p (l.drop k) (m.drop k) = (p l[k] m[k] && sameL p (l.drop (k + 1)) (m.drop (k + 1))) := by
  rw [List.drop_eq_getElem_cons h1, List.drop_eq_getElem_cons h2, sameL]
theorem sameL_len {α : Type} {p : α → α → Bool} : ∀ {l m : List α}, l.length ≠ m.length → sameL p l m = false
  | [], [], h => absurd rfl h
  | [], _ :: _, _ => rfl
  | _ :: _, [], _ => rfl
  | x :: l, y :: m, h => by rw [sameL, sameL_len (fun e => h (by simp [e])), Bool.and_false]
def sameTy (x y : TyV) : Bool := decide (x.params = y.params ∧ x.results = y.results)
def sameMem (x y : MemV) : Bool := decide (x.min = y.min ∧ x.max = y.max)
def sameGlob (x y : GlobV) : Bool := decide (x.type = y.type ∧ x.may = y.may ∧ x.init = y.init)
def sameExp (x y : ExpV) : Bool := decide (x.name = y.name ∧ x.kind = y.kind ∧ x.index = y.index)
def sameDat (x y : DatV) : Bool := decide (x.offset = y.offset ∧ x.bytes = y.bytes)
def sameMod (a b : MoV) : Bool := decide (a.start = b.start) && (sameL sameTy a.types b.types && (sameL sameFn a.funcs b.funcs && (sameL sameMem a.memory b.memory && (sameL sameGlob a.globals b.globals && (sameL sameExp a.exports b.exports && sameL sameDat a.data b.data)))))

theorem boxMM {w w1 : World} {a b c d e f g a' b' c' d' e' f' g' : Value} {t : TypeId} (hB : Below (w.heap.size + 1 + 1) ((w.alloc (.cells #[a, b, c, d, e, f, g] t)).alloc (.cells #[a', b', c', d', e', f', g'] t)) w1) :
    (w1.cell? ⟨w.heap.size, 0, none⟩ = some a ∧ w1.cell? ⟨w.heap.size, 1, none⟩ = some b ∧ w1.cell? ⟨w.heap.size, 2, none⟩ = some c ∧ w1.cell? ⟨w.heap.size, 3, none⟩ = some d ∧ w1.cell? ⟨w.heap.size, 4, none⟩ = some e ∧ w1.cell? ⟨w.heap.size, 5, none⟩ = some f ∧ w1.cell? ⟨w.heap.size, 6, none⟩ = some g) ∧
    (w1.cell? ⟨w.heap.size + 1, 0, none⟩ = some a' ∧ w1.cell? ⟨w.heap.size + 1, 1, none⟩ = some b' ∧ w1.cell? ⟨w.heap.size + 1, 2, none⟩ = some c' ∧ w1.cell? ⟨w.heap.size + 1, 3, none⟩ = some d' ∧ w1.cell? ⟨w.heap.size + 1, 4, none⟩ = some e' ∧ w1.cell? ⟨w.heap.size + 1, 5, none⟩ = some f' ∧ w1.cell? ⟨w.heap.size + 1, 6, none⟩ = some g') := by
  have h : ∀ j, w1.cell? ⟨w.heap.size, j, none⟩ = #[a, b, c, d, e, f, g][j]? := fun j => by
    rw [hB.cell (p := ⟨w.heap.size, j, none⟩) (by show w.heap.size < _; omega), World.cell?_alloc_lt _ _ _ (by simp), World.cell?_alloc_new]
  have i : ∀ j, w1.cell? ⟨w.heap.size + 1, j, none⟩ = #[a', b', c', d', e', f', g'][j]? := fun j => by
    rw [hB.cell (p := ⟨w.heap.size + 1, j, none⟩) (by show w.heap.size + 1 < _; omega), show w.heap.size + 1 = (w.alloc (.cells #[a, b, c, d, e, f, g] t)).heap.size by simp, World.cell?_alloc_new]
  exact ⟨⟨h 0, h 1, h 2, h 3, h 4, h 5, h 6⟩, i 0, i 1, i 2, i 3, i 4, i 5, i 6⟩
end Go.Proofs.YtnonedmkdcbmfaaGreatDoor
