/-
  Package module's Text: its words as they lie in memory, one more of them, and what 'result' answers: walked. Contracts that the proofs call; no statement is proved here.
-/
import Derived.Test.YtnonedmkdcbmfaaGreatDoorZModOpens
import Derived.Test.YtnonedmkdcbmfaaGreatDoorZModLib
import Derived.Test.YtnonedmkdcbmfaaGreatDoorZModRight
import Derived.Test.YtnonedmkdcbmfaaGreatDoorZModRefText
namespace Go.Proofs.YtnonedmkdcbmfaaGreatDoor
open Go.RowKit

/-- The words lie in a row of the call's own, and the slice in its cell. -/
structure WAt (w0 : World) (C : Nat) (xs : List ByteArray) (v : Value) (w : World) : Prop where
  base : Below w0.heap.size w0 w
  least : w0.heap.size ≤ C
  size : C < w.heap.size
  at1 : w.heap[C]? = some (.cells #[v] 90)
  row : w.ownsRow w0.heap.size 9 1 v xs.length (xs.map Value.string)
  ne : v.ownBlock ≠ some C
theorem WAt.below {w0 w w' : World} {C : Nat} {xs : List ByteArray} {v : Value} (h : WAt w0 C xs v w) (hb : Below w.heap.size w w') : WAt w0 C xs v w' := by
  have hg : w.grownBy w' none := ⟨hb.os, hb.tape, hb.output, hb.size, fun k hk _ => hb.block k hk⟩
  refine ⟨h.base.trans (hb.mono h.base.size), h.least, Nat.lt_of_lt_of_le h.size hb.size, ?_, h.row.kept hg ?_, h.ne⟩
  · rw [hb.block _ h.size]; exact h.at1
  · cases hv : v.ownBlock with
    | none => exact .inl rfl
    | some g => exact .inr (by simp)
theorem WAt.cell {w0 w : World} {C : Nat} {xs : List ByteArray} {v : Value} (h : WAt w0 C xs v w) : w.cell? ⟨C, 0, none⟩ = some v ∧ w.frozen? ⟨C, 0, none⟩ = false := by
  constructor
  · simp [World.cell?, h.at1]
  · simp [World.frozen?, h.at1]
theorem set_grown (w : World) (b o : Nat) (x : Value) : w.grownBy (w.setCell ⟨b, o, none⟩ x) (some b) := ⟨rfl, rfl, rfl, by simp [World.setCell], fun k _ hne => Below.heap_setCell w _ _ k (fun e => hne (by rw [e]))⟩
/-- One more, and the slice is laid. -/
theorem WAt.set {w0 w w' : World} {C : Nat} {xs ys : List ByteArray} {v v' : Value} (h : WAt w0 C xs v w) (hg : w.grownBy w' v.ownBlock) (hown : w'.ownsRow w0.heap.size 9 1 v' ys.length (ys.map Value.string)) (hloc : v'.ownBlock = v.ownBlock ∨ v'.ownBlock = some w.heap.size) :
    WAt w0 C ys v' (w'.setCell ⟨C, 0, none⟩ v') := by
  have hs := h.size
  have hgs := hg.size
  have hne : v'.ownBlock ≠ some C := fun e => by
    rcases hloc with e1 | e1
    · exact h.ne (by rw [← e1]; exact e)
    · rw [e1] at e; injection e with e; omega
  have hat : w'.heap[C]? = some (.cells #[v] 90) := by
    rw [hg.block _ hs (fun e => h.ne e.symm)]; exact h.at1
  refine ⟨?_, h.least, by simp [World.setCell]; omega, heap_setCell_same _ _ 0 _ _ _ hat, hown.kept (set_grown _ _ _ _) (.inr hne), hne⟩
  exact (h.base.grown hg h.base.size (fun g e => (h.row.lt g e).1)).setCell h.least _

theorem WAt.kept2 {w0 w w' : World} {C : Nat} {xs : List ByteArray} {v : Value} (h : WAt w0 C xs v w) (hg : w.grownBy w' v.ownBlock) : w'.cell? ⟨C, 0, none⟩ = some v ∧ w'.frozen? ⟨C, 0, none⟩ = false := by
  have hat : w'.heap[C]? = some (.cells #[v] 90) := by
    rw [hg.block _ h.size (fun e => h.ne e.symm)]; exact h.at1
  exact ⟨by simp [World.cell?, hat], by simp [World.frozen?, hat]⟩
theorem str_info : (Tryz.prog.info? 9).map (fun i => (i.zero, i.size, i.bytes)) = some (some (.string ⟨#[]⟩), 1, 16) := by kernel_rfl

set_option maxRecDepth 100000 in
set_option maxHeartbeats 8000000 in
theorem add_call (w0 : World) (C : Nat) (hL : Laid w0) (xs : List ByteArray) (nm : ByteArray) (hnm : nm.size ≤ 30) (n : Int) (hn : inI64 n) (hlen : xs.length ≤ 100000) (w : World) (h : ∃ v, WAt w0 C xs v w) :
    Calls Tryz.prog 46 #[.string nm, .int .i64 n, .pointer (some ⟨C, 0, none⟩)] w fun e w' => e = .returned (.tuple #[]) ∧ ∃ v', WAt w0 C (xs ++ [nm ++ numB n]) v' w' := by
  obtain ⟨v, h⟩ := h
  obtain ⟨i0, hi, hz0, hz1, hz2⟩ := info_parts str_info
  have cf := fun W hW => lib_format n hn.1 hn.2 W hW
  change ∀ W, Laid W → Calls _ _ _ W fun e w' => e = .returned (.string (numB n)) ∧ _ at cf
  have hsz := numB_size n hn
  generalize numB n = d at *
  have hcat : ¬ 9223372036854775807 < nm.size + d.size := by omega
  have hA := h.below (Below.refl w.heap.size w).drew
  have hLw := hL.below hA.base
  obtain ⟨c0, f0⟩ := hA.cell
  obtain ⟨sp, sc, rfl⟩ := own_any h.row
  go_enter Tryz.func46, Tryz.ntmps46
  refine bare ?_
  go_region_law (first
    | (refine step_own rfl (.tmp 5) (.tmp 10) 90 rfl w0.heap.size 9 i0 (.string ⟨#[]⟩) 1 16 Tryz.underlying90 hi hz0 hz1 hz2 rfl (by decide) _ xs.length _ rfl (hA1.row.alloc _) ⟨w1.heap.size, 0, none⟩ 1 1 [.string (nm ++ d)] rfl rfl (cell_one_new w1 _ _) (by intro u hu; simp at hu; subst hu; rfl) (by unfold maxLen; omega) (by omega) (by have := hA1.base.size; simp; omega) ?_; intro v' w2 hown' hgrow _ hloc; have hA2 := hA1.below ((Below.refl _ w1).alloc (Nat.le_refl _) (.cells #[.string (nm ++ d)] 9)); have hgc := hA2.kept2 hgrow; have e0 : w2.cell? ⟨C, 0, none⟩ = some _ := hgc.1; have e1 : w2.frozen? ⟨C, 0, none⟩ = false := hgc.2; obtain ⟨vp, vc, rfl⟩ := own_any hown')
    | (go_simp; go_at_call 47; refine (cf _ hLw).mono ?_; rintro e w1 ⟨rfl, hb1⟩; have hA1 := hA.below hb1; obtain ⟨c1, f1⟩ := hA1.cell; have k1 := fun o => (World.cell?_alloc_lt w1 o (⟨C, 0, none⟩ : Addr) hA1.size).trans c1))
  all_goals
    have hS := hA2.set (ys := xs ++ [nm ++ d]) hgrow (by simpa using hown') hloc
    go_end0
    exact ⟨rfl, _, by simpa using hS⟩
end Go.Proofs.YtnonedmkdcbmfaaGreatDoor

/-
  Package module's Text: its words joined, and what 'result' answers: walked. Contracts that the proofs call; no statement is proved here.
-/
namespace Go.Proofs.YtnonedmkdcbmfaaGreatDoor
open Go.RowKit

/-- Words, a space between two. -/
def joined (xs : List ByteArray) : ByteArray := ⟨(Lib.join (xs.map (·.data.toList)) [32]).toArray⟩
theorem joined_one (x : ByteArray) : joined [x] = x := by
  unfold joined; simp only [List.map_cons, List.map_nil]; rw [Lib.join_one]
theorem joined_snoc (x : ByteArray) (r : List ByteArray) (y : ByteArray) : joined (x :: (r ++ [y])) = joined (x :: r) ++ ⟨#[32]⟩ ++ y := by
  unfold joined
  simp only [List.map_cons, List.map_append, List.map_nil]
  rw [Lib.join_cons, Lib.join_cons]
  have e : Lib.joinTail [32] (r.map (·.data.toList) ++ [y.data.toList]) = Lib.joinTail [32] (r.map (·.data.toList)) ++ ([32] ++ y.data.toList) := by simp [Lib.joinTail]
  rw [e]
  apply ByteArray.ext
  simp [ByteArray.data_append, List.append_assoc]
theorem joined_len (x : ByteArray) : ∀ r : List ByteArray, (∀ y ∈ x :: r, y.size ≤ 60) → (Lib.join ((x :: r).map (·.data.toList)) [32]).length ≤ 61 * (r.length + 1) := by
  intro r h
  have key : ∀ q : List ByteArray, (∀ y ∈ q, y.size ≤ 60) → (Lib.joinTail [32] (q.map (·.data.toList))).length ≤ 61 * q.length := by
    intro q
    induction q with
    | nil => intro _; simp [Lib.joinTail]
    | cons y q ih =>
      intro hq
      have h1 := ih fun z hz => hq z (List.mem_cons_of_mem _ hz)
      have h2 := hq y (List.mem_cons_self ..)
      have h3 : y.data.toList.length = y.size := by rw [Array.length_toList]; rfl
      simp only [Lib.joinTail, List.map_cons, List.flatten_cons, List.length_append, List.length_cons, List.length_nil] at h1 ⊢
      omega
  have h1 := key r fun y hy => h y (List.mem_cons_of_mem _ hy)
  have h2 := h x (List.mem_cons_self ..)
  have h3 : x.data.toList.length = x.size := by rw [Array.length_toList]; rfl
  rw [List.map_cons, Lib.join_cons, List.length_append]
  omega

theorem join_call (w0 : World) (C : Nat) (x : ByteArray) (r : List ByteArray) (v : Value) (w : World) (h : WAt w0 C (x :: r) v w) (hs : ∀ y ∈ x :: r, y.size ≤ 60) (hl : r.length ≤ 100000) :
    Calls Tryz.prog 49 #[v, .string ⟨#[32]⟩] w fun e w' => e = .returned (.string (joined (x :: r))) ∧ Below w.heap.size w w' := by
  obtain ⟨g, cap, rfl, hgb, hgl, hcap⟩ := own_slice4 h.row (by simp)
  have hlen := joined_len x r hs
  exact lib_join g 0 cap (x :: r) ⟨#[32]⟩ w (fun j y hj => by
    have hj' : j < (x :: r).length := (List.getElem?_eq_some_iff.1 hj).1
    rw [Nat.zero_add, h.row.cellAt j (by omega), List.getElem?_map, hj]; rfl) hgl (by simp; omega) hcap (by simpa using Nat.le_trans hlen (by omega))
theorem ownsRow_lower {w : World} {base base' size n : Nat} {e : TypeId} {v : Value} {xs : List Value} (h : w.ownsRow base e size v n xs) (hb : base' ≤ base) : w.ownsRow base' e size v n xs := by
  refine ⟨h.1, ?_⟩
  rcases h.2 with ⟨h1, h2⟩ | ⟨g, cap, cur, h1, h2, h3⟩
  · exact .inl ⟨h1, h2⟩
  · exact .inr ⟨g, cap, cur, h1, Nat.le_trans hb h2, h3⟩
theorem WAt.start (w0 : World) (o : Obj) (x : ByteArray) : WAt w0 (w0.heap.size + 1 + 1) [x] (.slice (some ⟨w0.heap.size + 1, 0, none⟩) 1 1) (((w0.alloc o).alloc (.cells #[.string x] 9)).alloc (.cells #[.slice (some ⟨w0.heap.size + 1, 0, none⟩) 1 1] 90)) := by
  refine ⟨(((Below.refl _ w0).alloc (Nat.le_refl _) _).alloc (by simp) _).alloc (by simp; omega) _, by omega, by simp, ?_, ?_, ?_⟩
  · rw [show w0.heap.size + 1 + 1 = ((w0.alloc o).alloc (.cells #[.string x] 9)).heap.size by simp]; exact heap_alloc_new _ _
  · have := (World.ownsRow_lit (e := 9) (size := 1) (w0.alloc o) #[.string x] 1 (Nat.le_refl _) (by unfold maxLen; omega) rfl).alloc (.cells #[.slice (some ⟨w0.heap.size + 1, 0, none⟩) 1 1] 90)
    rw [show (w0.alloc o).heap.size = w0.heap.size + 1 by simp] at this
    exact ownsRow_lower this (by omega)
  · simp [Value.ownBlock]
/-- What 'result' answers: one word in a new row, or none. -/
theorem result_one (a : Int) (s : ByteArray) (h : (a = 127 ∧ s = ⟨#[105, 51, 50]⟩) ∨ (a = 126 ∧ s = ⟨#[105, 54, 52]⟩)) (w : World) :
    Calls Tryz.prog 48 #[.int .i64 a] w fun e w' => e = .returned (.slice (some ⟨w.heap.size, 0, none⟩) 1 1) ∧ w' = w.alloc (.cells #[.string s] 9) := by
  rcases h with ⟨rfl, rfl⟩ | ⟨rfl, rfl⟩
  all_goals
    go_enter Tryz.func48, Tryz.ntmps48
    go_wp2
    go_ret
    exact ⟨rfl, rfl⟩
theorem result_none (a : Int) (h1 : a ≠ 127) (h2 : a ≠ 126) (w : World) :
    Calls Tryz.prog 48 #[.int .i64 a] w fun e w' => e = .returned (.slice none 0 0) ∧ w' = w := by
  have n1 : (a == 127) = false := beq_eq_false_iff_ne.2 h1
  have n2 : (a == 126) = false := beq_eq_false_iff_ne.2 h2
  clear h1 h2
  go_enter Tryz.func48, Tryz.ntmps48
  go_wp2
  go_ret
  exact ⟨rfl, rfl⟩
end Go.Proofs.YtnonedmkdcbmfaaGreatDoor

/-
  Package module's Text, walked: it tells what the document's own answer tells. Contracts that the proofs call; no statement is proved here.
-/
namespace Go.Proofs.YtnonedmkdcbmfaaGreatDoor
open Go.RowKit

theorem enters_add : ∀ args w, (callFunc 46 args).run Tryz.prog w = .ok (.enter 46 args) w := enters_of Tryz.func46 (by kernel_rfl) rfl
theorem below_alloc (w : World) (o : Obj) : Below w.heap.size w (w.alloc o) := (Below.refl _ w).alloc (Nat.le_refl _) o
theorem nothing_ahead (d : ByteArray) : (⟨#[]⟩ : ByteArray) ++ d = d := ByteArray.ext (by simp)
theorem box_far {W : World} {b o : Nat} {v : Value} (h : W.cell? ⟨b, o, none⟩ = some v) : ∀ p q r : Obj, (((W.alloc p).alloc q).alloc r).cell? ⟨b, o, none⟩ = some v := fun p q r => by
  have hb := in_heap h
  rw [World.cell?_alloc_lt _ _ _ (by simp; omega), World.cell?_alloc_lt _ _ _ (by simp; omega), World.cell?_alloc_lt _ _ _ hb, h]

set_option maxRecDepth 100000 in
set_option maxHeartbeats 4000000 in
theorem mod_text_not (x : InsV) (h : rightIns x = false) (w : World) (hL : Laid w) (hX : InsAt w x) :
    Calls Tryz.prog 17 #[x.val] w fun e w' => e = .returned (.tuple #[.string ⟨#[]⟩, .bool false]) ∧ Below w.heap.size w w' := by
  have c := fun o => op_says w hL x (w.alloc o) (below_alloc w o) (hX.below (below_alloc w o) (Nat.le_refl _))
  rw [h] at c
  clear h hX
  obtain ⟨xo, xa, xb, xp, xc, xl⟩ := x
  simp only [InsV.val] at *
  generalize xl.length = n at *
  change ∀ o, Calls _ _ #[.agg #[.int .i64 xo, .int .i64 xa, .int .i64 xb, .slice xp n xc]] _ _ at c
  go_enter Tryz.func17, Tryz.ntmps17
  go_wp2_with (go_at_call 39; (with_reducible refine (c _).mono ?_); rintro e w1 ⟨rfl, hb⟩)
  go_ret2
  exact ⟨rfl, (box_keep hb).2.2⟩

set_option maxRecDepth 100000 in
set_option maxHeartbeats 8000000 in
theorem mod_text_0 (xo xa xb : Int) (xp : Option Addr) (xc n : Nat) (xl : List Int) (hn : xl.length = n) (rc s : Int) (rn rp rr : ByteArray) (h : byCode xo = some ⟨rc, rn, s, rp, rr⟩) (hr : rightIns ⟨xo, xa, xb, xp, xc, xl⟩ = true) (hs : s = 0) (w : World) (hL : Laid w) (hX : InsAt w ⟨xo, xa, xb, xp, xc, xl⟩) :
    Calls Tryz.prog 17 #[.agg #[.int .i64 xo, .int .i64 xa, .int .i64 xb, .slice xp n xc]] w fun e w' => e = .returned (.tuple #[.string (joined ([rn])), .bool true]) ∧ Below w.heap.size w w' := by
  have c := fun o => op_says w hL ⟨xo, xa, xb, xp, xc, xl⟩ (w.alloc o) (below_alloc w o) (hX.below (below_alloc w o) (Nat.le_refl _))
  rw [hr] at c
  change ∀ o, Calls _ _ #[.agg #[.int .i64 xo, .int .i64 xa, .int .i64 xb, .slice xp xl.length xc]] _ _ at c
  rw [hn] at c
  have co := fun W (hW : Laid W) => op_of xo hX.2.2.1.1 hX.2.2.1.2 W hW.spaces
  rw [h] at co
  have hbd := byCode_bd h
  simp only [infoVal, Option.isSome_some] at hbd co
  have hrn : rn.size ≤ 30 := by omega
  have hxa := hX.2.2.2.1
  have hxb := hX.2.2.2.2.1
  have za := numB_size xa hxa
  have zb := numB_size xb hxb
  have eg := enters_add
  subst hs
  have hL1 := fun o => hL.alloc o
  clear h hr hbd
  clear hX hn
  go_enter Tryz.func17, Tryz.ntmps17
  go_wp2_with (first
    | (go_at_call 39; (with_reducible refine (c _).mono ?_); rintro e w1 ⟨rfl, hb⟩; have ⟨m0, m1, m2⟩ := box_keep hb; have x0 : w1.cell? ⟨w.heap.size, 0, none⟩ = some (.int .i64 xo) := m0 0; have x1 : w1.cell? ⟨w.heap.size, 1, none⟩ = some (.int .i64 xa) := m0 1; have x2 : w1.cell? ⟨w.heap.size, 2, none⟩ = some (.int .i64 xb) := m0 2; have x3 : w1.cell? ⟨w.heap.size, 3, none⟩ = some (.slice xp n xc) := m0 3; clear m0 m1; have hL2 := hL.below m2)
    | (go_at_call 45; (with_reducible refine (co _ hL2).mono ?_); rintro e w2 ⟨rfl, hb2⟩; have u1 := cell_below x1 hb2; have u2 := cell_below x2 hb2; have u3 := cell_below x3 hb2; clear x0 x1 x2 x3; have y1 := box_far u1; have y2 := box_far u2; have y3 := box_far u3; have hB2 := bnext m2 m2.size hb2; have hL3 := hL2.below hb2; have hW := WAt.start w2 (.cells #[.string rn, .int .i64 0, .string rp, .string rr] 87) rn)
    | (go_at_call 49; refine (join_call w2 _ rn [] _ _ hW (by intro y hy; simp at hy; rcases hy with rfl <;> first | omega | (simp only [ByteArray.size_append]; have e0 : (⟨#[]⟩ : ByteArray).size = 0 := rfl; have e1 : (⟨#[111, 102, 102, 115, 101, 116, 61]⟩ : ByteArray).size = 7 := rfl; have e2 : (⟨#[97, 108, 105, 103, 110, 61]⟩ : ByteArray).size = 6 := rfl; omega)) (by simp)).mono ?_; rintro e wz ⟨rfl, hbz⟩))
  go_ret2
  exact ⟨rfl, hB2.trans ((hW.base.trans (hbz.mono hW.base.size)).mono hB2.size)⟩

set_option maxRecDepth 100000 in
set_option maxHeartbeats 8000000 in
theorem mod_text_6 (xo xa xb : Int) (xp : Option Addr) (xc n : Nat) (xl : List Int) (hn : xl.length = n) (rc s : Int) (rn rp rr : ByteArray) (h : byCode xo = some ⟨rc, rn, s, rp, rr⟩) (hr : rightIns ⟨xo, xa, xb, xp, xc, xl⟩ = true) (hs : s = 6) (w : World) (hL : Laid w) (hX : InsAt w ⟨xo, xa, xb, xp, xc, xl⟩) :
    Calls Tryz.prog 17 #[.agg #[.int .i64 xo, .int .i64 xa, .int .i64 xb, .slice xp n xc]] w fun e w' => e = .returned (.tuple #[.string (joined ([rn])), .bool true]) ∧ Below w.heap.size w w' := by
  have c := fun o => op_says w hL ⟨xo, xa, xb, xp, xc, xl⟩ (w.alloc o) (below_alloc w o) (hX.below (below_alloc w o) (Nat.le_refl _))
  rw [hr] at c
  change ∀ o, Calls _ _ #[.agg #[.int .i64 xo, .int .i64 xa, .int .i64 xb, .slice xp xl.length xc]] _ _ at c
  rw [hn] at c
  have co := fun W (hW : Laid W) => op_of xo hX.2.2.1.1 hX.2.2.1.2 W hW.spaces
  rw [h] at co
  have hbd := byCode_bd h
  simp only [infoVal, Option.isSome_some] at hbd co
  have hrn : rn.size ≤ 30 := by omega
  have hxa := hX.2.2.2.1
  have hxb := hX.2.2.2.2.1
  have za := numB_size xa hxa
  have zb := numB_size xb hxb
  have eg := enters_add
  subst hs
  have hL1 := fun o => hL.alloc o
  clear h hr hbd
  clear hX hn
  go_enter Tryz.func17, Tryz.ntmps17
  go_wp2_with (first
    | (go_at_call 39; (with_reducible refine (c _).mono ?_); rintro e w1 ⟨rfl, hb⟩; have ⟨m0, m1, m2⟩ := box_keep hb; have x0 : w1.cell? ⟨w.heap.size, 0, none⟩ = some (.int .i64 xo) := m0 0; have x1 : w1.cell? ⟨w.heap.size, 1, none⟩ = some (.int .i64 xa) := m0 1; have x2 : w1.cell? ⟨w.heap.size, 2, none⟩ = some (.int .i64 xb) := m0 2; have x3 : w1.cell? ⟨w.heap.size, 3, none⟩ = some (.slice xp n xc) := m0 3; clear m0 m1; have hL2 := hL.below m2)
    | (go_at_call 45; (with_reducible refine (co _ hL2).mono ?_); rintro e w2 ⟨rfl, hb2⟩; have u1 := cell_below x1 hb2; have u2 := cell_below x2 hb2; have u3 := cell_below x3 hb2; clear x0 x1 x2 x3; have y1 := box_far u1; have y2 := box_far u2; have y3 := box_far u3; have hB2 := bnext m2 m2.size hb2; have hL3 := hL2.below hb2; have hW := WAt.start w2 (.cells #[.string rn, .int .i64 6, .string rp, .string rr] 87) rn)
    | (go_at_call 49; refine (join_call w2 _ rn [] _ _ hW (by intro y hy; simp at hy; rcases hy with rfl <;> first | omega | (simp only [ByteArray.size_append]; have e0 : (⟨#[]⟩ : ByteArray).size = 0 := rfl; have e1 : (⟨#[111, 102, 102, 115, 101, 116, 61]⟩ : ByteArray).size = 7 := rfl; have e2 : (⟨#[97, 108, 105, 103, 110, 61]⟩ : ByteArray).size = 6 := rfl; omega)) (by simp)).mono ?_; rintro e wz ⟨rfl, hbz⟩))
  go_ret2
  exact ⟨rfl, hB2.trans ((hW.base.trans (hbz.mono hW.base.size)).mono hB2.size)⟩

set_option maxRecDepth 100000 in
set_option maxHeartbeats 8000000 in
theorem mod_text_2 (xo xa xb : Int) (xp : Option Addr) (xc n : Nat) (xl : List Int) (hn : xl.length = n) (rc s : Int) (rn rp rr : ByteArray) (h : byCode xo = some ⟨rc, rn, s, rp, rr⟩) (hr : rightIns ⟨xo, xa, xb, xp, xc, xl⟩ = true) (hs : s = 2) (w : World) (hL : Laid w) (hX : InsAt w ⟨xo, xa, xb, xp, xc, xl⟩) :
    Calls Tryz.prog 17 #[.agg #[.int .i64 xo, .int .i64 xa, .int .i64 xb, .slice xp n xc]] w fun e w' => e = .returned (.tuple #[.string (joined ([rn, ⟨#[]⟩ ++ numB xa])), .bool true]) ∧ Below w.heap.size w w' := by
  have c := fun o => op_says w hL ⟨xo, xa, xb, xp, xc, xl⟩ (w.alloc o) (below_alloc w o) (hX.below (below_alloc w o) (Nat.le_refl _))
  rw [hr] at c
  change ∀ o, Calls _ _ #[.agg #[.int .i64 xo, .int .i64 xa, .int .i64 xb, .slice xp xl.length xc]] _ _ at c
  rw [hn] at c
  have co := fun W (hW : Laid W) => op_of xo hX.2.2.1.1 hX.2.2.1.2 W hW.spaces
  rw [h] at co
  have hbd := byCode_bd h
  simp only [infoVal, Option.isSome_some] at hbd co
  have hrn : rn.size ≤ 30 := by omega
  have hxa := hX.2.2.2.1
  have hxb := hX.2.2.2.2.1
  have za := numB_size xa hxa
  have zb := numB_size xb hxb
  have eg := enters_add
  subst hs
  have hL1 := fun o => hL.alloc o
  clear h hr hbd
  clear hX hn
  go_enter Tryz.func17, Tryz.ntmps17
  go_wp2_with (first
    | (go_at_call 39; (with_reducible refine (c _).mono ?_); rintro e w1 ⟨rfl, hb⟩; have ⟨m0, m1, m2⟩ := box_keep hb; have x0 : w1.cell? ⟨w.heap.size, 0, none⟩ = some (.int .i64 xo) := m0 0; have x1 : w1.cell? ⟨w.heap.size, 1, none⟩ = some (.int .i64 xa) := m0 1; have x2 : w1.cell? ⟨w.heap.size, 2, none⟩ = some (.int .i64 xb) := m0 2; have x3 : w1.cell? ⟨w.heap.size, 3, none⟩ = some (.slice xp n xc) := m0 3; clear m0 m1; have hL2 := hL.below m2)
    | (go_at_call 45; (with_reducible refine (co _ hL2).mono ?_); rintro e w2 ⟨rfl, hb2⟩; have u1 := cell_below x1 hb2; have u2 := cell_below x2 hb2; have u3 := cell_below x3 hb2; clear x0 x1 x2 x3; have y1 := box_far u1; have y2 := box_far u2; have y3 := box_far u3; have hB2 := bnext m2 m2.size hb2; have hL3 := hL2.below hb2; have hW := WAt.start w2 (.cells #[.string rn, .int .i64 2, .string rp, .string rr] 87) rn)
    | (go_at_fn 46; have tk := hW; clear tk; refine (add_call w2 _ hL3 _ ⟨#[]⟩ (by decide) xa hxa (by simp) _ ⟨_, hW⟩).mono ?_; clear hW; rintro e W1 ⟨rfl, v1, hW1⟩; have z11 := cell_below u1 hW1.base; have z12 := cell_below u2 hW1.base; have z13 := hW1.cell.1)
    | (go_at_call 49; refine (join_call w2 _ rn [⟨#[]⟩ ++ numB xa] _ _ hW1 (by intro y hy; simp at hy; rcases hy with rfl | rfl <;> first | omega | (simp only [ByteArray.size_append]; have e0 : (⟨#[]⟩ : ByteArray).size = 0 := rfl; have e1 : (⟨#[111, 102, 102, 115, 101, 116, 61]⟩ : ByteArray).size = 7 := rfl; have e2 : (⟨#[97, 108, 105, 103, 110, 61]⟩ : ByteArray).size = 6 := rfl; omega)) (by simp)).mono ?_; rintro e wz ⟨rfl, hbz⟩))
  go_ret2
  exact ⟨rfl, hB2.trans ((hW1.base.trans (hbz.mono hW1.base.size)).mono hB2.size)⟩

set_option maxRecDepth 100000 in
set_option maxHeartbeats 8000000 in
theorem mod_text_4 (xo xa xb : Int) (xp : Option Addr) (xc n : Nat) (xl : List Int) (hn : xl.length = n) (rc s : Int) (rn rp rr : ByteArray) (h : byCode xo = some ⟨rc, rn, s, rp, rr⟩) (hr : rightIns ⟨xo, xa, xb, xp, xc, xl⟩ = true) (hs : s = 4) (w : World) (hL : Laid w) (hX : InsAt w ⟨xo, xa, xb, xp, xc, xl⟩) :
    Calls Tryz.prog 17 #[.agg #[.int .i64 xo, .int .i64 xa, .int .i64 xb, .slice xp n xc]] w fun e w' => e = .returned (.tuple #[.string (joined ([rn, ⟨#[]⟩ ++ numB xa])), .bool true]) ∧ Below w.heap.size w w' := by
  have c := fun o => op_says w hL ⟨xo, xa, xb, xp, xc, xl⟩ (w.alloc o) (below_alloc w o) (hX.below (below_alloc w o) (Nat.le_refl _))
  rw [hr] at c
  change ∀ o, Calls _ _ #[.agg #[.int .i64 xo, .int .i64 xa, .int .i64 xb, .slice xp xl.length xc]] _ _ at c
  rw [hn] at c
  have co := fun W (hW : Laid W) => op_of xo hX.2.2.1.1 hX.2.2.1.2 W hW.spaces
  rw [h] at co
  have hbd := byCode_bd h
  simp only [infoVal, Option.isSome_some] at hbd co
  have hrn : rn.size ≤ 30 := by omega
  have hxa := hX.2.2.2.1
  have hxb := hX.2.2.2.2.1
  have za := numB_size xa hxa
  have zb := numB_size xb hxb
  have eg := enters_add
  subst hs
  have hL1 := fun o => hL.alloc o
  clear h hr hbd
  clear hX hn
  go_enter Tryz.func17, Tryz.ntmps17
  go_wp2_with (first
    | (go_at_call 39; (with_reducible refine (c _).mono ?_); rintro e w1 ⟨rfl, hb⟩; have ⟨m0, m1, m2⟩ := box_keep hb; have x0 : w1.cell? ⟨w.heap.size, 0, none⟩ = some (.int .i64 xo) := m0 0; have x1 : w1.cell? ⟨w.heap.size, 1, none⟩ = some (.int .i64 xa) := m0 1; have x2 : w1.cell? ⟨w.heap.size, 2, none⟩ = some (.int .i64 xb) := m0 2; have x3 : w1.cell? ⟨w.heap.size, 3, none⟩ = some (.slice xp n xc) := m0 3; clear m0 m1; have hL2 := hL.below m2)
    | (go_at_call 45; (with_reducible refine (co _ hL2).mono ?_); rintro e w2 ⟨rfl, hb2⟩; have u1 := cell_below x1 hb2; have u2 := cell_below x2 hb2; have u3 := cell_below x3 hb2; clear x0 x1 x2 x3; have y1 := box_far u1; have y2 := box_far u2; have y3 := box_far u3; have hB2 := bnext m2 m2.size hb2; have hL3 := hL2.below hb2; have hW := WAt.start w2 (.cells #[.string rn, .int .i64 4, .string rp, .string rr] 87) rn)
    | (go_at_fn 46; have tk := hW; clear tk; refine (add_call w2 _ hL3 _ ⟨#[]⟩ (by decide) xa hxa (by simp) _ ⟨_, hW⟩).mono ?_; clear hW; rintro e W1 ⟨rfl, v1, hW1⟩; have z11 := cell_below u1 hW1.base; have z12 := cell_below u2 hW1.base; have z13 := hW1.cell.1)
    | (go_at_call 49; refine (join_call w2 _ rn [⟨#[]⟩ ++ numB xa] _ _ hW1 (by intro y hy; simp at hy; rcases hy with rfl | rfl <;> first | omega | (simp only [ByteArray.size_append]; have e0 : (⟨#[]⟩ : ByteArray).size = 0 := rfl; have e1 : (⟨#[111, 102, 102, 115, 101, 116, 61]⟩ : ByteArray).size = 7 := rfl; have e2 : (⟨#[97, 108, 105, 103, 110, 61]⟩ : ByteArray).size = 6 := rfl; omega)) (by simp)).mono ?_; rintro e wz ⟨rfl, hbz⟩))
  go_ret2
  exact ⟨rfl, hB2.trans ((hW1.base.trans (hbz.mono hW1.base.size)).mono hB2.size)⟩

set_option maxRecDepth 100000 in
set_option maxHeartbeats 8000000 in
theorem mod_text_7 (xo xa xb : Int) (xp : Option Addr) (xc n : Nat) (xl : List Int) (hn : xl.length = n) (rc s : Int) (rn rp rr : ByteArray) (h : byCode xo = some ⟨rc, rn, s, rp, rr⟩) (hr : rightIns ⟨xo, xa, xb, xp, xc, xl⟩ = true) (hs : s = 7) (w : World) (hL : Laid w) (hX : InsAt w ⟨xo, xa, xb, xp, xc, xl⟩) :
    Calls Tryz.prog 17 #[.agg #[.int .i64 xo, .int .i64 xa, .int .i64 xb, .slice xp n xc]] w fun e w' => e = .returned (.tuple #[.string (joined ([rn, ⟨#[]⟩ ++ numB xa])), .bool true]) ∧ Below w.heap.size w w' := by
  have c := fun o => op_says w hL ⟨xo, xa, xb, xp, xc, xl⟩ (w.alloc o) (below_alloc w o) (hX.below (below_alloc w o) (Nat.le_refl _))
  rw [hr] at c
  change ∀ o, Calls _ _ #[.agg #[.int .i64 xo, .int .i64 xa, .int .i64 xb, .slice xp xl.length xc]] _ _ at c
  rw [hn] at c
  have co := fun W (hW : Laid W) => op_of xo hX.2.2.1.1 hX.2.2.1.2 W hW.spaces
  rw [h] at co
  have hbd := byCode_bd h
  simp only [infoVal, Option.isSome_some] at hbd co
  have hrn : rn.size ≤ 30 := by omega
  have hxa := hX.2.2.2.1
  have hxb := hX.2.2.2.2.1
  have za := numB_size xa hxa
  have zb := numB_size xb hxb
  have eg := enters_add
  subst hs
  have hL1 := fun o => hL.alloc o
  clear h hr hbd
  clear hX hn
  go_enter Tryz.func17, Tryz.ntmps17
  go_wp2_with (first
    | (go_at_call 39; (with_reducible refine (c _).mono ?_); rintro e w1 ⟨rfl, hb⟩; have ⟨m0, m1, m2⟩ := box_keep hb; have x0 : w1.cell? ⟨w.heap.size, 0, none⟩ = some (.int .i64 xo) := m0 0; have x1 : w1.cell? ⟨w.heap.size, 1, none⟩ = some (.int .i64 xa) := m0 1; have x2 : w1.cell? ⟨w.heap.size, 2, none⟩ = some (.int .i64 xb) := m0 2; have x3 : w1.cell? ⟨w.heap.size, 3, none⟩ = some (.slice xp n xc) := m0 3; clear m0 m1; have hL2 := hL.below m2)
    | (go_at_call 45; (with_reducible refine (co _ hL2).mono ?_); rintro e w2 ⟨rfl, hb2⟩; have u1 := cell_below x1 hb2; have u2 := cell_below x2 hb2; have u3 := cell_below x3 hb2; clear x0 x1 x2 x3; have y1 := box_far u1; have y2 := box_far u2; have y3 := box_far u3; have hB2 := bnext m2 m2.size hb2; have hL3 := hL2.below hb2; have hW := WAt.start w2 (.cells #[.string rn, .int .i64 7, .string rp, .string rr] 87) rn)
    | (go_at_fn 46; have tk := hW; clear tk; refine (add_call w2 _ hL3 _ ⟨#[]⟩ (by decide) xa hxa (by simp) _ ⟨_, hW⟩).mono ?_; clear hW; rintro e W1 ⟨rfl, v1, hW1⟩; have z11 := cell_below u1 hW1.base; have z12 := cell_below u2 hW1.base; have z13 := hW1.cell.1)
    | (go_at_call 49; refine (join_call w2 _ rn [⟨#[]⟩ ++ numB xa] _ _ hW1 (by intro y hy; simp at hy; rcases hy with rfl | rfl <;> first | omega | (simp only [ByteArray.size_append]; have e0 : (⟨#[]⟩ : ByteArray).size = 0 := rfl; have e1 : (⟨#[111, 102, 102, 115, 101, 116, 61]⟩ : ByteArray).size = 7 := rfl; have e2 : (⟨#[97, 108, 105, 103, 110, 61]⟩ : ByteArray).size = 6 := rfl; omega)) (by simp)).mono ?_; rintro e wz ⟨rfl, hbz⟩))
  go_ret2
  exact ⟨rfl, hB2.trans ((hW1.base.trans (hbz.mono hW1.base.size)).mono hB2.size)⟩

set_option maxRecDepth 100000 in
set_option maxHeartbeats 8000000 in
theorem mod_text_5 (xo xa xb : Int) (xp : Option Addr) (xc n : Nat) (xl : List Int) (hn : xl.length = n) (rc s : Int) (rn rp rr : ByteArray) (h : byCode xo = some ⟨rc, rn, s, rp, rr⟩) (hr : rightIns ⟨xo, xa, xb, xp, xc, xl⟩ = true) (hs : s = 5) (w : World) (hL : Laid w) (hX : InsAt w ⟨xo, xa, xb, xp, xc, xl⟩) :
    Calls Tryz.prog 17 #[.agg #[.int .i64 xo, .int .i64 xa, .int .i64 xb, .slice xp n xc]] w fun e w' => e = .returned (.tuple #[.string (joined ([rn, ⟨#[111, 102, 102, 115, 101, 116, 61]⟩ ++ numB xb, ⟨#[97, 108, 105, 103, 110, 61]⟩ ++ numB xa])), .bool true]) ∧ Below w.heap.size w w' := by
  have c := fun o => op_says w hL ⟨xo, xa, xb, xp, xc, xl⟩ (w.alloc o) (below_alloc w o) (hX.below (below_alloc w o) (Nat.le_refl _))
  rw [hr] at c
  change ∀ o, Calls _ _ #[.agg #[.int .i64 xo, .int .i64 xa, .int .i64 xb, .slice xp xl.length xc]] _ _ at c
  rw [hn] at c
  have co := fun W (hW : Laid W) => op_of xo hX.2.2.1.1 hX.2.2.1.2 W hW.spaces
  rw [h] at co
  have hbd := byCode_bd h
  simp only [infoVal, Option.isSome_some] at hbd co
  have hrn : rn.size ≤ 30 := by omega
  have hxa := hX.2.2.2.1
  have hxb := hX.2.2.2.2.1
  have za := numB_size xa hxa
  have zb := numB_size xb hxb
  have eg := enters_add
  subst hs
  have hL1 := fun o => hL.alloc o
  clear h hr hbd
  clear hX hn
  go_enter Tryz.func17, Tryz.ntmps17
  go_wp2_with (first
    | (go_at_call 39; (with_reducible refine (c _).mono ?_); rintro e w1 ⟨rfl, hb⟩; have ⟨m0, m1, m2⟩ := box_keep hb; have x0 : w1.cell? ⟨w.heap.size, 0, none⟩ = some (.int .i64 xo) := m0 0; have x1 : w1.cell? ⟨w.heap.size, 1, none⟩ = some (.int .i64 xa) := m0 1; have x2 : w1.cell? ⟨w.heap.size, 2, none⟩ = some (.int .i64 xb) := m0 2; have x3 : w1.cell? ⟨w.heap.size, 3, none⟩ = some (.slice xp n xc) := m0 3; clear m0 m1; have hL2 := hL.below m2)
    | (go_at_call 45; (with_reducible refine (co _ hL2).mono ?_); rintro e w2 ⟨rfl, hb2⟩; have u1 := cell_below x1 hb2; have u2 := cell_below x2 hb2; have u3 := cell_below x3 hb2; clear x0 x1 x2 x3; have y1 := box_far u1; have y2 := box_far u2; have y3 := box_far u3; have hB2 := bnext m2 m2.size hb2; have hL3 := hL2.below hb2; have hW := WAt.start w2 (.cells #[.string rn, .int .i64 5, .string rp, .string rr] 87) rn)
    | (go_at_fn 46; have tk := hW1; clear tk; refine (add_call w2 _ hL3 _ ⟨#[97, 108, 105, 103, 110, 61]⟩ (by decide) xa hxa (by simp) _ ⟨_, hW1⟩).mono ?_; clear hW1 z11 z12 z13; rintro e W2 ⟨rfl, v2, hW2⟩; have z21 := cell_below u1 hW2.base; have z22 := cell_below u2 hW2.base; have z23 := hW2.cell.1)
    | (go_at_fn 46; have tk := hW; clear tk; refine (add_call w2 _ hL3 _ ⟨#[111, 102, 102, 115, 101, 116, 61]⟩ (by decide) xb hxb (by simp) _ ⟨_, hW⟩).mono ?_; clear hW; rintro e W1 ⟨rfl, v1, hW1⟩; have z11 := cell_below u1 hW1.base; have z12 := cell_below u2 hW1.base; have z13 := hW1.cell.1)
    | (go_at_call 49; refine (join_call w2 _ rn [⟨#[111, 102, 102, 115, 101, 116, 61]⟩ ++ numB xb, ⟨#[97, 108, 105, 103, 110, 61]⟩ ++ numB xa] _ _ hW2 (by intro y hy; simp at hy; rcases hy with rfl | rfl | rfl <;> first | omega | (simp only [ByteArray.size_append]; have e0 : (⟨#[]⟩ : ByteArray).size = 0 := rfl; have e1 : (⟨#[111, 102, 102, 115, 101, 116, 61]⟩ : ByteArray).size = 7 := rfl; have e2 : (⟨#[97, 108, 105, 103, 110, 61]⟩ : ByteArray).size = 6 := rfl; omega)) (by simp)).mono ?_; rintro e wz ⟨rfl, hbz⟩))
  go_ret2
  exact ⟨rfl, hB2.trans ((hW2.base.trans (hbz.mono hW2.base.size)).mono hB2.size)⟩
end Go.Proofs.YtnonedmkdcbmfaaGreatDoor

/-
  Package module's Text, walked: it tells what the document's own answer tells. Contracts that the proofs call; no statement is proved here.
-/
namespace Go.Proofs.YtnonedmkdcbmfaaGreatDoor
open Go.RowKit


set_option maxRecDepth 100000 in
set_option maxHeartbeats 8000000 in
theorem mod_text_1a (xo xa xb : Int) (xp : Option Addr) (xc n : Nat) (xl : List Int) (hn : xl.length = n) (rc s : Int) (rn rp rr : ByteArray) (h : byCode xo = some ⟨rc, rn, s, rp, rr⟩) (hr : rightIns ⟨xo, xa, xb, xp, xc, xl⟩ = true) (hs : s = 1) (ha : xa = 127) (w : World) (hL : Laid w) (hX : InsAt w ⟨xo, xa, xb, xp, xc, xl⟩) :
    Calls Tryz.prog 17 #[.agg #[.int .i64 xo, .int .i64 xa, .int .i64 xb, .slice xp n xc]] w fun e w' => e = .returned (.tuple #[.string (joined ([rn, ⟨#[105, 51, 50]⟩])), .bool true]) ∧ Below w.heap.size w w' := by
  have c := fun o => op_says w hL ⟨xo, xa, xb, xp, xc, xl⟩ (w.alloc o) (below_alloc w o) (hX.below (below_alloc w o) (Nat.le_refl _))
  rw [hr] at c
  change ∀ o, Calls _ _ #[.agg #[.int .i64 xo, .int .i64 xa, .int .i64 xb, .slice xp xl.length xc]] _ _ at c
  rw [hn] at c
  have co := fun W (hW : Laid W) => op_of xo hX.2.2.1.1 hX.2.2.1.2 W hW.spaces
  rw [h] at co
  have hbd := byCode_bd h
  simp only [infoVal, Option.isSome_some] at hbd co
  have hrn : rn.size ≤ 30 := by omega
  have hxa := hX.2.2.2.1
  have hxb := hX.2.2.2.2.1
  have za := numB_size xa hxa
  have zb := numB_size xb hxb
  have eg := enters_add
  subst hs
  have hL1 := fun o => hL.alloc o
  clear h hr hbd
  clear hX hn za zb hxa hxb eg
  have cr := fun W => result_one xa ⟨#[105, 51, 50]⟩ (.inl ⟨ha, rfl⟩) W
  clear ha
  go_enter Tryz.func17, Tryz.ntmps17
  go_wp2_with (first
    | (go_at_call 39; (with_reducible refine (c _).mono ?_); rintro e w1 ⟨rfl, hb⟩; have ⟨m0, m1, m2⟩ := box_keep hb; have x0 : w1.cell? ⟨w.heap.size, 0, none⟩ = some (.int .i64 xo) := m0 0; have x1 : w1.cell? ⟨w.heap.size, 1, none⟩ = some (.int .i64 xa) := m0 1; have x2 : w1.cell? ⟨w.heap.size, 2, none⟩ = some (.int .i64 xb) := m0 2; have x3 : w1.cell? ⟨w.heap.size, 3, none⟩ = some (.slice xp n xc) := m0 3; clear m0 m1; have hL2 := hL.below m2)
    | (go_at_call 45; (with_reducible refine (co _ hL2).mono ?_); rintro e w2 ⟨rfl, hb2⟩; have u1 := cell_below x1 hb2; have u2 := cell_below x2 hb2; have u3 := cell_below x3 hb2; clear x0 x1 x2 x3; have y1 := box_far u1; have y2 := box_far u2; have y3 := box_far u3; have hB2 := bnext m2 m2.size hb2; have hL3 := hL2.below hb2; have hW := WAt.start w2 (.cells #[.string rn, .int .i64 1, .string rp, .string rr] 87) rn))
  have z1 := y1 (.cells #[.string rn, .int .i64 1, .string rp, .string rr] 87) (.cells #[.string rn] 9) (.cells #[.slice (some ⟨w2.heap.size + 1, 0, none⟩) 1 1] 90)
  clear y1 y2 y3
  obtain ⟨W, hWW⟩ : ∃ W, W = (((w2.alloc (.cells #[.string rn, .int .i64 1, .string rp, .string rr] 87)).alloc (.cells #[.string rn] 9)).alloc (.cells #[.slice (some ⟨w2.heap.size + 1, 0, none⟩) 1 1] 90)) := ⟨_, rfl⟩
  rw [← hWW] at hW z1 ⊢
  clear hWW
  have hA := hW.below (Below.refl W.heap.size W).drew
  have hAA := hA.below (below_alloc W.drew (.cells #[.string ⟨#[105, 51, 50]⟩] 9))
  obtain ⟨c0, f0⟩ := hW.cell
  have k1 := fun o => (World.cell?_alloc_lt W o (⟨w2.heap.size + 1 + 1, 0, none⟩ : Addr) hW.size).trans c0
  obtain ⟨i0, hi, hz0, hz1, hz2⟩ := info_parts str_info
  go_region_law (first
    | (refine step_own rfl (.tmp 27) (.tmp 30) 90 rfl w2.heap.size 9 i0 (.string ⟨#[]⟩) 1 16 Tryz.underlying90 hi hz0 hz1 hz2 rfl (by decide) _ 1 _ rfl hAA.row ⟨W.heap.size, 0, none⟩ 1 1 [.string ⟨#[105, 51, 50]⟩] rfl rfl (cell_one_new W.drew _ _) (by intro u hu; simp at hu; subst hu; rfl) (by unfold maxLen; omega) (by omega) hAA.base.size ?_; intro v' w3 hown' hgrow _ hloc; have hgc := hAA.kept2 hgrow; have e0 : w3.cell? ⟨w2.heap.size + 1 + 1, 0, none⟩ = some _ := hgc.1; have e1 : w3.frozen? ⟨w2.heap.size + 1 + 1, 0, none⟩ = false := hgc.2; obtain ⟨vp, vc, rfl⟩ := own_any hown')
    | (go_simp; go_at_call 48; refine (cr _).mono ?_; rintro e wq ⟨rfl, rfl⟩))
  all_goals
    have hS := hAA.set (ys := [rn, ⟨#[105, 51, 50]⟩]) hgrow (by simpa using hown') hloc
    have hc := hS.cell.1
    go_wp2_with (go_at_call 49; refine (join_call w2 _ rn [⟨#[105, 51, 50]⟩] _ _ hS (by intro y hy; simp at hy; rcases hy with rfl | rfl <;> first | omega | decide) (by simp)).mono ?_; rintro e wz ⟨rfl, hbz⟩)
    go_ret2
    exact ⟨rfl, hB2.trans ((hS.base.trans (hbz.mono hS.base.size)).mono hB2.size)⟩

set_option maxRecDepth 100000 in
set_option maxHeartbeats 8000000 in
theorem mod_text_1b (xo xa xb : Int) (xp : Option Addr) (xc n : Nat) (xl : List Int) (hn : xl.length = n) (rc s : Int) (rn rp rr : ByteArray) (h : byCode xo = some ⟨rc, rn, s, rp, rr⟩) (hr : rightIns ⟨xo, xa, xb, xp, xc, xl⟩ = true) (hs : s = 1) (ha : xa = 126) (w : World) (hL : Laid w) (hX : InsAt w ⟨xo, xa, xb, xp, xc, xl⟩) :
    Calls Tryz.prog 17 #[.agg #[.int .i64 xo, .int .i64 xa, .int .i64 xb, .slice xp n xc]] w fun e w' => e = .returned (.tuple #[.string (joined ([rn, ⟨#[105, 54, 52]⟩])), .bool true]) ∧ Below w.heap.size w w' := by
  have c := fun o => op_says w hL ⟨xo, xa, xb, xp, xc, xl⟩ (w.alloc o) (below_alloc w o) (hX.below (below_alloc w o) (Nat.le_refl _))
  rw [hr] at c
  change ∀ o, Calls _ _ #[.agg #[.int .i64 xo, .int .i64 xa, .int .i64 xb, .slice xp xl.length xc]] _ _ at c
  rw [hn] at c
  have co := fun W (hW : Laid W) => op_of xo hX.2.2.1.1 hX.2.2.1.2 W hW.spaces
  rw [h] at co
  have hbd := byCode_bd h
  simp only [infoVal, Option.isSome_some] at hbd co
  have hrn : rn.size ≤ 30 := by omega
  have hxa := hX.2.2.2.1
  have hxb := hX.2.2.2.2.1
  have za := numB_size xa hxa
  have zb := numB_size xb hxb
  have eg := enters_add
  subst hs
  have hL1 := fun o => hL.alloc o
  clear h hr hbd
  clear hX hn za zb hxa hxb eg
  have cr := fun W => result_one xa ⟨#[105, 54, 52]⟩ (.inr ⟨ha, rfl⟩) W
  clear ha
  go_enter Tryz.func17, Tryz.ntmps17
  go_wp2_with (first
    | (go_at_call 39; (with_reducible refine (c _).mono ?_); rintro e w1 ⟨rfl, hb⟩; have ⟨m0, m1, m2⟩ := box_keep hb; have x0 : w1.cell? ⟨w.heap.size, 0, none⟩ = some (.int .i64 xo) := m0 0; have x1 : w1.cell? ⟨w.heap.size, 1, none⟩ = some (.int .i64 xa) := m0 1; have x2 : w1.cell? ⟨w.heap.size, 2, none⟩ = some (.int .i64 xb) := m0 2; have x3 : w1.cell? ⟨w.heap.size, 3, none⟩ = some (.slice xp n xc) := m0 3; clear m0 m1; have hL2 := hL.below m2)
    | (go_at_call 45; (with_reducible refine (co _ hL2).mono ?_); rintro e w2 ⟨rfl, hb2⟩; have u1 := cell_below x1 hb2; have u2 := cell_below x2 hb2; have u3 := cell_below x3 hb2; clear x0 x1 x2 x3; have y1 := box_far u1; have y2 := box_far u2; have y3 := box_far u3; have hB2 := bnext m2 m2.size hb2; have hL3 := hL2.below hb2; have hW := WAt.start w2 (.cells #[.string rn, .int .i64 1, .string rp, .string rr] 87) rn))
  have z1 := y1 (.cells #[.string rn, .int .i64 1, .string rp, .string rr] 87) (.cells #[.string rn] 9) (.cells #[.slice (some ⟨w2.heap.size + 1, 0, none⟩) 1 1] 90)
  clear y1 y2 y3
  obtain ⟨W, hWW⟩ : ∃ W, W = (((w2.alloc (.cells #[.string rn, .int .i64 1, .string rp, .string rr] 87)).alloc (.cells #[.string rn] 9)).alloc (.cells #[.slice (some ⟨w2.heap.size + 1, 0, none⟩) 1 1] 90)) := ⟨_, rfl⟩
  rw [← hWW] at hW z1 ⊢
  clear hWW
  have hA := hW.below (Below.refl W.heap.size W).drew
  have hAA := hA.below (below_alloc W.drew (.cells #[.string ⟨#[105, 54, 52]⟩] 9))
  obtain ⟨c0, f0⟩ := hW.cell
  have k1 := fun o => (World.cell?_alloc_lt W o (⟨w2.heap.size + 1 + 1, 0, none⟩ : Addr) hW.size).trans c0
  obtain ⟨i0, hi, hz0, hz1, hz2⟩ := info_parts str_info
  go_region_law (first
    | (refine step_own rfl (.tmp 27) (.tmp 30) 90 rfl w2.heap.size 9 i0 (.string ⟨#[]⟩) 1 16 Tryz.underlying90 hi hz0 hz1 hz2 rfl (by decide) _ 1 _ rfl hAA.row ⟨W.heap.size, 0, none⟩ 1 1 [.string ⟨#[105, 54, 52]⟩] rfl rfl (cell_one_new W.drew _ _) (by intro u hu; simp at hu; subst hu; rfl) (by unfold maxLen; omega) (by omega) hAA.base.size ?_; intro v' w3 hown' hgrow _ hloc; have hgc := hAA.kept2 hgrow; have e0 : w3.cell? ⟨w2.heap.size + 1 + 1, 0, none⟩ = some _ := hgc.1; have e1 : w3.frozen? ⟨w2.heap.size + 1 + 1, 0, none⟩ = false := hgc.2; obtain ⟨vp, vc, rfl⟩ := own_any hown')
    | (go_simp; go_at_call 48; refine (cr _).mono ?_; rintro e wq ⟨rfl, rfl⟩))
  all_goals
    have hS := hAA.set (ys := [rn, ⟨#[105, 54, 52]⟩]) hgrow (by simpa using hown') hloc
    have hc := hS.cell.1
    go_wp2_with (go_at_call 49; refine (join_call w2 _ rn [⟨#[105, 54, 52]⟩] _ _ hS (by intro y hy; simp at hy; rcases hy with rfl | rfl <;> first | omega | decide) (by simp)).mono ?_; rintro e wz ⟨rfl, hbz⟩)
    go_ret2
    exact ⟨rfl, hB2.trans ((hS.base.trans (hbz.mono hS.base.size)).mono hB2.size)⟩

set_option maxRecDepth 100000 in
set_option maxHeartbeats 8000000 in
theorem mod_text_1c (xo xa xb : Int) (xp : Option Addr) (xc n : Nat) (xl : List Int) (hn : xl.length = n) (rc s : Int) (rn rp rr : ByteArray) (h : byCode xo = some ⟨rc, rn, s, rp, rr⟩) (hr : rightIns ⟨xo, xa, xb, xp, xc, xl⟩ = true) (hs : s = 1) (ha : xa ≠ 127 ∧ xa ≠ 126) (w : World) (hL : Laid w) (hX : InsAt w ⟨xo, xa, xb, xp, xc, xl⟩) :
    Calls Tryz.prog 17 #[.agg #[.int .i64 xo, .int .i64 xa, .int .i64 xb, .slice xp n xc]] w fun e w' => e = .returned (.tuple #[.string (joined ([rn])), .bool true]) ∧ Below w.heap.size w w' := by
  have c := fun o => op_says w hL ⟨xo, xa, xb, xp, xc, xl⟩ (w.alloc o) (below_alloc w o) (hX.below (below_alloc w o) (Nat.le_refl _))
  rw [hr] at c
  change ∀ o, Calls _ _ #[.agg #[.int .i64 xo, .int .i64 xa, .int .i64 xb, .slice xp xl.length xc]] _ _ at c
  rw [hn] at c
  have co := fun W (hW : Laid W) => op_of xo hX.2.2.1.1 hX.2.2.1.2 W hW.spaces
  rw [h] at co
  have hbd := byCode_bd h
  simp only [infoVal, Option.isSome_some] at hbd co
  have hrn : rn.size ≤ 30 := by omega
  have hxa := hX.2.2.2.1
  have hxb := hX.2.2.2.2.1
  have za := numB_size xa hxa
  have zb := numB_size xb hxb
  have eg := enters_add
  subst hs
  have hL1 := fun o => hL.alloc o
  clear h hr hbd
  have cr := fun W => result_none xa ha.1 ha.2 W
  clear ha hX hn za zb hxa hxb eg
  go_enter Tryz.func17, Tryz.ntmps17
  go_wp2_with (first
    | (go_at_call 39; (with_reducible refine (c _).mono ?_); rintro e w1 ⟨rfl, hb⟩; have ⟨m0, m1, m2⟩ := box_keep hb; have x0 : w1.cell? ⟨w.heap.size, 0, none⟩ = some (.int .i64 xo) := m0 0; have x1 : w1.cell? ⟨w.heap.size, 1, none⟩ = some (.int .i64 xa) := m0 1; have x2 : w1.cell? ⟨w.heap.size, 2, none⟩ = some (.int .i64 xb) := m0 2; have x3 : w1.cell? ⟨w.heap.size, 3, none⟩ = some (.slice xp n xc) := m0 3; clear m0 m1; have hL2 := hL.below m2)
    | (go_at_call 45; (with_reducible refine (co _ hL2).mono ?_); rintro e w2 ⟨rfl, hb2⟩; have u1 := cell_below x1 hb2; have u2 := cell_below x2 hb2; have u3 := cell_below x3 hb2; clear x0 x1 x2 x3; have y1 := box_far u1; have y2 := box_far u2; have y3 := box_far u3; have hB2 := bnext m2 m2.size hb2; have hL3 := hL2.below hb2; have hW := WAt.start w2 (.cells #[.string rn, .int .i64 1, .string rp, .string rr] 87) rn))
  have z1 := y1 (.cells #[.string rn, .int .i64 1, .string rp, .string rr] 87) (.cells #[.string rn] 9) (.cells #[.slice (some ⟨w2.heap.size + 1, 0, none⟩) 1 1] 90)
  clear y1 y2 y3
  obtain ⟨W, hWW⟩ : ∃ W, W = (((w2.alloc (.cells #[.string rn, .int .i64 1, .string rp, .string rr] 87)).alloc (.cells #[.string rn] 9)).alloc (.cells #[.slice (some ⟨w2.heap.size + 1, 0, none⟩) 1 1] 90)) := ⟨_, rfl⟩
  rw [← hWW] at hW z1 ⊢
  clear hWW
  have hA := hW.below (Below.refl W.heap.size W).drew
  obtain ⟨c0, f0⟩ := hW.cell
  obtain ⟨i0, hi, hz0, hz1, hz2⟩ := info_parts str_info
  go_region_law (go_simp; go_at_call 48; refine (cr _).mono ?_; rintro e wq ⟨rfl, rfl⟩)
  all_goals
    have hS := hA.set (grown_refl _ _) hA.row (.inl rfl)
    have hc := hS.cell.1
    go_wp2_with (go_at_call 49; refine (join_call w2 _ rn [] _ _ hS (by intro y hy; simp at hy; subst hy; omega) (by simp)).mono ?_; rintro e wz ⟨rfl, hbz⟩)
    go_ret2
    exact ⟨rfl, hB2.trans ((hS.base.trans (hbz.mono hS.base.size)).mono hB2.size)⟩
end Go.Proofs.YtnonedmkdcbmfaaGreatDoor

/-
  Package module's Text, walked: it tells what the document's own answer tells. Contracts that the proofs call; no statement is proved here.
-/
namespace Go.Proofs.YtnonedmkdcbmfaaGreatDoor
open Go.RowKit


set_option maxRecDepth 100000 in
set_option maxHeartbeats 8000000 in
theorem mod_text_3 (xo xa xb : Int) (xp : Option Addr) (xc n : Nat) (xl : List Int) (hn : xl.length = n) (rc s : Int) (rn rp rr : ByteArray) (h : byCode xo = some ⟨rc, rn, s, rp, rr⟩) (hr : rightIns ⟨xo, xa, xb, xp, xc, xl⟩ = true) (hs : s = 3) (w : World) (hL : Laid w) (hX : InsAt w ⟨xo, xa, xb, xp, xc, xl⟩) :
    Calls Tryz.prog 17 #[.agg #[.int .i64 xo, .int .i64 xa, .int .i64 xb, .slice xp n xc]] w fun e w' => e = .returned (.tuple #[.string (joined (rn :: (xl.map (fun m => (⟨#[]⟩ : ByteArray) ++ numB m) ++ [⟨#[]⟩ ++ numB xa]))), .bool true]) ∧ Below w.heap.size w w' := by
  have c := fun o => op_says w hL ⟨xo, xa, xb, xp, xc, xl⟩ (w.alloc o) (below_alloc w o) (hX.below (below_alloc w o) (Nat.le_refl _))
  rw [hr] at c
  change ∀ o, Calls _ _ #[.agg #[.int .i64 xo, .int .i64 xa, .int .i64 xb, .slice xp xl.length xc]] _ _ at c
  rw [hn] at c
  have co := fun W (hW : Laid W) => op_of xo hX.2.2.1.1 hX.2.2.1.2 W hW.spaces
  rw [h] at co
  have hbd := byCode_bd h
  simp only [infoVal, Option.isSome_some] at hbd co
  have hrn : rn.size ≤ 30 := by omega
  have hxa := hX.2.2.2.1
  have hxb := hX.2.2.2.2.1
  have za := numB_size xa hxa
  have zb := numB_size xb hxb
  have eg := enters_add
  have hmost := right_labels h hs hr
  subst hs
  have hL1 := fun o => hL.alloc o
  have hlab := hX.2.2.2.2.2
  have hints := hX.1
  have HN := Lib.hid hn
  have hmost' : n ≤ 4096 := by omega
  clear h hr hbd hX hn hmost
  have hsz : ∀ k, ∀ y ∈ rn :: (xl.take k).map (fun m => (⟨#[]⟩ : ByteArray) ++ numB m), y.size ≤ 60 := fun k y hy => by
    rcases List.mem_cons.1 hy with rfl | hy
    · omega
    · obtain ⟨m, hm, rfl⟩ := List.mem_map.1 hy
      have := numB_size m (hlab m (List.mem_of_mem_take hm))
      rw [ByteArray.size_append]
      have e0 : (⟨#[]⟩ : ByteArray).size = 0 := rfl
      omega
  go_enter Tryz.func17, Tryz.ntmps17
  go_wp2_with (first
    | (go_at_call 39; (with_reducible refine (c _).mono ?_); rintro e w1 ⟨rfl, hb⟩; have ⟨m0, m1, m2⟩ := box_keep hb; have x0 : w1.cell? ⟨w.heap.size, 0, none⟩ = some (.int .i64 xo) := m0 0; have x1 : w1.cell? ⟨w.heap.size, 1, none⟩ = some (.int .i64 xa) := m0 1; have x2 : w1.cell? ⟨w.heap.size, 2, none⟩ = some (.int .i64 xb) := m0 2; have x3 : w1.cell? ⟨w.heap.size, 3, none⟩ = some (.slice xp n xc) := m0 3; clear m0 m1; have hL2 := hL.below m2)
    | (go_at_call 45; (with_reducible refine (co _ hL2).mono ?_); rintro e w2 ⟨rfl, hb2⟩; have u1 := cell_below x1 hb2; have u2 := cell_below x2 hb2; have u3 := cell_below x3 hb2; clear x0 x1 x2 x3; have y1 := box_far u1; have y2 := box_far u2; have y3 := box_far u3; have hB2 := bnext m2 m2.size hb2; have hL3 := hL2.below hb2; have hW := WAt.start w2 (.cells #[.string rn, .int .i64 3, .string rp, .string rr] 87) rn))
  clear y1 y2 y3 co c hL1
  go_loopw [37] (fun i wr => ∃ k : Nat, k ≤ n ∧ i = .int .i64 k ∧ ∃ v, WAt w2 (w2.heap.size + 1 + 1) (rn :: (xl.take k).map (fun m => (⟨#[]⟩ : ByteArray) ++ numB m)) v wr) (fun i _ => n - (intOf i).toNat)
  case atStart => exact ⟨0, by omega, rfl, _, hW⟩
  case round =>
    clear hW
    obtain ⟨k, hk, rfl, v, hW⟩ := hrel
    have hBw := hB2.trans (hW.base.mono hB2.size)
    by_cases hlt : k < n
    · have hlt' : k < xl.length := by have := HN.out; omega
      obtain ⟨b, o, e, hbk, e0⟩ := hints.below hBw (Nat.le_refl _) k hlt'
      subst e
      have hin := hlab xl[k] (List.getElem_mem hlt')
      have hts : (xl.take (k + 1)).map (fun m => (⟨#[]⟩ : ByteArray) ++ numB m) = (xl.take k).map (fun m => (⟨#[]⟩ : ByteArray) ++ numB m) ++ [(⟨#[]⟩ : ByteArray) ++ numB xl[k]] := by
        rw [List.take_add_one, List.getElem?_eq_getElem hlt', List.map_append]; rfl
      have ca := add_call w2 (w2.heap.size + 1 + 1) hL3 (rn :: (xl.take k).map (fun m => (⟨#[]⟩ : ByteArray) ++ numB m)) ⟨#[]⟩ (by decide) xl[k] hin (by have := List.length_take_le k xl; simp; omega) wr ⟨v, hW⟩
      rw [List.cons_append, ← hts] at ca
      generalize xl[k] = m at *
      have HT := Lib.hid hts
      clear hts
      go_wp2_with (go_at_fn 46; refine ca.mono ?_; rintro e W1 ⟨rfl, v1, hW1⟩)
      go_roundw
      case rel => exact ⟨k + 1, by omega, by go_num, v1, hW1⟩
      case measure => simp [intOf]; omega
    · have hk' : (xl.take k) = xl := List.take_of_length_le (by have := HN.out; omega)
      have hs2 := hsz k
      rw [hk'] at hW hs2
      have z1 := cell_below u1 hW.base
      have ca := add_call w2 (w2.heap.size + 1 + 1) hL3 (rn :: xl.map (fun m => (⟨#[]⟩ : ByteArray) ++ numB m)) ⟨#[]⟩ (by decide) xa hxa (by have := HN.out; simp; omega) wr ⟨v, hW⟩
      have hs3 : ∀ y ∈ rn :: (xl.map (fun m => (⟨#[]⟩ : ByteArray) ++ numB m) ++ [(⟨#[]⟩ : ByteArray) ++ numB xa]), y.size ≤ 60 := fun y hy => by
        rcases List.mem_append.1 (show y ∈ (rn :: xl.map (fun m => (⟨#[]⟩ : ByteArray) ++ numB m)) ++ [(⟨#[]⟩ : ByteArray) ++ numB xa] from hy) with h | h
        · exact hs2 y h
        · rw [List.mem_singleton.1 h, ByteArray.size_append]
          have e0 : (⟨#[]⟩ : ByteArray).size = 0 := rfl
          omega
      have HL := Lib.hid (show (xl.map (fun m => (⟨#[]⟩ : ByteArray) ++ numB m) ++ [(⟨#[]⟩ : ByteArray) ++ numB xa]).length ≤ 100000 by have := HN.out; simp; omega)
      clear hk' hs2
      go_wp2_with (first
        | (go_at_fn 46; refine ca.mono ?_; clear ca; rintro e W1 ⟨rfl, v1, hW1⟩; have c1 := hW1.cell.1)
        | (go_at_call 49; refine (join_call w2 _ rn _ _ _ hW1 hs3 HL.out).mono ?_; rintro e wz ⟨rfl, hbz⟩))
      go_ret2
      exact ⟨rfl, hB2.trans ((hW1.base.trans (hbz.mono hW1.base.size)).mono hB2.size)⟩

theorem joined_two (rn d : ByteArray) : joined [rn, d] = rn ++ ⟨#[32]⟩ ++ d := by
  have := joined_snoc rn [] d
  rwa [joined_one] at this
theorem joined_three (rn d e : ByteArray) : joined [rn, d, e] = rn ++ ⟨#[32]⟩ ++ d ++ ⟨#[32]⟩ ++ e := by
  have := joined_snoc rn [d] e
  rwa [joined_two] at this
theorem joined_mem (rn b a : ByteArray) : joined [rn, ⟨#[111, 102, 102, 115, 101, 116, 61]⟩ ++ b, ⟨#[97, 108, 105, 103, 110, 61]⟩ ++ a] = rn ++ ⟨#[32, 111, 102, 102, 115, 101, 116, 61]⟩ ++ b ++ ⟨#[32, 97, 108, 105, 103, 110, 61]⟩ ++ a := by
  rw [joined_three]
  refine ByteArray.ext ?_
  simp only [ByteArray.data_append]
  apply Array.ext'
  simp
theorem joined_labels (rn : ByteArray) : ∀ (k : Nat) (l : List Int), l.length = k → joined (rn :: l.map fun m => (⟨#[]⟩ : ByteArray) ++ numB m) = l.foldl labelStep rn := by
  intro k
  induction k with
  | zero => intro l h; obtain rfl : l = [] := List.eq_nil_of_length_eq_zero h; exact joined_one rn
  | succ k ih =>
    intro l h
    rcases List.eq_nil_or_concat l with e | ⟨q, m, e⟩
    · rw [e] at h; cases h
    · rw [List.concat_eq_append] at e
      subst e
      rw [List.map_append, List.map_cons, List.map_nil, joined_snoc, ih q (by simpa using h), nothing_ahead, List.foldl_append]
      rfl
theorem lit_join (a : ByteArray) (x y : Array UInt8) : a ++ ⟨x⟩ ++ ⟨y⟩ = a ++ ⟨x ++ y⟩ := ByteArray.ext (by simp [ByteArray.data_append])

set_option maxRecDepth 100000 in
set_option maxHeartbeats 4000000 in
theorem mod_text (x : InsV) (w : World) (hL : Laid w) (hX : InsAt w x) :
    Calls Tryz.prog 17 #[x.val] w fun e w' => e = .returned (.tuple #[.string (textOf x), .bool (rightIns x)]) ∧ Below w.heap.size w w' := by
  cases hr : rightIns x with
  | false =>
    have e : textOf x = ⟨#[]⟩ := by unfold textOf; rw [hr]; rfl
    rw [e]
    exact mod_text_not x hr w hL hX
  | true =>
    obtain ⟨xo, xa, xb, xp, xc, xl⟩ := x
    cases h : byCode xo with
    | none => simp [rightIns, h, rightOf] at hr
    | some r =>
      have e : textOf ⟨xo, xa, xb, xp, xc, xl⟩ = textFrom r ⟨xo, xa, xb, xp, xc, xl⟩ := by unfold textOf; rw [hr]; simp only [h, if_true]
      rw [e]
      have hbd := byCode_bd h
      obtain ⟨rc, rn, s, rp, rr⟩ := r
      simp only at hbd
      have hs : s = 0 ∨ s = 1 ∨ s = 2 ∨ s = 3 ∨ s = 4 ∨ s = 5 ∨ s = 6 ∨ s = 7 := by omega
      simp only [InsV.val]
      rcases hs with hs | hs | hs | hs | hs | hs | hs | hs
      · have g := mod_text_0 xo xa xb xp xc _ xl rfl rc s rn rp rr h hr hs w hL hX; rw [joined_one] at g; simpa [textFrom, hs] using g
      · by_cases h1 : xa = 127
        · have g := mod_text_1a xo xa xb xp xc _ xl rfl rc s rn rp rr h hr hs h1 w hL hX; rw [joined_two, lit_join] at g; simpa [textFrom, hs, h1] using g
        · by_cases h2 : xa = 126
          · have g := mod_text_1b xo xa xb xp xc _ xl rfl rc s rn rp rr h hr hs h2 w hL hX; rw [joined_two, lit_join] at g; simpa [textFrom, hs, h2] using g
          · have g := mod_text_1c xo xa xb xp xc _ xl rfl rc s rn rp rr h hr hs ⟨h1, h2⟩ w hL hX; rw [joined_one] at g; simpa [textFrom, hs, h1, h2] using g
      · have g := mod_text_2 xo xa xb xp xc _ xl rfl rc s rn rp rr h hr hs w hL hX; rw [joined_two, nothing_ahead] at g; simpa [textFrom, hs] using g
      · have g := mod_text_3 xo xa xb xp xc _ xl rfl rc s rn rp rr h hr hs w hL hX
        rw [joined_snoc, joined_labels rn _ xl rfl, nothing_ahead] at g
        have e3 : textFrom ⟨rc, rn, s, rp, rr⟩ ⟨xo, xa, xb, xp, xc, xl⟩ = xl.foldl labelStep rn ++ ⟨#[32]⟩ ++ numB xa := by subst hs; rfl
        rw [e3]; exact g
      · have g := mod_text_4 xo xa xb xp xc _ xl rfl rc s rn rp rr h hr hs w hL hX; rw [joined_two, nothing_ahead] at g; simpa [textFrom, hs] using g
      · have g := mod_text_5 xo xa xb xp xc _ xl rfl rc s rn rp rr h hr hs w hL hX
        rw [joined_mem] at g
        simpa [textFrom, hs] using g
      · have g := mod_text_6 xo xa xb xp xc _ xl rfl rc s rn rp rr h hr hs w hL hX; rw [joined_one] at g; simpa [textFrom, hs] using g
      · have g := mod_text_7 xo xa xb xp xc _ xl rfl rc s rn rp rr h hr hs w hL hX; rw [joined_two, nothing_ahead] at g; simpa [textFrom, hs] using g
end Go.Proofs.YtnonedmkdcbmfaaGreatDoor
