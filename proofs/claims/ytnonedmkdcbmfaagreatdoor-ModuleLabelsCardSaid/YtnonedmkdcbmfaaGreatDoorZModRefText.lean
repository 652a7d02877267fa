/-
  An instruction's text, by the document's own answer (chapter 4): walked. A contract that the proofs call; no statement is proved here.
-/
import Derived.Test.YtnonedmkdcbmfaaGreatDoorZModAt
import Derived.Test.YtnonedmkdcbmfaaGreatDoorZModDigits
import Derived.Deep.RegionWith
namespace Go.Proofs.YtnonedmkdcbmfaaGreatDoor
open Go.RowKit

/-- A number's text. -/
def numB (n : Int) : ByteArray := ⟨(Lib.itoa n).toArray⟩
/-- What stands behind an instruction's name. -/
def textFrom (r : Rw) (x : InsV) : ByteArray :=
  if r.shape = 1 then (if x.a = 127 then r.name ++ ⟨#[32, 105, 51, 50]⟩ else if x.a = 126 then r.name ++ ⟨#[32, 105, 54, 52]⟩ else r.name)
  else if r.shape = 3 then x.ls.foldl (fun s n => s ++ ⟨#[32]⟩ ++ numB n) r.name ++ ⟨#[32]⟩ ++ numB x.a
  else if r.shape = 5 then r.name ++ ⟨#[32, 111, 102, 102, 115, 101, 116, 61]⟩ ++ numB x.b ++ ⟨#[32, 97, 108, 105, 103, 110, 61]⟩ ++ numB x.a
  else if r.shape = 0 ∨ r.shape = 6 then r.name
  else r.name ++ ⟨#[32]⟩ ++ numB x.a
def textOf (x : InsV) : ByteArray := if rightIns x then (match byCode x.op with | some r => textFrom r x | none => ⟨#[]⟩) else ⟨#[]⟩
theorem numB_size (n : Int) (h : inI64 n) : (numB n).size ≤ 21 := by
  have := itoa_len n h.1 h.2
  simpa [numB, ByteArray.size] using this

set_option maxRecDepth 100000 in
set_option maxHeartbeats 4000000 in
theorem ref_text_not (x : InsV) (h : rightIns x = false) (w : World) (hX : InsAt w x) :
    Calls Tryz.prog 18 #[x.val] w fun e w' => e = .returned (.tuple #[.string ⟨#[]⟩, .bool false]) ∧ Below w.heap.size w w' := by
  have hB := (Below.refl w.heap.size w).alloc (Nat.le_refl _) (.cells #[.int .i64 x.op, .int .i64 x.a, .int .i64 x.b, .slice x.lp x.ls.length x.lc] 40)
  have hx := hX.below hB (Nat.le_refl _)
  have c := ref_right x.op x.a x.b x.lp x.ls.length x.lc x.ls rfl hx.2.1 _ hx.1
  change Calls _ _ _ _ fun e w' => e = .returned (.bool (rightIns x)) ∧ _ at c
  rw [h] at c
  clear h hX hx
  obtain ⟨xo, xa, xb, xp, xc, xl⟩ := x
  simp only [InsV.val] at *
  generalize xl.length = n at *
  go_enter Tryz.func18, Tryz.ntmps18
  go_wp2_with (go_at_call 50; (with_reducible refine c.mono ?_); rintro e w1 ⟨rfl, hb⟩)
  go_ret2
  exact ⟨rfl, bnextR hB (by simp) hb⟩

/-- The texts of right instructions: what is walked of each. -/
theorem box4 {w w1 : World} {a b c d : Value} {t : TypeId} (hB : Below (w.alloc (.cells #[a, b, c, d] t)).heap.size (w.alloc (.cells #[a, b, c, d] t)) w1) :
    w1.cell? ⟨w.heap.size, 0, none⟩ = some a ∧ w1.cell? ⟨w.heap.size, 1, none⟩ = some b ∧ w1.cell? ⟨w.heap.size, 2, none⟩ = some c ∧ w1.cell? ⟨w.heap.size, 3, none⟩ = some d := by
  have h := res_cells hB
  exact ⟨h.1, h.2.1, h.2.2.1, h.2.2.2.1⟩

set_option maxRecDepth 100000 in
set_option maxHeartbeats 8000000 in
theorem ref_text_0 (xo xa xb : Int) (xp : Option Addr) (xc n : Nat) (xl : List Int) (hn : xl.length = n) (rc s : Int) (rn rp rr : ByteArray) (h : byCode xo = some ⟨rc, rn, s, rp, rr⟩) (hr : rightIns ⟨xo, xa, xb, xp, xc, xl⟩ = true) (hs : s = 0) (w : World) (hX : InsAt w ⟨xo, xa, xb, xp, xc, xl⟩) :
    Calls Tryz.prog 18 #[.agg #[.int .i64 xo, .int .i64 xa, .int .i64 xb, .slice xp n xc]] w fun e w' => e = .returned (.tuple #[.string (rn), .bool true]) ∧ Below w.heap.size w w' := by
  have hB := (Below.refl w.heap.size w).alloc (Nat.le_refl _) (.cells #[.int .i64 xo, .int .i64 xa, .int .i64 xb, .slice xp n xc] 40)
  have hx := hX.below hB (Nat.le_refl _)
  have c := ref_right xo xa xb xp xl.length xc xl rfl hx.2.1 _ hx.1
  change Calls _ _ _ _ fun e w' => e = .returned (.bool (rightIns ⟨xo, xa, xb, xp, xc, xl⟩)) ∧ _ at c
  rw [hr, hn] at c
  have co := of_some h
  have hbd := byCode_bd h
  simp only at hbd co
  have ca := ref_Digits xa hX.2.2.2.1.1 hX.2.2.2.1.2
  have cb := ref_Digits xb hX.2.2.2.2.1.1 hX.2.2.2.2.1.2
  have za := numB_size xa hX.2.2.2.1
  have zb := numB_size xb hX.2.2.2.2.1
  change ∀ w, Calls _ _ _ w fun e w' => e = .returned (.string (numB xa)) ∧ _ at ca
  change ∀ w, Calls _ _ _ w fun e w' => e = .returned (.string (numB xb)) ∧ _ at cb
  generalize numB xa = A at *
  generalize numB xb = Bq at *
  subst hs
  clear ca za
  clear h hr hX hx cb zb hn
  go_enter Tryz.func18, Tryz.ntmps18
  go_wp2_with (first
    | (go_at_call 50; (with_reducible refine c.mono ?_); rintro e w1 ⟨rfl, hb⟩; have ⟨q0, q1, q2, q3⟩ := box4 hb; have hB1 := bnextR hB (by simp) hb)
    | (go_at_call 51; (with_reducible refine (co _).mono ?_); rintro e w2 ⟨rfl, hb2⟩; have hb3 := hb.trans (hb2.mono hb.size); have ⟨r0, r1, r2, r3⟩ := box4 hb3; have hB2 := bnextR hB1 hB1.size hb2; have hs2 : w.heap.size < w2.heap.size := Nat.lt_of_lt_of_le (by simp) hb3.size; have t1 := fun o => (World.cell?_alloc_lt w2 o (⟨w.heap.size, 1, none⟩ : Addr) hs2).trans r1; have t2 := fun o => (World.cell?_alloc_lt w2 o (⟨w.heap.size, 2, none⟩ : Addr) hs2).trans r2; have t3 := fun o => (World.cell?_alloc_lt w2 o (⟨w.heap.size, 3, none⟩ : Addr) hs2).trans r3))
  all_goals go_ret2
  all_goals exact ⟨rfl, hB2.alloc hB2.size _⟩

set_option maxRecDepth 100000 in
set_option maxHeartbeats 8000000 in
theorem ref_text_6 (xo xa xb : Int) (xp : Option Addr) (xc n : Nat) (xl : List Int) (hn : xl.length = n) (rc s : Int) (rn rp rr : ByteArray) (h : byCode xo = some ⟨rc, rn, s, rp, rr⟩) (hr : rightIns ⟨xo, xa, xb, xp, xc, xl⟩ = true) (hs : s = 6) (w : World) (hX : InsAt w ⟨xo, xa, xb, xp, xc, xl⟩) :
    Calls Tryz.prog 18 #[.agg #[.int .i64 xo, .int .i64 xa, .int .i64 xb, .slice xp n xc]] w fun e w' => e = .returned (.tuple #[.string (rn), .bool true]) ∧ Below w.heap.size w w' := by
  have hB := (Below.refl w.heap.size w).alloc (Nat.le_refl _) (.cells #[.int .i64 xo, .int .i64 xa, .int .i64 xb, .slice xp n xc] 40)
  have hx := hX.below hB (Nat.le_refl _)
  have c := ref_right xo xa xb xp xl.length xc xl rfl hx.2.1 _ hx.1
  change Calls _ _ _ _ fun e w' => e = .returned (.bool (rightIns ⟨xo, xa, xb, xp, xc, xl⟩)) ∧ _ at c
  rw [hr, hn] at c
  have co := of_some h
  have hbd := byCode_bd h
  simp only at hbd co
  have ca := ref_Digits xa hX.2.2.2.1.1 hX.2.2.2.1.2
  have cb := ref_Digits xb hX.2.2.2.2.1.1 hX.2.2.2.2.1.2
  have za := numB_size xa hX.2.2.2.1
  have zb := numB_size xb hX.2.2.2.2.1
  change ∀ w, Calls _ _ _ w fun e w' => e = .returned (.string (numB xa)) ∧ _ at ca
  change ∀ w, Calls _ _ _ w fun e w' => e = .returned (.string (numB xb)) ∧ _ at cb
  generalize numB xa = A at *
  generalize numB xb = Bq at *
  subst hs
  clear ca za
  clear h hr hX hx cb zb hn
  go_enter Tryz.func18, Tryz.ntmps18
  go_wp2_with (first
    | (go_at_call 50; (with_reducible refine c.mono ?_); rintro e w1 ⟨rfl, hb⟩; have ⟨q0, q1, q2, q3⟩ := box4 hb; have hB1 := bnextR hB (by simp) hb)
    | (go_at_call 51; (with_reducible refine (co _).mono ?_); rintro e w2 ⟨rfl, hb2⟩; have hb3 := hb.trans (hb2.mono hb.size); have ⟨r0, r1, r2, r3⟩ := box4 hb3; have hB2 := bnextR hB1 hB1.size hb2; have hs2 : w.heap.size < w2.heap.size := Nat.lt_of_lt_of_le (by simp) hb3.size; have t1 := fun o => (World.cell?_alloc_lt w2 o (⟨w.heap.size, 1, none⟩ : Addr) hs2).trans r1; have t2 := fun o => (World.cell?_alloc_lt w2 o (⟨w.heap.size, 2, none⟩ : Addr) hs2).trans r2; have t3 := fun o => (World.cell?_alloc_lt w2 o (⟨w.heap.size, 3, none⟩ : Addr) hs2).trans r3))
  all_goals go_ret2
  all_goals exact ⟨rfl, hB2.alloc hB2.size _⟩

set_option maxRecDepth 100000 in
set_option maxHeartbeats 8000000 in
theorem ref_text_1a (xo xa xb : Int) (xp : Option Addr) (xc n : Nat) (xl : List Int) (hn : xl.length = n) (rc s : Int) (rn rp rr : ByteArray) (h : byCode xo = some ⟨rc, rn, s, rp, rr⟩) (hr : rightIns ⟨xo, xa, xb, xp, xc, xl⟩ = true) (hs : s = 1) (ha : xa = 127) (w : World) (hX : InsAt w ⟨xo, xa, xb, xp, xc, xl⟩) :
    Calls Tryz.prog 18 #[.agg #[.int .i64 xo, .int .i64 xa, .int .i64 xb, .slice xp n xc]] w fun e w' => e = .returned (.tuple #[.string (rn ++ ⟨#[32, 105, 51, 50]⟩), .bool true]) ∧ Below w.heap.size w w' := by
  have hB := (Below.refl w.heap.size w).alloc (Nat.le_refl _) (.cells #[.int .i64 xo, .int .i64 xa, .int .i64 xb, .slice xp n xc] 40)
  have hx := hX.below hB (Nat.le_refl _)
  have c := ref_right xo xa xb xp xl.length xc xl rfl hx.2.1 _ hx.1
  change Calls _ _ _ _ fun e w' => e = .returned (.bool (rightIns ⟨xo, xa, xb, xp, xc, xl⟩)) ∧ _ at c
  rw [hr, hn] at c
  have co := of_some h
  have hbd := byCode_bd h
  simp only at hbd co
  have ca := ref_Digits xa hX.2.2.2.1.1 hX.2.2.2.1.2
  have cb := ref_Digits xb hX.2.2.2.2.1.1 hX.2.2.2.2.1.2
  have za := numB_size xa hX.2.2.2.1
  have zb := numB_size xb hX.2.2.2.2.1
  change ∀ w, Calls _ _ _ w fun e w' => e = .returned (.string (numB xa)) ∧ _ at ca
  change ∀ w, Calls _ _ _ w fun e w' => e = .returned (.string (numB xb)) ∧ _ at cb
  generalize numB xa = A at *
  generalize numB xb = Bq at *
  subst hs
  clear ca za
  clear h hr hX hx cb zb hn
  subst ha
  go_enter Tryz.func18, Tryz.ntmps18
  go_wp2_with (first
    | (go_at_call 50; (with_reducible refine c.mono ?_); rintro e w1 ⟨rfl, hb⟩; have ⟨q0, q1, q2, q3⟩ := box4 hb; have hB1 := bnextR hB (by simp) hb)
    | (go_at_call 51; (with_reducible refine (co _).mono ?_); rintro e w2 ⟨rfl, hb2⟩; have hb3 := hb.trans (hb2.mono hb.size); have ⟨r0, r1, r2, r3⟩ := box4 hb3; have hB2 := bnextR hB1 hB1.size hb2; have hs2 : w.heap.size < w2.heap.size := Nat.lt_of_lt_of_le (by simp) hb3.size; have t1 := fun o => (World.cell?_alloc_lt w2 o (⟨w.heap.size, 1, none⟩ : Addr) hs2).trans r1; have t2 := fun o => (World.cell?_alloc_lt w2 o (⟨w.heap.size, 2, none⟩ : Addr) hs2).trans r2; have t3 := fun o => (World.cell?_alloc_lt w2 o (⟨w.heap.size, 3, none⟩ : Addr) hs2).trans r3))
  all_goals go_ret2
  all_goals exact ⟨rfl, hB2.alloc hB2.size _⟩

set_option maxRecDepth 100000 in
set_option maxHeartbeats 8000000 in
theorem ref_text_1b (xo xa xb : Int) (xp : Option Addr) (xc n : Nat) (xl : List Int) (hn : xl.length = n) (rc s : Int) (rn rp rr : ByteArray) (h : byCode xo = some ⟨rc, rn, s, rp, rr⟩) (hr : rightIns ⟨xo, xa, xb, xp, xc, xl⟩ = true) (hs : s = 1) (ha : xa = 126) (w : World) (hX : InsAt w ⟨xo, xa, xb, xp, xc, xl⟩) :
    Calls Tryz.prog 18 #[.agg #[.int .i64 xo, .int .i64 xa, .int .i64 xb, .slice xp n xc]] w fun e w' => e = .returned (.tuple #[.string (rn ++ ⟨#[32, 105, 54, 52]⟩), .bool true]) ∧ Below w.heap.size w w' := by
  have hB := (Below.refl w.heap.size w).alloc (Nat.le_refl _) (.cells #[.int .i64 xo, .int .i64 xa, .int .i64 xb, .slice xp n xc] 40)
  have hx := hX.below hB (Nat.le_refl _)
  have c := ref_right xo xa xb xp xl.length xc xl rfl hx.2.1 _ hx.1
  change Calls _ _ _ _ fun e w' => e = .returned (.bool (rightIns ⟨xo, xa, xb, xp, xc, xl⟩)) ∧ _ at c
  rw [hr, hn] at c
  have co := of_some h
  have hbd := byCode_bd h
  simp only at hbd co
  have ca := ref_Digits xa hX.2.2.2.1.1 hX.2.2.2.1.2
  have cb := ref_Digits xb hX.2.2.2.2.1.1 hX.2.2.2.2.1.2
  have za := numB_size xa hX.2.2.2.1
  have zb := numB_size xb hX.2.2.2.2.1
  change ∀ w, Calls _ _ _ w fun e w' => e = .returned (.string (numB xa)) ∧ _ at ca
  change ∀ w, Calls _ _ _ w fun e w' => e = .returned (.string (numB xb)) ∧ _ at cb
  generalize numB xa = A at *
  generalize numB xb = Bq at *
  subst hs
  clear ca za
  clear h hr hX hx cb zb hn
  subst ha
  go_enter Tryz.func18, Tryz.ntmps18
  go_wp2_with (first
    | (go_at_call 50; (with_reducible refine c.mono ?_); rintro e w1 ⟨rfl, hb⟩; have ⟨q0, q1, q2, q3⟩ := box4 hb; have hB1 := bnextR hB (by simp) hb)
    | (go_at_call 51; (with_reducible refine (co _).mono ?_); rintro e w2 ⟨rfl, hb2⟩; have hb3 := hb.trans (hb2.mono hb.size); have ⟨r0, r1, r2, r3⟩ := box4 hb3; have hB2 := bnextR hB1 hB1.size hb2; have hs2 : w.heap.size < w2.heap.size := Nat.lt_of_lt_of_le (by simp) hb3.size; have t1 := fun o => (World.cell?_alloc_lt w2 o (⟨w.heap.size, 1, none⟩ : Addr) hs2).trans r1; have t2 := fun o => (World.cell?_alloc_lt w2 o (⟨w.heap.size, 2, none⟩ : Addr) hs2).trans r2; have t3 := fun o => (World.cell?_alloc_lt w2 o (⟨w.heap.size, 3, none⟩ : Addr) hs2).trans r3))
  all_goals go_ret2
  all_goals exact ⟨rfl, hB2.alloc hB2.size _⟩

set_option maxRecDepth 100000 in
set_option maxHeartbeats 8000000 in
theorem ref_text_1c (xo xa xb : Int) (xp : Option Addr) (xc n : Nat) (xl : List Int) (hn : xl.length = n) (rc s : Int) (rn rp rr : ByteArray) (h : byCode xo = some ⟨rc, rn, s, rp, rr⟩) (hr : rightIns ⟨xo, xa, xb, xp, xc, xl⟩ = true) (hs : s = 1) (ha : xa ≠ 127 ∧ xa ≠ 126) (w : World) (hX : InsAt w ⟨xo, xa, xb, xp, xc, xl⟩) :
    Calls Tryz.prog 18 #[.agg #[.int .i64 xo, .int .i64 xa, .int .i64 xb, .slice xp n xc]] w fun e w' => e = .returned (.tuple #[.string (rn), .bool true]) ∧ Below w.heap.size w w' := by
  have hB := (Below.refl w.heap.size w).alloc (Nat.le_refl _) (.cells #[.int .i64 xo, .int .i64 xa, .int .i64 xb, .slice xp n xc] 40)
  have hx := hX.below hB (Nat.le_refl _)
  have c := ref_right xo xa xb xp xl.length xc xl rfl hx.2.1 _ hx.1
  change Calls _ _ _ _ fun e w' => e = .returned (.bool (rightIns ⟨xo, xa, xb, xp, xc, xl⟩)) ∧ _ at c
  rw [hr, hn] at c
  have co := of_some h
  have hbd := byCode_bd h
  simp only at hbd co
  have ca := ref_Digits xa hX.2.2.2.1.1 hX.2.2.2.1.2
  have cb := ref_Digits xb hX.2.2.2.2.1.1 hX.2.2.2.2.1.2
  have za := numB_size xa hX.2.2.2.1
  have zb := numB_size xb hX.2.2.2.2.1
  change ∀ w, Calls _ _ _ w fun e w' => e = .returned (.string (numB xa)) ∧ _ at ca
  change ∀ w, Calls _ _ _ w fun e w' => e = .returned (.string (numB xb)) ∧ _ at cb
  generalize numB xa = A at *
  generalize numB xb = Bq at *
  subst hs
  clear ca za
  clear h hr hX hx cb zb hn
  have n1 : (xa == 127) = false := by simpa using ha.1
  have n2 : (xa == 126) = false := by simpa using ha.2
  go_enter Tryz.func18, Tryz.ntmps18
  go_wp2_with (first
    | (go_at_call 50; (with_reducible refine c.mono ?_); rintro e w1 ⟨rfl, hb⟩; have ⟨q0, q1, q2, q3⟩ := box4 hb; have hB1 := bnextR hB (by simp) hb)
    | (go_at_call 51; (with_reducible refine (co _).mono ?_); rintro e w2 ⟨rfl, hb2⟩; have hb3 := hb.trans (hb2.mono hb.size); have ⟨r0, r1, r2, r3⟩ := box4 hb3; have hB2 := bnextR hB1 hB1.size hb2; have hs2 : w.heap.size < w2.heap.size := Nat.lt_of_lt_of_le (by simp) hb3.size; have t1 := fun o => (World.cell?_alloc_lt w2 o (⟨w.heap.size, 1, none⟩ : Addr) hs2).trans r1; have t2 := fun o => (World.cell?_alloc_lt w2 o (⟨w.heap.size, 2, none⟩ : Addr) hs2).trans r2; have t3 := fun o => (World.cell?_alloc_lt w2 o (⟨w.heap.size, 3, none⟩ : Addr) hs2).trans r3))
  all_goals go_ret2
  all_goals exact ⟨rfl, hB2.alloc hB2.size _⟩

set_option maxRecDepth 100000 in
set_option maxHeartbeats 8000000 in
theorem ref_text_2 (xo xa xb : Int) (xp : Option Addr) (xc n : Nat) (xl : List Int) (hn : xl.length = n) (rc s : Int) (rn rp rr : ByteArray) (h : byCode xo = some ⟨rc, rn, s, rp, rr⟩) (hr : rightIns ⟨xo, xa, xb, xp, xc, xl⟩ = true) (hs : s = 2) (w : World) (hX : InsAt w ⟨xo, xa, xb, xp, xc, xl⟩) :
    Calls Tryz.prog 18 #[.agg #[.int .i64 xo, .int .i64 xa, .int .i64 xb, .slice xp n xc]] w fun e w' => e = .returned (.tuple #[.string (rn ++ ⟨#[32]⟩ ++ numB xa), .bool true]) ∧ Below w.heap.size w w' := by
  have hB := (Below.refl w.heap.size w).alloc (Nat.le_refl _) (.cells #[.int .i64 xo, .int .i64 xa, .int .i64 xb, .slice xp n xc] 40)
  have hx := hX.below hB (Nat.le_refl _)
  have c := ref_right xo xa xb xp xl.length xc xl rfl hx.2.1 _ hx.1
  change Calls _ _ _ _ fun e w' => e = .returned (.bool (rightIns ⟨xo, xa, xb, xp, xc, xl⟩)) ∧ _ at c
  rw [hr, hn] at c
  have co := of_some h
  have hbd := byCode_bd h
  simp only at hbd co
  have ca := ref_Digits xa hX.2.2.2.1.1 hX.2.2.2.1.2
  have cb := ref_Digits xb hX.2.2.2.2.1.1 hX.2.2.2.2.1.2
  have za := numB_size xa hX.2.2.2.1
  have zb := numB_size xb hX.2.2.2.2.1
  change ∀ w, Calls _ _ _ w fun e w' => e = .returned (.string (numB xa)) ∧ _ at ca
  change ∀ w, Calls _ _ _ w fun e w' => e = .returned (.string (numB xb)) ∧ _ at cb
  generalize numB xa = A at *
  generalize numB xb = Bq at *
  subst hs
  clear h hr hX hx cb zb hn
  go_enter Tryz.func18, Tryz.ntmps18
  go_wp2_with (first
    | (go_at_call 50; (with_reducible refine c.mono ?_); rintro e w1 ⟨rfl, hb⟩; have ⟨q0, q1, q2, q3⟩ := box4 hb; have hB1 := bnextR hB (by simp) hb)
    | (go_at_call 51; (with_reducible refine (co _).mono ?_); rintro e w2 ⟨rfl, hb2⟩; have hb3 := hb.trans (hb2.mono hb.size); have ⟨r0, r1, r2, r3⟩ := box4 hb3; have hB2 := bnextR hB1 hB1.size hb2; have hs2 : w.heap.size < w2.heap.size := Nat.lt_of_lt_of_le (by simp) hb3.size; have t1 := fun o => (World.cell?_alloc_lt w2 o (⟨w.heap.size, 1, none⟩ : Addr) hs2).trans r1; have t2 := fun o => (World.cell?_alloc_lt w2 o (⟨w.heap.size, 2, none⟩ : Addr) hs2).trans r2; have t3 := fun o => (World.cell?_alloc_lt w2 o (⟨w.heap.size, 3, none⟩ : Addr) hs2).trans r3) | (go_at_call 52; (with_reducible refine (ca _).mono ?_); rintro e w3 ⟨rfl, hb4⟩))
  all_goals go_ret2
  all_goals exact ⟨rfl, bnextR (hB2.alloc hB2.size _) (by simp; omega) hb4⟩

set_option maxRecDepth 100000 in
set_option maxHeartbeats 8000000 in
theorem ref_text_4 (xo xa xb : Int) (xp : Option Addr) (xc n : Nat) (xl : List Int) (hn : xl.length = n) (rc s : Int) (rn rp rr : ByteArray) (h : byCode xo = some ⟨rc, rn, s, rp, rr⟩) (hr : rightIns ⟨xo, xa, xb, xp, xc, xl⟩ = true) (hs : s = 4) (w : World) (hX : InsAt w ⟨xo, xa, xb, xp, xc, xl⟩) :
    Calls Tryz.prog 18 #[.agg #[.int .i64 xo, .int .i64 xa, .int .i64 xb, .slice xp n xc]] w fun e w' => e = .returned (.tuple #[.string (rn ++ ⟨#[32]⟩ ++ numB xa), .bool true]) ∧ Below w.heap.size w w' := by
  have hB := (Below.refl w.heap.size w).alloc (Nat.le_refl _) (.cells #[.int .i64 xo, .int .i64 xa, .int .i64 xb, .slice xp n xc] 40)
  have hx := hX.below hB (Nat.le_refl _)
  have c := ref_right xo xa xb xp xl.length xc xl rfl hx.2.1 _ hx.1
  change Calls _ _ _ _ fun e w' => e = .returned (.bool (rightIns ⟨xo, xa, xb, xp, xc, xl⟩)) ∧ _ at c
  rw [hr, hn] at c
  have co := of_some h
  have hbd := byCode_bd h
  simp only at hbd co
  have ca := ref_Digits xa hX.2.2.2.1.1 hX.2.2.2.1.2
  have cb := ref_Digits xb hX.2.2.2.2.1.1 hX.2.2.2.2.1.2
  have za := numB_size xa hX.2.2.2.1
  have zb := numB_size xb hX.2.2.2.2.1
  change ∀ w, Calls _ _ _ w fun e w' => e = .returned (.string (numB xa)) ∧ _ at ca
  change ∀ w, Calls _ _ _ w fun e w' => e = .returned (.string (numB xb)) ∧ _ at cb
  generalize numB xa = A at *
  generalize numB xb = Bq at *
  subst hs
  clear h hr hX hx cb zb hn
  go_enter Tryz.func18, Tryz.ntmps18
  go_wp2_with (first
    | (go_at_call 50; (with_reducible refine c.mono ?_); rintro e w1 ⟨rfl, hb⟩; have ⟨q0, q1, q2, q3⟩ := box4 hb; have hB1 := bnextR hB (by simp) hb)
    | (go_at_call 51; (with_reducible refine (co _).mono ?_); rintro e w2 ⟨rfl, hb2⟩; have hb3 := hb.trans (hb2.mono hb.size); have ⟨r0, r1, r2, r3⟩ := box4 hb3; have hB2 := bnextR hB1 hB1.size hb2; have hs2 : w.heap.size < w2.heap.size := Nat.lt_of_lt_of_le (by simp) hb3.size; have t1 := fun o => (World.cell?_alloc_lt w2 o (⟨w.heap.size, 1, none⟩ : Addr) hs2).trans r1; have t2 := fun o => (World.cell?_alloc_lt w2 o (⟨w.heap.size, 2, none⟩ : Addr) hs2).trans r2; have t3 := fun o => (World.cell?_alloc_lt w2 o (⟨w.heap.size, 3, none⟩ : Addr) hs2).trans r3) | (go_at_call 52; (with_reducible refine (ca _).mono ?_); rintro e w3 ⟨rfl, hb4⟩))
  all_goals go_ret2
  all_goals exact ⟨rfl, bnextR (hB2.alloc hB2.size _) (by simp; omega) hb4⟩

set_option maxRecDepth 100000 in
set_option maxHeartbeats 8000000 in
theorem ref_text_7 (xo xa xb : Int) (xp : Option Addr) (xc n : Nat) (xl : List Int) (hn : xl.length = n) (rc s : Int) (rn rp rr : ByteArray) (h : byCode xo = some ⟨rc, rn, s, rp, rr⟩) (hr : rightIns ⟨xo, xa, xb, xp, xc, xl⟩ = true) (hs : s = 7) (w : World) (hX : InsAt w ⟨xo, xa, xb, xp, xc, xl⟩) :
    Calls Tryz.prog 18 #[.agg #[.int .i64 xo, .int .i64 xa, .int .i64 xb, .slice xp n xc]] w fun e w' => e = .returned (.tuple #[.string (rn ++ ⟨#[32]⟩ ++ numB xa), .bool true]) ∧ Below w.heap.size w w' := by
  have hB := (Below.refl w.heap.size w).alloc (Nat.le_refl _) (.cells #[.int .i64 xo, .int .i64 xa, .int .i64 xb, .slice xp n xc] 40)
  have hx := hX.below hB (Nat.le_refl _)
  have c := ref_right xo xa xb xp xl.length xc xl rfl hx.2.1 _ hx.1
  change Calls _ _ _ _ fun e w' => e = .returned (.bool (rightIns ⟨xo, xa, xb, xp, xc, xl⟩)) ∧ _ at c
  rw [hr, hn] at c
  have co := of_some h
  have hbd := byCode_bd h
  simp only at hbd co
  have ca := ref_Digits xa hX.2.2.2.1.1 hX.2.2.2.1.2
  have cb := ref_Digits xb hX.2.2.2.2.1.1 hX.2.2.2.2.1.2
  have za := numB_size xa hX.2.2.2.1
  have zb := numB_size xb hX.2.2.2.2.1
  change ∀ w, Calls _ _ _ w fun e w' => e = .returned (.string (numB xa)) ∧ _ at ca
  change ∀ w, Calls _ _ _ w fun e w' => e = .returned (.string (numB xb)) ∧ _ at cb
  generalize numB xa = A at *
  generalize numB xb = Bq at *
  subst hs
  clear h hr hX hx cb zb hn
  go_enter Tryz.func18, Tryz.ntmps18
  go_wp2_with (first
    | (go_at_call 50; (with_reducible refine c.mono ?_); rintro e w1 ⟨rfl, hb⟩; have ⟨q0, q1, q2, q3⟩ := box4 hb; have hB1 := bnextR hB (by simp) hb)
    | (go_at_call 51; (with_reducible refine (co _).mono ?_); rintro e w2 ⟨rfl, hb2⟩; have hb3 := hb.trans (hb2.mono hb.size); have ⟨r0, r1, r2, r3⟩ := box4 hb3; have hB2 := bnextR hB1 hB1.size hb2; have hs2 : w.heap.size < w2.heap.size := Nat.lt_of_lt_of_le (by simp) hb3.size; have t1 := fun o => (World.cell?_alloc_lt w2 o (⟨w.heap.size, 1, none⟩ : Addr) hs2).trans r1; have t2 := fun o => (World.cell?_alloc_lt w2 o (⟨w.heap.size, 2, none⟩ : Addr) hs2).trans r2; have t3 := fun o => (World.cell?_alloc_lt w2 o (⟨w.heap.size, 3, none⟩ : Addr) hs2).trans r3) | (go_at_call 52; (with_reducible refine (ca _).mono ?_); rintro e w3 ⟨rfl, hb4⟩))
  all_goals go_ret2
  all_goals exact ⟨rfl, bnextR (hB2.alloc hB2.size _) (by simp; omega) hb4⟩

set_option maxRecDepth 100000 in
set_option maxHeartbeats 8000000 in
theorem ref_text_5 (xo xa xb : Int) (xp : Option Addr) (xc n : Nat) (xl : List Int) (hn : xl.length = n) (rc s : Int) (rn rp rr : ByteArray) (h : byCode xo = some ⟨rc, rn, s, rp, rr⟩) (hr : rightIns ⟨xo, xa, xb, xp, xc, xl⟩ = true) (hs : s = 5) (w : World) (hX : InsAt w ⟨xo, xa, xb, xp, xc, xl⟩) :
    Calls Tryz.prog 18 #[.agg #[.int .i64 xo, .int .i64 xa, .int .i64 xb, .slice xp n xc]] w fun e w' => e = .returned (.tuple #[.string (rn ++ ⟨#[32, 111, 102, 102, 115, 101, 116, 61]⟩ ++ numB xb ++ ⟨#[32, 97, 108, 105, 103, 110, 61]⟩ ++ numB xa), .bool true]) ∧ Below w.heap.size w w' := by
  have hB := (Below.refl w.heap.size w).alloc (Nat.le_refl _) (.cells #[.int .i64 xo, .int .i64 xa, .int .i64 xb, .slice xp n xc] 40)
  have hx := hX.below hB (Nat.le_refl _)
  have c := ref_right xo xa xb xp xl.length xc xl rfl hx.2.1 _ hx.1
  change Calls _ _ _ _ fun e w' => e = .returned (.bool (rightIns ⟨xo, xa, xb, xp, xc, xl⟩)) ∧ _ at c
  rw [hr, hn] at c
  have co := of_some h
  have hbd := byCode_bd h
  simp only at hbd co
  have ca := ref_Digits xa hX.2.2.2.1.1 hX.2.2.2.1.2
  have cb := ref_Digits xb hX.2.2.2.2.1.1 hX.2.2.2.2.1.2
  have za := numB_size xa hX.2.2.2.1
  have zb := numB_size xb hX.2.2.2.2.1
  change ∀ w, Calls _ _ _ w fun e w' => e = .returned (.string (numB xa)) ∧ _ at ca
  change ∀ w, Calls _ _ _ w fun e w' => e = .returned (.string (numB xb)) ∧ _ at cb
  generalize numB xa = A at *
  generalize numB xb = Bq at *
  subst hs
  clear h hr hX hx hn
  go_enter Tryz.func18, Tryz.ntmps18
  go_wp2_with (first
    | (go_at_call 50; (with_reducible refine c.mono ?_); rintro e w1 ⟨rfl, hb⟩; have ⟨q0, q1, q2, q3⟩ := box4 hb; have hB1 := bnextR hB (by simp) hb)
    | (go_at_call 51; (with_reducible refine (co _).mono ?_); rintro e w2 ⟨rfl, hb2⟩; have hb3 := hb.trans (hb2.mono hb.size); have ⟨r0, r1, r2, r3⟩ := box4 hb3; have hB2 := bnextR hB1 hB1.size hb2; have hs2 : w.heap.size < w2.heap.size := Nat.lt_of_lt_of_le (by simp) hb3.size; have t1 := fun o => (World.cell?_alloc_lt w2 o (⟨w.heap.size, 1, none⟩ : Addr) hs2).trans r1; have t2 := fun o => (World.cell?_alloc_lt w2 o (⟨w.heap.size, 2, none⟩ : Addr) hs2).trans r2; have t3 := fun o => (World.cell?_alloc_lt w2 o (⟨w.heap.size, 3, none⟩ : Addr) hs2).trans r3))
  have hbX := hb3.alloc hb3.size (.cells #[.string rn, .int .i64 5, .string rp, .string rr] 95)
  have ⟨_, u1, u2, _⟩ := box4 hbX
  go_region_with (first | (go_at_call 52; (with_reducible refine (ca _).mono ?_); rintro e w3 ⟨rfl, hb4⟩; (first | (with_reducible replace hbX := hbX.trans (hb4.mono hbX.size)) | (with_reducible replace hbX := hbX.drew.trans (hb4.mono hbX.drew.size))); have ⟨_, v1, v2, _⟩ := box4 hbX; clear hb4) | (go_at_call 52; (with_reducible refine (cb _).mono ?_); rintro e w3 ⟨rfl, hb4⟩; (first | (with_reducible replace hbX := hbX.trans (hb4.mono hbX.size)) | (with_reducible replace hbX := hbX.drew.trans (hb4.mono hbX.drew.size))); have ⟨_, v1, v2, _⟩ := box4 hbX; clear hb4))
  all_goals go_wp2
  all_goals go_ret2
  all_goals exact ⟨rfl, bnextR hB (by simp) hbX⟩

theorem right_labels {xo xa xb : Int} {xp : Option Addr} {xc : Nat} {xl : List Int} {r : Rw} (h : byCode xo = some r) (hs : r.shape = 3) (hr : rightIns ⟨xo, xa, xb, xp, xc, xl⟩ = true) : xl.length ≤ 4096 := by
  simp only [rightIns, h, rightOf, hs] at hr
  by_cases hb : xb ≠ 0 ∧ (3 : Int) ≠ 5
  · rw [if_pos hb] at hr; cases hr
  · rw [if_neg hb] at hr
    simp at hr
    exact hr.1.2
def labelStep (s : ByteArray) (n : Int) : ByteArray := s ++ ⟨#[32]⟩ ++ numB n

set_option maxRecDepth 100000 in
set_option maxHeartbeats 8000000 in
theorem labels_size : ∀ (l : List Int) (s : ByteArray), s.size ≤ 30 → (∀ n ∈ l, inI64 n) → (l.foldl labelStep s).size ≤ 30 + 22 * l.length := by
  have gen : ∀ (l : List Int) (s : ByteArray), (∀ n ∈ l, inI64 n) → (l.foldl labelStep s).size ≤ s.size + 22 * l.length := by
    intro l
    induction l with
    | nil => intro s _; simp
    | cons x l ih =>
      intro s h
      have := ih (labelStep s x) fun n hn => h n (List.mem_cons_of_mem _ hn)
      have z := numB_size x (h x (List.mem_cons_self ..))
      have e : (labelStep s x).size = s.size + 1 + (numB x).size := by unfold labelStep; rw [ByteArray.size_append, ByteArray.size_append]; rfl
      simp only [List.foldl_cons, List.length_cons]
      omega
  intro l s hs h
  have := gen l s h
  omega
theorem ref_text_3 (xo xa xb : Int) (xp : Option Addr) (xc n : Nat) (xl : List Int) (hn : xl.length = n) (rc s : Int) (rn rp rr : ByteArray) (h : byCode xo = some ⟨rc, rn, s, rp, rr⟩) (hr : rightIns ⟨xo, xa, xb, xp, xc, xl⟩ = true) (hs : s = 3) (w : World) (hX : InsAt w ⟨xo, xa, xb, xp, xc, xl⟩) :
    Calls Tryz.prog 18 #[.agg #[.int .i64 xo, .int .i64 xa, .int .i64 xb, .slice xp n xc]] w fun e w' => e = .returned (.tuple #[.string (xl.foldl labelStep rn ++ ⟨#[32]⟩ ++ numB xa), .bool true]) ∧ Below w.heap.size w w' := by
  have hB := (Below.refl w.heap.size w).alloc (Nat.le_refl _) (.cells #[.int .i64 xo, .int .i64 xa, .int .i64 xb, .slice xp n xc] 40)
  have hx := hX.below hB (Nat.le_refl _)
  have c := ref_right xo xa xb xp xl.length xc xl rfl hx.2.1 _ hx.1
  change Calls _ _ _ _ fun e w' => e = .returned (.bool (rightIns ⟨xo, xa, xb, xp, xc, xl⟩)) ∧ _ at c
  rw [hr, hn] at c
  have co := of_some h
  have hbd := byCode_bd h
  simp only at hbd co
  have ca := ref_Digits xa hX.2.2.2.1.1 hX.2.2.2.1.2
  have cb := ref_Digits xb hX.2.2.2.2.1.1 hX.2.2.2.2.1.2
  have za := numB_size xa hX.2.2.2.1
  have zb := numB_size xb hX.2.2.2.2.1
  change ∀ w, Calls _ _ _ w fun e w' => e = .returned (.string (numB xa)) ∧ _ at ca
  change ∀ w, Calls _ _ _ w fun e w' => e = .returned (.string (numB xb)) ∧ _ at cb
  generalize numB xa = A at *
  generalize numB xb = Bq at *
  have hmost := right_labels h hs hr
  subst hs
  have hlab := hX.2.2.2.2.2
  obtain ⟨R, hR⟩ : ∃ R, R = xl.foldl labelStep rn := ⟨_, rfl⟩
  rw [← hR]
  have HR := Lib.hid hR
  have HN := Lib.hid hn
  have HX := Lib.hid (And.intro hX.1 hlab)
  have hmost' : n ≤ 4096 := by omega
  have hz : R.size ≤ 30 + 22 * n := by rw [hR, ← hn]; exact labels_size xl rn (by omega) hlab
  clear h hr hX hx hn cb zb hR hlab hmost
  go_enter Tryz.func18, Tryz.ntmps18
  go_wp2_with (first
    | (go_at_call 50; (with_reducible refine c.mono ?_); rintro e w1 ⟨rfl, hb⟩; have ⟨q0, q1, q2, q3⟩ := box4 hb; have hB1 := bnextR hB (by simp) hb)
    | (go_at_call 51; (with_reducible refine (co _).mono ?_); rintro e w2 ⟨rfl, hb2⟩; have hb3 := hb.trans (hb2.mono hb.size); have ⟨r0, r1, r2, r3⟩ := box4 hb3; have hB2 := bnextR hB1 hB1.size hb2; have hs2 : w.heap.size < w2.heap.size := Nat.lt_of_lt_of_le (by simp) hb3.size; have t1 := fun o => (World.cell?_alloc_lt w2 o (⟨w.heap.size, 1, none⟩ : Addr) hs2).trans r1; have t2 := fun o => (World.cell?_alloc_lt w2 o (⟨w.heap.size, 2, none⟩ : Addr) hs2).trans r2; have t3 := fun o => (World.cell?_alloc_lt w2 o (⟨w.heap.size, 3, none⟩ : Addr) hs2).trans r3))
  have hbX := hb3.alloc hb3.size (.cells #[.string rn, .int .i64 3, .string rp, .string rr] 95)
  clear t1 t2 t3 r0 r1 r2 r3 q0 q1 q2 q3 hb hb2 hb3 hB1 hB2
  go_loopw [7, 8] (fun s i wr => ∃ (k : Nat) (t : ByteArray), k ≤ n ∧ i = .int .i64 k ∧ s = .string t ∧ t.size ≤ 30 + 22 * k ∧ Hid (R = (xl.drop k).foldl labelStep t) ∧ Below (w.alloc (.cells #[.int .i64 xo, .int .i64 xa, .int .i64 xb, .slice xp n xc] 40)).heap.size (w.alloc (.cells #[.int .i64 xo, .int .i64 xa, .int .i64 xb, .slice xp n xc] 40)) wr) (fun _ i _ => n - (intOf i).toNat)
  case atStart => exact ⟨0, rn, by omega, rfl, rfl, by omega, HR, hbX⟩
  case round =>
    clear HR hbX
    obtain ⟨k, t, hk, rfl, rfl, ht, HK, hbX⟩ := hrel
    have ⟨q0, q1, q2, q3⟩ := box4 hbX
    by_cases hlt : k < n
    · have hlt' : k < xl.length := by have := HN.out; omega
      obtain ⟨b, o, e, hbk, x0⟩ := (HX.out.1.below hB (Nat.le_refl _)).below hbX (Nat.le_refl _) k hlt'
      subst e
      have hin := HX.out.2 xl[k] (List.getElem_mem hlt')
      have hD := HK.out
      rw [List.drop_eq_getElem_cons hlt', List.foldl_cons] at hD
      generalize xl[k] = m at *
      have cm := ref_Digits m hin.1 hin.2
      have zm := numB_size m hin
      change ∀ w, Calls _ _ _ w fun e w' => e = .returned (.string (numB m)) ∧ _ at cm
      simp only [labelStep] at hD
      generalize numB m = M at *
      have HD := Lib.hid hD
      have z1 : (t ++ ⟨#[32]⟩ : ByteArray).size = t.size + 1 := ByteArray.size_append
      have z2 : (t ++ ⟨#[32]⟩ ++ M : ByteArray).size = t.size + 1 + M.size := by rw [ByteArray.size_append, z1]
      clear hD hin
      go_wp2_with (go_at_call 52; (with_reducible refine (cm _).mono ?_); rintro e w3 ⟨rfl, hb4⟩)
      have hbY := hbX.trans (hb4.mono hbX.size)
      clear hbX hb4 q0 q1 q2 q3 x0
      go_roundw
      case rel => exact ⟨k + 1, _, by omega, by go_num, rfl, by omega, HD, hbY⟩
      case measure => simp [intOf]; omega
    · have HD := Lib.hid (show R = t by rw [HK.out, List.drop_eq_nil_of_le (by have := HN.out; omega)]; rfl)
      have z1 : (t ++ ⟨#[32]⟩ : ByteArray).size = t.size + 1 := ByteArray.size_append
      go_wp2_with (go_at_call 52; (with_reducible refine (ca _).mono ?_); rintro e w3 ⟨rfl, hb4⟩)
      go_ret2
      exact ⟨by rw [HD.out]; rfl, bnextR hB (by simp) (hbX.trans (hb4.mono hbX.size))⟩

/-- The document's own text, whole. -/
theorem ref_text (x : InsV) (w : World) (hX : InsAt w x) :
    Calls Tryz.prog 18 #[x.val] w fun e w' => e = .returned (.tuple #[.string (textOf x), .bool (rightIns x)]) ∧ Below w.heap.size w w' := by
  cases hr : rightIns x with
  | false =>
    have e : textOf x = ⟨#[]⟩ := by unfold textOf; rw [hr]; rfl
    rw [e]
    exact ref_text_not x hr w hX
  | true =>
    obtain ⟨xo, xa, xb, xp, xc, xl⟩ := x
    cases h : byCode xo with
    | none => simp [rightIns, h, rightOf] at hr
    | some r =>
      have e : textOf ⟨xo, xa, xb, xp, xc, xl⟩ = textFrom r ⟨xo, xa, xb, xp, xc, xl⟩ := by unfold textOf; rw [hr]; simp only [h, if_true]
      rw [e]
      have hbd := byCode_bd h
      obtain ⟨rc, rn, s, rp, rr⟩ := r
      simp only at hbd
      have hs : s = 0 ∨ s = 1 ∨ s = 2 ∨ s = 3 ∨ s = 4 ∨ s = 5 ∨ s = 6 ∨ s = 7 := by omega
      simp only [InsV.val]
      rcases hs with hs | hs | hs | hs | hs | hs | hs | hs
      · have g := ref_text_0 xo xa xb xp xc _ xl rfl rc s rn rp rr h hr hs w hX; simpa [textFrom, hs] using g
      · by_cases h1 : xa = 127
        · have g := ref_text_1a xo xa xb xp xc _ xl rfl rc s rn rp rr h hr hs h1 w hX; simpa [textFrom, hs, h1] using g
        · by_cases h2 : xa = 126
          · have g := ref_text_1b xo xa xb xp xc _ xl rfl rc s rn rp rr h hr hs h2 w hX; simpa [textFrom, hs, h2] using g
          · have g := ref_text_1c xo xa xb xp xc _ xl rfl rc s rn rp rr h hr hs ⟨h1, h2⟩ w hX; simpa [textFrom, hs, h1, h2] using g
      · have g := ref_text_2 xo xa xb xp xc _ xl rfl rc s rn rp rr h hr hs w hX; simpa [textFrom, hs] using g
      · have g := ref_text_3 xo xa xb xp xc _ xl rfl rc s rn rp rr h hr hs w hX
        have e3 : textFrom ⟨rc, rn, s, rp, rr⟩ ⟨xo, xa, xb, xp, xc, xl⟩ = xl.foldl labelStep rn ++ ⟨#[32]⟩ ++ numB xa := by subst hs; rfl
        rw [e3]; exact g
      · have g := ref_text_4 xo xa xb xp xc _ xl rfl rc s rn rp rr h hr hs w hX; simpa [textFrom, hs] using g
      · have g := ref_text_5 xo xa xb xp xc _ xl rfl rc s rn rp rr h hr hs w hX; simpa [textFrom, hs] using g
      · have g := ref_text_6 xo xa xb xp xc _ xl rfl rc s rn rp rr h hr hs w hX; simpa [textFrom, hs] using g
      · have g := ref_text_7 xo xa xb xp xc _ xl rfl rc s rn rp rr h hr hs w hX; simpa [textFrom, hs] using g
end Go.Proofs.YtnonedmkdcbmfaaGreatDoor
