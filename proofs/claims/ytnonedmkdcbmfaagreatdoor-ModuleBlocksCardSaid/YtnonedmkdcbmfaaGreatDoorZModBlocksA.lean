/-
  Code of blocks in one another (the statement on blocks): what it is on Lean's lists, and the two loops that put it together. No statement is proved here.
-/
import Derived.Test.YtnonedmkdcbmfaaGreatDoorZModProg
import Derived.Test.YtnonedmkdcbmfaaGreatDoorZModOpen
import Derived.LoopTactic
namespace Go.Proofs.YtnonedmkdcbmfaaGreatDoor
open Go.RowKit

/-- The code has n blocks open, and its instructions are small. -/
def Blk (code : List PI) (n : Nat) : Prop := (∃ st : List Int, st.length = n ∧ ∀ t, runs (code.map PI.op ++ t) [] = runs t st) ∧ ∀ x ∈ code, (0 ≤ x.op ∧ x.op ≤ 64) ∧ (0 ≤ x.a ∧ x.a ≤ 64) ∧ x.b = 0
theorem Blk.nil : Blk [] 0 := ⟨⟨[], rfl, fun _ => rfl⟩, fun x hx => by cases hx⟩
theorem Blk.small {code : List PI} {n m : Nat} {op a : Int} (h : Blk code n) (h1 : 0 ≤ op ∧ op ≤ 64) (h2 : 0 ≤ a ∧ a ≤ 64) (st : List Int) (hl : st.length = m) (hr : ∀ t, runs ((code ++ [(⟨op, a, 0⟩ : PI)]).map PI.op ++ t) [] = runs t st) : Blk (code ++ [(⟨op, a, 0⟩ : PI)]) m := by
  refine ⟨⟨st, hl, hr⟩, fun x hx => ?_⟩
  rcases List.mem_append.1 hx with h3 | h3
  · exact h.2 x h3
  · rw [List.mem_singleton.1 h3]; exact ⟨h1, h2, rfl⟩
theorem Blk.opened {code : List PI} {n : Nat} {op : Int} (h : Blk code n) (ho : op = 2 ∨ op = 3 ∨ op = 4) : Blk (code ++ [(⟨op, 64, 0⟩ : PI)]) (n + 1) := by
  obtain ⟨st, hl, hr⟩ := h.1
  refine h.small (by omega) (by omega) (op :: st) (by simp [hl]) fun t => ?_
  rw [List.map_append, List.append_assoc, hr]
  exact runs_open ho
theorem Blk.both {code : List PI} {n : Nat} (h : Blk code n) : Blk ((code ++ [(⟨4, 64, 0⟩ : PI)]) ++ [(⟨5, 0, 0⟩ : PI)]) (n + 1) := by
  obtain ⟨st, hl, hr⟩ := h.1
  refine (h.opened (op := 4) (by omega)).small (by omega) (by omega) (5 :: st) (by simp [hl]) fun t => ?_
  rw [List.map_append, List.map_append, List.append_assoc, List.append_assoc, hr]
  show runs (4 :: 5 :: t) st = _
  rw [runs_open (by omega), runs_else, if_pos rfl]
theorem Blk.shut {code : List PI} {n : Nat} (h : Blk code (n + 1)) : Blk (code ++ [(⟨11, 0, 0⟩ : PI)]) n := by
  obtain ⟨st, hl, hr⟩ := h.1
  match st, hl with
  | x :: st, hl =>
    refine h.small (by omega) (by omega) st (by simpa using hl) fun t => ?_
    rw [List.map_append, List.append_assoc, hr]
    exact runs_end
theorem Blk.whole {code : List PI} (h : Blk code 0) : runs ((code ++ [(⟨11, 0, 0⟩ : PI)]).map PI.op) [] = true ∧ runs (code.map PI.op) [] = false ∧ runs (((code ++ [(⟨11, 0, 0⟩ : PI)]) ++ [(⟨1, 0, 0⟩ : PI)]).map PI.op) [] = false ∧ runs (((⟨5, 0, 0⟩ : PI) :: (code ++ [(⟨11, 0, 0⟩ : PI)])).map PI.op) [] = false := by
  obtain ⟨st, hl, hr⟩ := h.1
  obtain rfl : st = [] := List.eq_nil_of_length_eq_zero hl
  refine ⟨?_, ?_, ?_, ?_⟩
  · rw [List.map_append, hr]; rfl
  · have := hr []; rw [List.append_nil] at this; rw [this]; rfl
  · rw [List.map_append, List.map_append, List.append_assoc, hr]; rfl
  · exact runs_else_none

theorem beltB {B : Nat} {w W W' : World} (h : Below B w W) (hB : B ≤ w.heap.size) (h2 : Below W.heap.size W W') : Below B w W' := h.trans (h2.mono (Nat.le_trans hB h.size))
theorem app_below {B : Nat} {w wX w' : World} {e : TypeId} {c n : Nat} {v : Value} {xs : List Value} (hown : wX.ownsRow B e c v n xs) (hB : Below B w wX) (hs : B ≤ wX.heap.size) (hg : wX.grownBy w' v.ownBlock) : Below B w w' :=
  hB.grown hg hs fun k hk => (own_ge hown k hk).1

theorem own_pos {w : World} {lo : Nat} {t : TypeId} {c n cap : Nat} {p : Option Addr} {xs : List Value} (h : w.ownsRow lo t c (.slice p n cap) n xs) (hn : 0 < n) : ∃ g, p = some ⟨g, 0, none⟩ := by
  obtain ⟨n', rfl⟩ : ∃ n', n = n' + 1 := ⟨n - 1, by omega⟩
  rcases h.2 with ⟨_, h0⟩ | ⟨g, cp, cur, e, _⟩
  · have := h.1
    rw [h0] at this
    simp at this
    omega
  · cases e
    exact ⟨g, rfl⟩
theorem pi_cells_one (code : List PI) : ∀ u ∈ codeCells code, u.oneCell' = true := by
  intro u hu
  obtain ⟨x, _, hx⟩ := List.mem_flatMap.1 hu
  simp [PI.cells] at hx
  rcases hx with rfl | rfl | rfl | rfl <;> rfl
theorem code_len (code : List PI) : (codeCells code).length = code.length * 4 := by
  induction code with
  | nil => rfl
  | cons x l ih => show (x.cells ++ codeCells l).length = _; rw [List.length_append, ih]; simp [PI.cells]; omega
/-- A list of instructions in a block of its own, between two bounds. -/
structure Mine (w : World) (lo hi : Nat) (v : Value) (code : List PI) : Prop where
  own : w.ownsRow lo 40 4 v code.length (codeCells code)
  lt : ∀ g, v.ownBlock = some g → g < hi
  le : hi ≤ w.heap.size
theorem Mine.of {w : World} {lo : Nat} {v : Value} {code : List PI} (h : w.ownsRow lo 40 4 v code.length (codeCells code)) : Mine w lo w.heap.size v code := ⟨h, fun g hg => (own_ge h g hg).2, Nat.le_refl _⟩
theorem Mine.alloc {w : World} {lo hi : Nat} {v : Value} {code : List PI} (h : Mine w lo hi v code) (o : Obj) : Mine (w.alloc o) lo hi v code := ⟨h.own.alloc o, h.lt, by have := h.le; simp; omega⟩
theorem Mine.grow {w w' : World} {lo hi : Nat} {v : Value} {code : List PI} {r : Option Nat} (h : Mine w lo hi v code) (hg : w.grownBy w' r) (hr : ∀ g, r = some g → hi ≤ g) : Mine w' lo hi v code := by
  refine ⟨h.own.kept hg ?_, h.lt, Nat.le_trans h.le hg.size⟩
  cases hv : v.ownBlock with
  | none => exact .inl rfl
  | some b => exact .inr fun e => by have := hr b e.symm; have := h.lt b hv; omega
theorem Mine.cells {w : World} {lo hi g n cap : Nat} {code : List PI} (h : Mine w lo hi (.slice (some ⟨g, 0, none⟩) n cap) code) (hn : n = code.length) : ∀ j u, (codeCells code)[j]? = some u → w.cell? ((⟨g, 0, none⟩ : Addr).add j) = some u := by
  intro j u hj
  subst hn
  have hlt : j < code.length * 4 := by rw [← code_len]; exact (List.getElem?_eq_some_iff.1 hj).1
  rw [Go.WideShapes.add_plain, Nat.zero_add, h.own.cellAt j hlt, hj]
theorem none_own (w : World) (lo : Nat) : w.ownsRow lo 40 4 (.slice none 0 0) 0 [] := ⟨rfl, .inl ⟨rfl, rfl⟩⟩

theorem own_low {w : World} {lo lo' : Nat} {t : TypeId} {c n : Nat} {v : Value} {xs : List Value} (h : w.ownsRow lo' t c v n xs) (hl : lo ≤ lo') : w.ownsRow lo t c v n xs := by
  refine ⟨h.1, ?_⟩
  rcases h.2 with h0 | ⟨g, cap, cur, e, hb, hr⟩
  · exact .inl h0
  · exact .inr ⟨g, cap, cur, e, Nat.le_trans hl hb, hr⟩
theorem own_none {w : World} {lo : Nat} {cc : Nat} {code : List PI} (h : w.ownsRow lo 40 4 (.slice none code.length cc) code.length (codeCells code)) : code = [] ∧ cc = 0 := by
  rcases h.2 with ⟨h0, _⟩ | ⟨g, cap, cur, e, _⟩
  · injection h0 with _ h1 h2
    exact ⟨List.eq_nil_of_length_eq_zero h1, h2⟩
  · cases e
theorem own_some {w : World} {lo : Nat} {a : Addr} {n cc : Nat} {t : TypeId} {c : Nat} {xs : List Value} (h : w.ownsRow lo t c (.slice (some a) n cc) n xs) : ∃ g, a = ⟨g, 0, none⟩ := by
  rcases h.2 with ⟨h0, _⟩ | ⟨g, cap, cur, e, _⟩
  · cases h0
  · cases e; exact ⟨g, rfl⟩

set_option maxRecDepth 100000 in
set_option maxHeartbeats 8000000 in
theorem blocks_go (p : Option Addr) (c : Nat) (l : List Int) (w : World) (hS : BytesAt w p l)
    (cH : Calls Tryz.prog 10 #[] w fun e w' => e = .returned (.bool true) ∧ Below w.heap.size w w')
    (cS : ∀ (W : World) (lo : Nat) (pc : Option Addr) (cc : Nat) (code : List PI), Below w.heap.size w W → W.ownsRow lo 40 4 (.slice pc code.length cc) code.length (codeCells code) → (∀ x ∈ code, (0 ≤ x.op ∧ x.op ≤ 64) ∧ (0 ≤ x.a ∧ x.a ≤ 64) ∧ x.b = 0) → code.length ≤ 1000 →
      Calls Tryz.prog 13 #[.slice pc code.length cc] W fun e w' => e = .returned (.bool (runs (code.map PI.op) [])) ∧ Below W.heap.size W w') :
    Calls Tryz.prog 7 #[.slice p l.length c] w fun e w' => e = .returned (.bool true) ∧ Below w.heap.size w w' := by
  have hl := hS.most
  unfold mostThings at hl
  have hrows := hS.rows
  have hin := hS.within
  obtain ⟨n, hn⟩ : ∃ n, l.length = n := ⟨_, rfl⟩
  rw [hn] at hl ⊢
  have HN := Lib.hid hn
  clear hS hn
  go_enter Tryz.func7, Tryz.ntmps7
  go_wp2_with (go_at_call 10; refine cH.mono ?_; rintro e w1 ⟨rfl, hB1⟩)
  obtain ⟨i0, hi, hz0, hz1, hz2⟩ := info_parts instr_info
  go_loopw [4, 5, 6] (fun v m i wr => ∃ (k b : Nat) (code : List PI), k ≤ n ∧ k ≤ 40 ∧ i = .int .i64 k ∧ m = .int .i64 b ∧ b ≤ k ∧ code.length ≤ 3 * k ∧ Blk code b ∧ wr.ownsRow w1.heap.size 40 4 v code.length (codeCells code) ∧ Below w1.heap.size w1 wr) (fun _ _ i _ => n - (intOf i).toNat)
  case atStart => exact ⟨0, 0, [], by omega, by omega, rfl, rfl, by omega, by simp, Blk.nil, ⟨rfl, .inl ⟨rfl, rfl⟩⟩, Below.refl _ _⟩
  case round =>
    obtain ⟨k, b, code, hk, hk40, rfl, rfl, hb, hc, hblk, hown, hB2⟩ := hrel
    by_cases hlt : k < n ∧ k < 40
    · obtain ⟨hlt, h40⟩ := hlt
      have hle : k < l.length := by have := HN.out; omega
      have hr := hrows.below hB1 (Nat.le_refl _)
      obtain ⟨rb, ro, hp1, hb1, e0⟩ := hr k hle 0 _ rfl
      subst hp1
      have hx := hin _ (List.getElem_mem hle)
      generalize l[k] = x at *
      simp only [Nat.add_zero, Nat.mul_one] at e0
      have ew := e0
      clear e0
      have e0 := (hB2.cell (p := ⟨rb, ro + k, none⟩) (by show rb < w1.heap.size; omega)).trans ew
      clear hr hrows hin HN cS cH
      have hSwr : w1.heap.size ≤ wr.heap.size := hB2.size
      have HBwr := Lib.hid hB2
      clear hB2
      have hcases : (x % 3 = 0 ∧ ¬ 200 < x) ∨ (x % 3 = 0 ∧ 200 < x) ∨ (x % 3 = 1 ∧ ¬ 200 < x) ∨ (x % 3 = 1 ∧ 200 < x) ∨ (x % 3 = 2 ∧ ¬ 100 < x ∧ ¬ 200 < x) ∨ (x % 3 = 2 ∧ 100 < x ∧ ¬ 200 < x) ∨ (x % 3 = 2 ∧ 100 < x ∧ 200 < x) := by omega
      rcases hcases with ⟨g0, g1⟩ | ⟨g0, g1⟩ | ⟨g0, g1⟩ | ⟨g0, g1⟩ | ⟨g0, g1, g2⟩ | ⟨g0, g1, g2⟩ | ⟨g0, g1, g2⟩
      · have h3 : x % 3 = 0 := by omega
        go_wp2_with (at_builtin; refine wpList_append_own_at _ rfl (.tmp 32) (.tmp 35) 31 rfl w1.heap.size 40 i0 (.agg #[.int .i64 0, .int .i64 0, .int .i64 0, .slice none 0 0]) 4 48 Tryz.underlying31 hi hz0 hz1 hz2 rfl (by decide) _ code.length _ rfl (hown.alloc _) ⟨wr.heap.size, 0, none⟩ 1 1 (PI.cells ⟨2, 64, 0⟩) rfl rfl (cells_new wr (PI.cells ⟨2, 64, 0⟩) 40) (by intro u hu; simp [PI.cells] at hu; rcases hu with rfl | rfl | rfl | rfl <;> rfl) (by unfold maxLen; omega) (by omega) (by simp; omega) ?_)
        intro v1 x1 hown1 hgrow _ _
        rw [← codeCells_snoc] at hown1
        have hS1 : w1.heap.size ≤ x1.heap.size := by have := hgrow.size; simp at this; omega
        have hB1 := app_below (hown.alloc _) (HBwr.out.alloc hSwr _) (by simp; omega) hgrow
        have HBx1 := Lib.hid hB1
        have hSx1 := hS1
        obtain ⟨c1, HC1⟩ : ∃ c, Hid (c = code ++ [(⟨2, 64, 0⟩ : PI)]) := ⟨_, Lib.hid rfl⟩
        have hn1 : c1.length = code.length + 1 := by rw [HC1.out]; simp
        rw [← HC1.out, ← hn1] at hown1
        have hm1 : c1.length ≤ code.length + 1 := Nat.le_of_eq hn1
        clear hn1
        obtain ⟨vp1, vc1, rfl⟩ := own_any hown1
        have e1 := (hB1.cell (p := ⟨rb, ro + k, none⟩) (by show rb < w1.heap.size; omega)).trans ew
        clear hgrow hS1 hB1
        go_wp2
        go_roundw
        case rel => exact ⟨k + 1, b + 1, c1, by omega, by omega, by simp, congrArg (Value.int .i64) (by omega), by omega, by omega, (HC1.out ▸ hblk.opened (by omega)), hown1, HBx1.out⟩
        case measure => simp [intOf]; omega
      · have h3 : x % 3 = 0 := by omega
        go_wp2_with (at_builtin; refine wpList_append_own_at _ rfl (.tmp 32) (.tmp 35) 31 rfl w1.heap.size 40 i0 (.agg #[.int .i64 0, .int .i64 0, .int .i64 0, .slice none 0 0]) 4 48 Tryz.underlying31 hi hz0 hz1 hz2 rfl (by decide) _ code.length _ rfl (hown.alloc _) ⟨wr.heap.size, 0, none⟩ 1 1 (PI.cells ⟨2, 64, 0⟩) rfl rfl (cells_new wr (PI.cells ⟨2, 64, 0⟩) 40) (by intro u hu; simp [PI.cells] at hu; rcases hu with rfl | rfl | rfl | rfl <;> rfl) (by unfold maxLen; omega) (by omega) (by simp; omega) ?_)
        intro v1 x1 hown1 hgrow _ _
        rw [← codeCells_snoc] at hown1
        have hS1 : w1.heap.size ≤ x1.heap.size := by have := hgrow.size; simp at this; omega
        have hB1 := app_below (hown.alloc _) (HBwr.out.alloc hSwr _) (by simp; omega) hgrow
        have HBx1 := Lib.hid hB1
        have hSx1 := hS1
        obtain ⟨c1, HC1⟩ : ∃ c, Hid (c = code ++ [(⟨2, 64, 0⟩ : PI)]) := ⟨_, Lib.hid rfl⟩
        have hn1 : c1.length = code.length + 1 := by rw [HC1.out]; simp
        rw [← HC1.out, ← hn1] at hown1
        have hm1 : c1.length ≤ code.length + 1 := Nat.le_of_eq hn1
        clear hn1
        obtain ⟨vp1, vc1, rfl⟩ := own_any hown1
        have e1 := (hB1.cell (p := ⟨rb, ro + k, none⟩) (by show rb < w1.heap.size; omega)).trans ew
        clear hgrow hS1 hB1
        go_wp2_with (at_builtin; refine wpList_append_own_at _ rfl (.tmp 57) (.tmp 59) 31 rfl w1.heap.size 40 i0 (.agg #[.int .i64 0, .int .i64 0, .int .i64 0, .slice none 0 0]) 4 48 Tryz.underlying31 hi hz0 hz1 hz2 rfl (by decide) _ c1.length _ rfl (hown1.alloc _) ⟨x1.heap.size, 0, none⟩ 1 1 (PI.cells ⟨11, 0, 0⟩) rfl rfl (cells_new x1 (PI.cells ⟨11, 0, 0⟩) 40) (by intro u hu; simp [PI.cells] at hu; rcases hu with rfl | rfl | rfl | rfl <;> rfl) (by unfold maxLen; omega) (by omega) (by simp; omega) ?_)
        intro v2 x2 hown2 hgrow _ _
        rw [← codeCells_snoc] at hown2
        have hS2 : w1.heap.size ≤ x2.heap.size := by have := hgrow.size; simp at this; omega
        have hB2 := app_below (hown1.alloc _) (HBx1.out.alloc hSx1 _) (by simp; omega) hgrow
        have HBx2 := Lib.hid hB2
        have hSx2 := hS2
        obtain ⟨c2, HC2⟩ : ∃ c, Hid (c = c1 ++ [(⟨11, 0, 0⟩ : PI)]) := ⟨_, Lib.hid rfl⟩
        have hn2 : c2.length = c1.length + 1 := by rw [HC2.out]; simp
        rw [← HC2.out, ← hn2] at hown2
        have hm2 : c2.length ≤ c1.length + 1 := Nat.le_of_eq hn2
        clear hn2
        obtain ⟨vp2, vc2, rfl⟩ := own_any hown2
        have e2 := (hB2.cell (p := ⟨rb, ro + k, none⟩) (by show rb < w1.heap.size; omega)).trans ew
        clear hgrow hS2 hB2
        go_wp2
        go_roundw
        case rel => exact ⟨k + 1, b, c2, by omega, by omega, by simp, congrArg (Value.int .i64) (by omega), by omega, by omega, (by rw [HC2.out, HC1.out]; exact (hblk.opened (by omega)).shut), hown2, HBx2.out⟩
        case measure => simp [intOf]; omega
      · have h3 : x % 3 = 1 := by omega
        go_wp2_with (at_builtin; refine wpList_append_own_at _ rfl (.tmp 32) (.tmp 35) 31 rfl w1.heap.size 40 i0 (.agg #[.int .i64 0, .int .i64 0, .int .i64 0, .slice none 0 0]) 4 48 Tryz.underlying31 hi hz0 hz1 hz2 rfl (by decide) _ code.length _ rfl (hown.alloc _) ⟨wr.heap.size, 0, none⟩ 1 1 (PI.cells ⟨3, 64, 0⟩) rfl rfl (cells_new wr (PI.cells ⟨3, 64, 0⟩) 40) (by intro u hu; simp [PI.cells] at hu; rcases hu with rfl | rfl | rfl | rfl <;> rfl) (by unfold maxLen; omega) (by omega) (by simp; omega) ?_)
        intro v1 x1 hown1 hgrow _ _
        rw [← codeCells_snoc] at hown1
        have hS1 : w1.heap.size ≤ x1.heap.size := by have := hgrow.size; simp at this; omega
        have hB1 := app_below (hown.alloc _) (HBwr.out.alloc hSwr _) (by simp; omega) hgrow
        have HBx1 := Lib.hid hB1
        have hSx1 := hS1
        obtain ⟨c1, HC1⟩ : ∃ c, Hid (c = code ++ [(⟨3, 64, 0⟩ : PI)]) := ⟨_, Lib.hid rfl⟩
        have hn1 : c1.length = code.length + 1 := by rw [HC1.out]; simp
        rw [← HC1.out, ← hn1] at hown1
        have hm1 : c1.length ≤ code.length + 1 := Nat.le_of_eq hn1
        clear hn1
        obtain ⟨vp1, vc1, rfl⟩ := own_any hown1
        have e1 := (hB1.cell (p := ⟨rb, ro + k, none⟩) (by show rb < w1.heap.size; omega)).trans ew
        clear hgrow hS1 hB1
        go_wp2
        go_roundw
        case rel => exact ⟨k + 1, b + 1, c1, by omega, by omega, by simp, congrArg (Value.int .i64) (by omega), by omega, by omega, (HC1.out ▸ hblk.opened (by omega)), hown1, HBx1.out⟩
        case measure => simp [intOf]; omega
      · have h3 : x % 3 = 1 := by omega
        go_wp2_with (at_builtin; refine wpList_append_own_at _ rfl (.tmp 32) (.tmp 35) 31 rfl w1.heap.size 40 i0 (.agg #[.int .i64 0, .int .i64 0, .int .i64 0, .slice none 0 0]) 4 48 Tryz.underlying31 hi hz0 hz1 hz2 rfl (by decide) _ code.length _ rfl (hown.alloc _) ⟨wr.heap.size, 0, none⟩ 1 1 (PI.cells ⟨3, 64, 0⟩) rfl rfl (cells_new wr (PI.cells ⟨3, 64, 0⟩) 40) (by intro u hu; simp [PI.cells] at hu; rcases hu with rfl | rfl | rfl | rfl <;> rfl) (by unfold maxLen; omega) (by omega) (by simp; omega) ?_)
        intro v1 x1 hown1 hgrow _ _
        rw [← codeCells_snoc] at hown1
        have hS1 : w1.heap.size ≤ x1.heap.size := by have := hgrow.size; simp at this; omega
        have hB1 := app_below (hown.alloc _) (HBwr.out.alloc hSwr _) (by simp; omega) hgrow
        have HBx1 := Lib.hid hB1
        have hSx1 := hS1
        obtain ⟨c1, HC1⟩ : ∃ c, Hid (c = code ++ [(⟨3, 64, 0⟩ : PI)]) := ⟨_, Lib.hid rfl⟩
        have hn1 : c1.length = code.length + 1 := by rw [HC1.out]; simp
        rw [← HC1.out, ← hn1] at hown1
        have hm1 : c1.length ≤ code.length + 1 := Nat.le_of_eq hn1
        clear hn1
        obtain ⟨vp1, vc1, rfl⟩ := own_any hown1
        have e1 := (hB1.cell (p := ⟨rb, ro + k, none⟩) (by show rb < w1.heap.size; omega)).trans ew
        clear hgrow hS1 hB1
        go_wp2_with (at_builtin; refine wpList_append_own_at _ rfl (.tmp 57) (.tmp 59) 31 rfl w1.heap.size 40 i0 (.agg #[.int .i64 0, .int .i64 0, .int .i64 0, .slice none 0 0]) 4 48 Tryz.underlying31 hi hz0 hz1 hz2 rfl (by decide) _ c1.length _ rfl (hown1.alloc _) ⟨x1.heap.size, 0, none⟩ 1 1 (PI.cells ⟨11, 0, 0⟩) rfl rfl (cells_new x1 (PI.cells ⟨11, 0, 0⟩) 40) (by intro u hu; simp [PI.cells] at hu; rcases hu with rfl | rfl | rfl | rfl <;> rfl) (by unfold maxLen; omega) (by omega) (by simp; omega) ?_)
        intro v2 x2 hown2 hgrow _ _
        rw [← codeCells_snoc] at hown2
        have hS2 : w1.heap.size ≤ x2.heap.size := by have := hgrow.size; simp at this; omega
        have hB2 := app_below (hown1.alloc _) (HBx1.out.alloc hSx1 _) (by simp; omega) hgrow
        have HBx2 := Lib.hid hB2
        have hSx2 := hS2
        obtain ⟨c2, HC2⟩ : ∃ c, Hid (c = c1 ++ [(⟨11, 0, 0⟩ : PI)]) := ⟨_, Lib.hid rfl⟩
        have hn2 : c2.length = c1.length + 1 := by rw [HC2.out]; simp
        rw [← HC2.out, ← hn2] at hown2
        have hm2 : c2.length ≤ c1.length + 1 := Nat.le_of_eq hn2
        clear hn2
        obtain ⟨vp2, vc2, rfl⟩ := own_any hown2
        have e2 := (hB2.cell (p := ⟨rb, ro + k, none⟩) (by show rb < w1.heap.size; omega)).trans ew
        clear hgrow hS2 hB2
        go_wp2
        go_roundw
        case rel => exact ⟨k + 1, b, c2, by omega, by omega, by simp, congrArg (Value.int .i64) (by omega), by omega, by omega, (by rw [HC2.out, HC1.out]; exact (hblk.opened (by omega)).shut), hown2, HBx2.out⟩
        case measure => simp [intOf]; omega
      · have h3 : x % 3 = 2 := by omega
        go_wp2_with (at_builtin; refine wpList_append_own_at _ rfl (.tmp 32) (.tmp 35) 31 rfl w1.heap.size 40 i0 (.agg #[.int .i64 0, .int .i64 0, .int .i64 0, .slice none 0 0]) 4 48 Tryz.underlying31 hi hz0 hz1 hz2 rfl (by decide) _ code.length _ rfl (hown.alloc _) ⟨wr.heap.size, 0, none⟩ 1 1 (PI.cells ⟨4, 64, 0⟩) rfl rfl (cells_new wr (PI.cells ⟨4, 64, 0⟩) 40) (by intro u hu; simp [PI.cells] at hu; rcases hu with rfl | rfl | rfl | rfl <;> rfl) (by unfold maxLen; omega) (by omega) (by simp; omega) ?_)
        intro v1 x1 hown1 hgrow _ _
        rw [← codeCells_snoc] at hown1
        have hS1 : w1.heap.size ≤ x1.heap.size := by have := hgrow.size; simp at this; omega
        have hB1 := app_below (hown.alloc _) (HBwr.out.alloc hSwr _) (by simp; omega) hgrow
        have HBx1 := Lib.hid hB1
        have hSx1 := hS1
        obtain ⟨c1, HC1⟩ : ∃ c, Hid (c = code ++ [(⟨4, 64, 0⟩ : PI)]) := ⟨_, Lib.hid rfl⟩
        have hn1 : c1.length = code.length + 1 := by rw [HC1.out]; simp
        rw [← HC1.out, ← hn1] at hown1
        have hm1 : c1.length ≤ code.length + 1 := Nat.le_of_eq hn1
        clear hn1
        obtain ⟨vp1, vc1, rfl⟩ := own_any hown1
        have e1 := (hB1.cell (p := ⟨rb, ro + k, none⟩) (by show rb < w1.heap.size; omega)).trans ew
        clear hgrow hS1 hB1
        go_wp2
        go_roundw
        case rel => exact ⟨k + 1, b + 1, c1, by omega, by omega, by simp, congrArg (Value.int .i64) (by omega), by omega, by omega, (HC1.out ▸ hblk.opened (by omega)), hown1, HBx1.out⟩
        case measure => simp [intOf]; omega
      · have h3 : x % 3 = 2 := by omega
        go_wp2_with (at_builtin; refine wpList_append_own_at _ rfl (.tmp 32) (.tmp 35) 31 rfl w1.heap.size 40 i0 (.agg #[.int .i64 0, .int .i64 0, .int .i64 0, .slice none 0 0]) 4 48 Tryz.underlying31 hi hz0 hz1 hz2 rfl (by decide) _ code.length _ rfl (hown.alloc _) ⟨wr.heap.size, 0, none⟩ 1 1 (PI.cells ⟨4, 64, 0⟩) rfl rfl (cells_new wr (PI.cells ⟨4, 64, 0⟩) 40) (by intro u hu; simp [PI.cells] at hu; rcases hu with rfl | rfl | rfl | rfl <;> rfl) (by unfold maxLen; omega) (by omega) (by simp; omega) ?_)
        intro v1 x1 hown1 hgrow _ _
        rw [← codeCells_snoc] at hown1
        have hS1 : w1.heap.size ≤ x1.heap.size := by have := hgrow.size; simp at this; omega
        have hB1 := app_below (hown.alloc _) (HBwr.out.alloc hSwr _) (by simp; omega) hgrow
        have HBx1 := Lib.hid hB1
        have hSx1 := hS1
        obtain ⟨c1, HC1⟩ : ∃ c, Hid (c = code ++ [(⟨4, 64, 0⟩ : PI)]) := ⟨_, Lib.hid rfl⟩
        have hn1 : c1.length = code.length + 1 := by rw [HC1.out]; simp
        rw [← HC1.out, ← hn1] at hown1
        have hm1 : c1.length ≤ code.length + 1 := Nat.le_of_eq hn1
        clear hn1
        obtain ⟨vp1, vc1, rfl⟩ := own_any hown1
        have e1 := (hB1.cell (p := ⟨rb, ro + k, none⟩) (by show rb < w1.heap.size; omega)).trans ew
        clear hgrow hS1 hB1
        go_wp2_with (at_builtin; refine wpList_append_own_at _ rfl (.tmp 46) (.tmp 48) 31 rfl w1.heap.size 40 i0 (.agg #[.int .i64 0, .int .i64 0, .int .i64 0, .slice none 0 0]) 4 48 Tryz.underlying31 hi hz0 hz1 hz2 rfl (by decide) _ c1.length _ rfl (hown1.alloc _) ⟨x1.heap.size, 0, none⟩ 1 1 (PI.cells ⟨5, 0, 0⟩) rfl rfl (cells_new x1 (PI.cells ⟨5, 0, 0⟩) 40) (by intro u hu; simp [PI.cells] at hu; rcases hu with rfl | rfl | rfl | rfl <;> rfl) (by unfold maxLen; omega) (by omega) (by simp; omega) ?_)
        intro v2 x2 hown2 hgrow _ _
        rw [← codeCells_snoc] at hown2
        have hS2 : w1.heap.size ≤ x2.heap.size := by have := hgrow.size; simp at this; omega
        have hB2 := app_below (hown1.alloc _) (HBx1.out.alloc hSx1 _) (by simp; omega) hgrow
        have HBx2 := Lib.hid hB2
        have hSx2 := hS2
        obtain ⟨c2, HC2⟩ : ∃ c, Hid (c = c1 ++ [(⟨5, 0, 0⟩ : PI)]) := ⟨_, Lib.hid rfl⟩
        have hn2 : c2.length = c1.length + 1 := by rw [HC2.out]; simp
        rw [← HC2.out, ← hn2] at hown2
        have hm2 : c2.length ≤ c1.length + 1 := Nat.le_of_eq hn2
        clear hn2
        obtain ⟨vp2, vc2, rfl⟩ := own_any hown2
        have e2 := (hB2.cell (p := ⟨rb, ro + k, none⟩) (by show rb < w1.heap.size; omega)).trans ew
        clear hgrow hS2 hB2
        go_wp2
        go_roundw
        case rel => exact ⟨k + 1, b + 1, c2, by omega, by omega, by simp, congrArg (Value.int .i64) (by omega), by omega, by omega, (by rw [HC2.out, HC1.out]; exact hblk.both), hown2, HBx2.out⟩
        case measure => simp [intOf]; omega
      · have h3 : x % 3 = 2 := by omega
        go_wp2_with (at_builtin; refine wpList_append_own_at _ rfl (.tmp 32) (.tmp 35) 31 rfl w1.heap.size 40 i0 (.agg #[.int .i64 0, .int .i64 0, .int .i64 0, .slice none 0 0]) 4 48 Tryz.underlying31 hi hz0 hz1 hz2 rfl (by decide) _ code.length _ rfl (hown.alloc _) ⟨wr.heap.size, 0, none⟩ 1 1 (PI.cells ⟨4, 64, 0⟩) rfl rfl (cells_new wr (PI.cells ⟨4, 64, 0⟩) 40) (by intro u hu; simp [PI.cells] at hu; rcases hu with rfl | rfl | rfl | rfl <;> rfl) (by unfold maxLen; omega) (by omega) (by simp; omega) ?_)
        intro v1 x1 hown1 hgrow _ _
        rw [← codeCells_snoc] at hown1
        have hS1 : w1.heap.size ≤ x1.heap.size := by have := hgrow.size; simp at this; omega
        have hB1 := app_below (hown.alloc _) (HBwr.out.alloc hSwr _) (by simp; omega) hgrow
        have HBx1 := Lib.hid hB1
        have hSx1 := hS1
        obtain ⟨c1, HC1⟩ : ∃ c, Hid (c = code ++ [(⟨4, 64, 0⟩ : PI)]) := ⟨_, Lib.hid rfl⟩
        have hn1 : c1.length = code.length + 1 := by rw [HC1.out]; simp
        rw [← HC1.out, ← hn1] at hown1
        have hm1 : c1.length ≤ code.length + 1 := Nat.le_of_eq hn1
        clear hn1
        obtain ⟨vp1, vc1, rfl⟩ := own_any hown1
        have e1 := (hB1.cell (p := ⟨rb, ro + k, none⟩) (by show rb < w1.heap.size; omega)).trans ew
        clear hgrow hS1 hB1
        go_wp2_with (at_builtin; refine wpList_append_own_at _ rfl (.tmp 46) (.tmp 48) 31 rfl w1.heap.size 40 i0 (.agg #[.int .i64 0, .int .i64 0, .int .i64 0, .slice none 0 0]) 4 48 Tryz.underlying31 hi hz0 hz1 hz2 rfl (by decide) _ c1.length _ rfl (hown1.alloc _) ⟨x1.heap.size, 0, none⟩ 1 1 (PI.cells ⟨5, 0, 0⟩) rfl rfl (cells_new x1 (PI.cells ⟨5, 0, 0⟩) 40) (by intro u hu; simp [PI.cells] at hu; rcases hu with rfl | rfl | rfl | rfl <;> rfl) (by unfold maxLen; omega) (by omega) (by simp; omega) ?_)
        intro v2 x2 hown2 hgrow _ _
        rw [← codeCells_snoc] at hown2
        have hS2 : w1.heap.size ≤ x2.heap.size := by have := hgrow.size; simp at this; omega
        have hB2 := app_below (hown1.alloc _) (HBx1.out.alloc hSx1 _) (by simp; omega) hgrow
        have HBx2 := Lib.hid hB2
        have hSx2 := hS2
        obtain ⟨c2, HC2⟩ : ∃ c, Hid (c = c1 ++ [(⟨5, 0, 0⟩ : PI)]) := ⟨_, Lib.hid rfl⟩
        have hn2 : c2.length = c1.length + 1 := by rw [HC2.out]; simp
        rw [← HC2.out, ← hn2] at hown2
        have hm2 : c2.length ≤ c1.length + 1 := Nat.le_of_eq hn2
        clear hn2
        obtain ⟨vp2, vc2, rfl⟩ := own_any hown2
        have e2 := (hB2.cell (p := ⟨rb, ro + k, none⟩) (by show rb < w1.heap.size; omega)).trans ew
        clear hgrow hS2 hB2
        go_wp2_with (at_builtin; refine wpList_append_own_at _ rfl (.tmp 57) (.tmp 59) 31 rfl w1.heap.size 40 i0 (.agg #[.int .i64 0, .int .i64 0, .int .i64 0, .slice none 0 0]) 4 48 Tryz.underlying31 hi hz0 hz1 hz2 rfl (by decide) _ c2.length _ rfl (hown2.alloc _) ⟨x2.heap.size, 0, none⟩ 1 1 (PI.cells ⟨11, 0, 0⟩) rfl rfl (cells_new x2 (PI.cells ⟨11, 0, 0⟩) 40) (by intro u hu; simp [PI.cells] at hu; rcases hu with rfl | rfl | rfl | rfl <;> rfl) (by unfold maxLen; omega) (by omega) (by simp; omega) ?_)
        intro v3 x3 hown3 hgrow _ _
        rw [← codeCells_snoc] at hown3
        have hS3 : w1.heap.size ≤ x3.heap.size := by have := hgrow.size; simp at this; omega
        have hB3 := app_below (hown2.alloc _) (HBx2.out.alloc hSx2 _) (by simp; omega) hgrow
        have HBx3 := Lib.hid hB3
        have hSx3 := hS3
        obtain ⟨c3, HC3⟩ : ∃ c, Hid (c = c2 ++ [(⟨11, 0, 0⟩ : PI)]) := ⟨_, Lib.hid rfl⟩
        have hn3 : c3.length = c2.length + 1 := by rw [HC3.out]; simp
        rw [← HC3.out, ← hn3] at hown3
        have hm3 : c3.length ≤ c2.length + 1 := Nat.le_of_eq hn3
        clear hn3
        obtain ⟨vp3, vc3, rfl⟩ := own_any hown3
        have e3 := (hB3.cell (p := ⟨rb, ro + k, none⟩) (by show rb < w1.heap.size; omega)).trans ew
        clear hgrow hS3 hB3
        go_wp2
        go_roundw
        case rel => exact ⟨k + 1, b, c3, by omega, by omega, by simp, congrArg (Value.int .i64) (by omega), by omega, by omega, (by rw [HC3.out, HC2.out, HC1.out]; exact (hblk.both).shut), hown3, HBx3.out⟩
        case measure => simp [intOf]; omega
    · have hw3 : ¬ (k : Int) < n ∨ ((k : Int) < n ∧ ¬ (k : Int) < 40) := by omega
      have hb40 : b ≤ 40 := by omega
      have hc120 : code.length ≤ 120 := by omega
      have HB2 := Lib.hid hB2
      clear hlt hl hrows hin HN hb hc hk hk40 hB2
      rcases hw3 with h1 | ⟨h1, h2⟩
      all_goals
        go_wp2
        go_loopw [4, 8] (fun v i wz => ∃ (k2 b2 : Nat) (cd : List PI), i = .int .i64 k2 ∧ k2 + b2 = b ∧ cd.length ≤ 120 + k2 ∧ Blk cd b2 ∧ wz.ownsRow w1.heap.size 40 4 v cd.length (codeCells cd) ∧ Below w1.heap.size w1 wz) (fun _ i _ => b - (intOf i).toNat)
        case atStart => exact ⟨0, b, code, rfl, by omega, by omega, hblk, hown, HB2.out⟩
        case round =>
          clear hblk hown HB2 hc120
          obtain ⟨k2, b2, cd, rfl, hkb, hcd, hblk, hown, hB3⟩ := hrel
          by_cases hz : 0 < b2
          · have hlt2 : (k2 : Int) < b := by omega
            obtain ⟨b3, rfl⟩ : ∃ b3, b2 = b3 + 1 := ⟨b2 - 1, by omega⟩
            have hSwr : w1.heap.size ≤ wr.heap.size := hB3.size
            have HBwr := Lib.hid hB3
            clear cS cH hB3
            go_wp2_with (at_builtin; refine wpList_append_own_at _ rfl (.tmp 68) (.tmp 70) 31 rfl w1.heap.size 40 i0 (.agg #[.int .i64 0, .int .i64 0, .int .i64 0, .slice none 0 0]) 4 48 Tryz.underlying31 hi hz0 hz1 hz2 rfl (by decide) _ cd.length _ rfl (hown.alloc _) ⟨wr.heap.size, 0, none⟩ 1 1 (PI.cells ⟨11, 0, 0⟩) rfl rfl (cells_new wr (PI.cells ⟨11, 0, 0⟩) 40) (by intro u hu; simp [PI.cells] at hu; rcases hu with rfl | rfl | rfl | rfl <;> rfl) (by unfold maxLen; omega) (by omega) (by simp; omega) ?_)
            intro v1 x1 hown1 hgrow _ _
            rw [← codeCells_snoc] at hown1
            have hS1 : w1.heap.size ≤ x1.heap.size := by have := hgrow.size; simp at this; omega
            have hB1 := app_below (hown.alloc _) (HBwr.out.alloc hSwr _) (by simp; omega) hgrow
            have HBx1 := Lib.hid hB1
            have hSx1 := hS1
            obtain ⟨c1, HC1⟩ : ∃ c, Hid (c = cd ++ [(⟨11, 0, 0⟩ : PI)]) := ⟨_, Lib.hid rfl⟩
            have hn1 : c1.length = cd.length + 1 := by rw [HC1.out]; simp
            rw [← HC1.out, ← hn1] at hown1
            have hm1 : c1.length ≤ cd.length + 1 := Nat.le_of_eq hn1
            clear hn1
            obtain ⟨vp1, vc1, rfl⟩ := own_any hown1
            clear hgrow hS1 hB1
            go_wp2
            go_roundw
            case rel => exact ⟨k2 + 1, b3, c1, by simp, by omega, by omega, by rw [HC1.out]; exact hblk.shut, hown1, HBx1.out⟩
            case measure => simp [intOf]; omega
          · obtain rfl : b2 = 0 := by omega
            have hlt2 : ¬ (k2 : Int) < b := by omega
            obtain ⟨hw1, hw2, hw3, hw4⟩ := hblk.whole
            have hsm := hblk.2
            have hlen : cd.length ≤ 160 := by omega
            obtain ⟨cp, cc, rfl⟩ := own_any hown
            clear hblk cH hcd
            cases cp with
            | none =>
              obtain ⟨hz, rfl⟩ : cd = [] ∧ cc = 0 := own_none hown
              subst hz
              have hC := Mine.of hown
              clear hown
              have ho1 : wr.ownsRow wr.heap.size 40 4 (.slice none 0 0) 0 [] := none_own _ _
              have hC1 := hC
              have hb1 : Below wr.heap.size wr wr := Below.refl _ _
              have hs1 := hb1.size
              go_wp2_with (first
                | (at_builtin; refine wpList_append_own_none rfl (.const (.slice none 0 0)) (.tmp 72) 31 rfl wr.heap.size 40 i0 4 Tryz.underlying31 hi (.slice none 0 0) 0 [] rfl ho1 rfl ?_)
                | (at_builtin; refine wpList_append_own_at _ rfl (.tmp 73) (.tmp 75) 31 rfl wr.heap.size 40 i0 (.agg #[.int .i64 0, .int .i64 0, .int .i64 0, .slice none 0 0]) 4 48 Tryz.underlying31 hi hz0 hz1 hz2 rfl (by decide) _ 0 _ rfl (ho1.alloc _) ⟨wr.heap.size, 0, none⟩ 1 _ (PI.cells ⟨11, 0, 0⟩) rfl rfl (cells_new wr (PI.cells ⟨11, 0, 0⟩) 40) (by intro u hu; simp [PI.cells] at hu; rcases hu with rfl | rfl | rfl | rfl <;> rfl) (by unfold maxLen; omega) (by omega) (by simp; try omega) ?_))
              intro v2 y2 ho2 gr2 _ _
              obtain ⟨cw, HW⟩ : ∃ c, Hid (c = ([] : List PI) ++ [(⟨11, 0, 0⟩ : PI)]) := ⟨_, Lib.hid rfl⟩
              have hn : cw.length = ([] : List PI).length + 1 := by rw [HW.out]; simp
              have ho2 : y2.ownsRow wr.heap.size 40 4 v2 cw.length (codeCells cw) := by rw [hn, HW.out, codeCells_snoc]; exact ho2
              have hpos : 0 < cw.length := by omega
              have hmw : cw.length ≤ ([] : List PI).length + 1 := Nat.le_of_eq hn
              clear hn
              have hC2 := (hC1.alloc _).grow gr2 (fun g e => (own_ge ho1 g e).1)
              have hb2 := app_below (ho1.alloc _) (hb1.alloc hs1 _) (by simp; try omega) gr2
              have hs2 := hb2.size
              obtain ⟨p2, kw, rfl⟩ := own_any ho2
              obtain ⟨gw, rfl⟩ := own_pos ho2 hpos
              have hW2 := Mine.of ho2
              clear gr2
              go_wp2_with (at_builtin; refine wpList_append_own_at _ rfl (.const (.slice none 0 0)) (.tmp 77) 31 rfl y2.heap.size 40 i0 (.agg #[.int .i64 0, .int .i64 0, .int .i64 0, .slice none 0 0]) 4 48 Tryz.underlying31 hi hz0 hz1 hz2 rfl (by decide) (.slice none 0 0) 0 _ rfl (none_own _ _) ⟨gw, 0, none⟩ cw.length _ (codeCells cw) rfl (code_len cw) (hW2.cells rfl) (pi_cells_one cw) (by unfold maxLen; omega) (by omega) (by simp; try omega) ?_)
              intro v3 y3 ho3 gr3 _ _
              try rw [Nat.zero_add] at ho3
              try rw [List.nil_append] at ho3
              have hC3 := hC2.grow gr3 (fun _ e => by cases e)
              have hW3 := hW2.grow gr3 (fun _ e => by cases e)
              have hb3 : Below wr.heap.size wr y3 := hb2.grown gr3 hs2 (fun k e => by cases e)
              have hs3 := hb3.size
              have hs3' := gr3.size
              obtain ⟨p3, k3, rfl⟩ := own_any ho3
              clear gr3
              go_wp2_with (at_builtin; refine wpList_append_own_at _ rfl (.tmp 78) (.tmp 80) 31 rfl y2.heap.size 40 i0 (.agg #[.int .i64 0, .int .i64 0, .int .i64 0, .slice none 0 0]) 4 48 Tryz.underlying31 hi hz0 hz1 hz2 rfl (by decide) _ cw.length _ rfl (ho3.alloc _) ⟨y3.heap.size, 0, none⟩ 1 _ (PI.cells ⟨1, 0, 0⟩) rfl rfl (cells_new y3 (PI.cells ⟨1, 0, 0⟩) 40) (by intro u hu; simp [PI.cells] at hu; rcases hu with rfl | rfl | rfl | rfl <;> rfl) (by unfold maxLen; omega) (by omega) (by simp; try omega) ?_)
              intro v4 y4 ho4 gr4 _ _
              obtain ⟨cm, HM⟩ : ∃ c, Hid (c = cw ++ [(⟨1, 0, 0⟩ : PI)]) := ⟨_, Lib.hid rfl⟩
              have hn : cm.length = cw.length + 1 := by rw [HM.out]; simp
              have ho4 : y4.ownsRow y2.heap.size 40 4 v4 cm.length (codeCells cm) := by rw [hn, HM.out, codeCells_snoc]; exact ho4
              have hmm : cm.length ≤ cw.length + 1 := Nat.le_of_eq hn
              clear hn
              have hC4 := (hC3.alloc _).grow gr4 (fun g e => Nat.le_trans hs2 (own_ge ho3 g e).1)
              have hW4 := (hW3.alloc _).grow gr4 (fun g e => (own_ge ho3 g e).1)
              have hb4 := app_below (B := wr.heap.size) (ho3.alloc _ |> fun h => own_low h hs2) (hb3.alloc hs3 _) (by simp; try omega) gr4
              have hs4 := hb4.size
              have hs4' : y2.heap.size ≤ y4.heap.size := by have := gr4.size; simp at this; omega
              obtain ⟨p4, k4, rfl⟩ := own_any ho4
              have hM4 := Mine.of ho4
              clear gr4
              have hlit := World.ownsRow_lit (base := y4.heap.size) (e := 40) (size := 4) y4 #[.int .i64 5, .int .i64 0, .int .i64 0, .slice none 0 0] 1 (Nat.le_refl _) (by decide) rfl
              go_wp2_with (at_builtin; refine wpList_append_own_at _ rfl (.tmp 83) (.tmp 84) 31 rfl y4.heap.size 40 i0 (.agg #[.int .i64 0, .int .i64 0, .int .i64 0, .slice none 0 0]) 4 48 Tryz.underlying31 hi hz0 hz1 hz2 rfl (by decide) _ 1 _ rfl hlit ⟨gw, 0, none⟩ cw.length _ (codeCells cw) rfl (code_len cw) ((hW4.alloc _).cells rfl) (pi_cells_one cw) (by unfold maxLen; omega) (by omega) (by simp; try omega) ?_)
              intro v5 y5 ho5 gr5 _ _
              obtain ⟨co, HO⟩ : ∃ c, Hid (c = (⟨5, 0, 0⟩ : PI) :: cw) := ⟨_, Lib.hid rfl⟩
              have hn : co.length = 1 + cw.length := by rw [HO.out]; simp; omega
              have ho5 : y5.ownsRow y4.heap.size 40 4 v5 co.length (codeCells co) := by rw [hn, HO.out]; exact ho5
              have hmo : co.length ≤ cw.length + 1 := by omega
              clear hn
              have hg5 : ∀ g, (Value.slice (some ⟨y4.heap.size, 0, none⟩) 1 1).ownBlock = some g → g = y4.heap.size := fun g e => by simpa [Value.ownBlock] using e.symm
              have hC5 := (hC4.alloc _).grow gr5 (fun g e => by rw [hg5 g e]; exact hs4)
              have hW5 := (hW4.alloc _).grow gr5 (fun g e => by rw [hg5 g e]; exact hs4')
              have hM5 := (hM4.alloc _).grow gr5 (fun g e => by rw [hg5 g e]; exact Nat.le_refl _)
              have hb5 := app_below (B := wr.heap.size) (own_low hlit hs4) (hb4.alloc hs4 _) (by simp; try omega) gr5
              obtain ⟨p5, k5, rfl⟩ := own_any ho5
              have hO5 := Mine.of ho5
              clear gr5 hlit hC4 hW4 hM4 hC3 hW3 hC2 hW2 hC1 ho1 ho2 ho3 ho4 ho5 hb1 hb2 hb3 hb4
              have hbw := beltB (beltB hB1 (Nat.le_refl _) hB3) (Nat.le_refl _) hb5
              have hsw : ∀ x ∈ cw, (0 ≤ x.op ∧ x.op ≤ 64) ∧ (0 ≤ x.a ∧ x.a ≤ 64) ∧ x.b = 0 := by
                intro x hx
                rw [HW.out] at hx
                rcases List.mem_append.1 hx with h | h
                · exact hsm x h
                · rw [List.mem_singleton.1 h]; decide
              have cSw := fun (W : World) (h1 : Below w.heap.size w W) (h2 : W.ownsRow wr.heap.size 40 4 (.slice (some ⟨gw, 0, none⟩) cw.length kw) cw.length (codeCells cw)) => cS W _ _ _ cw h1 h2 hsw (by omega)
              rw [show runs (cw.map PI.op) [] = true by rw [HW.out]; exact hw1] at cSw
              have cSc := fun (W : World) (h1 : Below w.heap.size w W) (h2 : W.ownsRow w1.heap.size 40 4 (.slice none 0 0) 0 []) => cS W _ none 0 [] h1 h2 hsm (by decide)
              rw [show runs ((([] : List PI)).map PI.op) [] = false from hw2] at cSc
              simp only [List.length_nil] at cSc
              have cSm := fun (W : World) (h1 : Below w.heap.size w W) (h2 : W.ownsRow y2.heap.size 40 4 (.slice p4 cm.length k4) cm.length (codeCells cm)) => cS W _ _ _ cm h1 h2 (by
                intro x hx
                rw [HM.out] at hx
                rcases List.mem_append.1 hx with h | h
                · exact hsw x h
                · rw [List.mem_singleton.1 h]; decide) (by omega)
              rw [show runs (cm.map PI.op) [] = false by rw [HM.out, HW.out]; exact hw3] at cSm
              have cSo := fun (W : World) (h1 : Below w.heap.size w W) (h2 : W.ownsRow y4.heap.size 40 4 (.slice p5 co.length k5) co.length (codeCells co)) => cS W _ _ _ co h1 h2 (by
                intro x hx
                rw [HO.out] at hx
                rcases List.mem_cons.1 hx with rfl | h
                · decide
                · exact hsw x h) (by omega)
              rw [show runs (co.map PI.op) [] = false by rw [HO.out, HW.out]; exact hw4] at cSo
              clear hw1 hw2 hw3 hw4 hsm hsw cS hmw hmm hmo hpos
              go_wp2_with (first
                | (go_at_call 13; (with_reducible refine (cSw _ hbw hW5.own).mono ?_); rintro e z1 ⟨rfl, hz1⟩; have hq1 := beltB hbw (Nat.le_refl _) hz1)
                | (go_at_call 13; (with_reducible refine (cSc _ hq1 (own_below hC5.own hz1)).mono ?_); rintro e z2 ⟨rfl, hz2⟩; have hq2 := beltB hq1 (Nat.le_refl _) hz2)
                | (go_at_call 13; (with_reducible refine (cSm _ hq2 (own_below (own_below hM5.own hz1) hz2)).mono ?_); rintro e z3 ⟨rfl, hz3⟩; have hq3 := beltB hq2 (Nat.le_refl _) hz3)
                | (go_at_call 13; (with_reducible refine (cSo _ hq3 (own_below (own_below (own_below hO5.own hz1) hz2) hz3)).mono ?_); rintro e z4 ⟨rfl, hz4⟩; have hq4 := beltB hq3 (Nat.le_refl _) hz4))
              go_ret
              exact ⟨rfl, hq4⟩
            | some a0 =>
              obtain ⟨g, rfl⟩ := own_some hown
              have hC := Mine.of hown
              clear hown
              go_wp2_with (at_builtin; refine wpList_append_own_at _ rfl (.const (.slice none 0 0)) (.tmp 72) 31 rfl wr.heap.size 40 i0 (.agg #[.int .i64 0, .int .i64 0, .int .i64 0, .slice none 0 0]) 4 48 Tryz.underlying31 hi hz0 hz1 hz2 rfl (by decide) (.slice none 0 0) 0 _ rfl (none_own _ _) ⟨g, 0, none⟩ cd.length _ (codeCells cd) rfl (code_len cd) (hC.cells rfl) (pi_cells_one cd) (by unfold maxLen; omega) (by omega) (by simp; try omega) ?_)
              intro v1 y1 ho1 gr1 _ _
              try rw [Nat.zero_add] at ho1
              try rw [List.nil_append] at ho1
              have hC1 := hC.grow gr1 (fun _ e => by cases e)
              have hb1 : Below wr.heap.size wr y1 := (Below.refl _ _).grown gr1 (Nat.le_refl _) (fun k e => by cases e)
              have hs1 := hb1.size
              obtain ⟨p1, k1, rfl⟩ := own_any ho1
              clear gr1
              go_wp2_with (at_builtin; refine wpList_append_own_at _ rfl (.tmp 73) (.tmp 75) 31 rfl wr.heap.size 40 i0 (.agg #[.int .i64 0, .int .i64 0, .int .i64 0, .slice none 0 0]) 4 48 Tryz.underlying31 hi hz0 hz1 hz2 rfl (by decide) _ cd.length _ rfl (ho1.alloc _) ⟨y1.heap.size, 0, none⟩ 1 _ (PI.cells ⟨11, 0, 0⟩) rfl rfl (cells_new y1 (PI.cells ⟨11, 0, 0⟩) 40) (by intro u hu; simp [PI.cells] at hu; rcases hu with rfl | rfl | rfl | rfl <;> rfl) (by unfold maxLen; omega) (by omega) (by simp; try omega) ?_)
              intro v2 y2 ho2 gr2 _ _
              obtain ⟨cw, HW⟩ : ∃ c, Hid (c = cd ++ [(⟨11, 0, 0⟩ : PI)]) := ⟨_, Lib.hid rfl⟩
              have hn : cw.length = cd.length + 1 := by rw [HW.out]; simp
              have ho2 : y2.ownsRow wr.heap.size 40 4 v2 cw.length (codeCells cw) := by rw [hn, HW.out, codeCells_snoc]; exact ho2
              have hpos : 0 < cw.length := by omega
              have hmw : cw.length ≤ cd.length + 1 := Nat.le_of_eq hn
              clear hn
              have hC2 := (hC1.alloc _).grow gr2 (fun g e => (own_ge ho1 g e).1)
              have hb2 := app_below (ho1.alloc _) (hb1.alloc hs1 _) (by simp; try omega) gr2
              have hs2 := hb2.size
              obtain ⟨p2, kw, rfl⟩ := own_any ho2
              obtain ⟨gw, rfl⟩ := own_pos ho2 hpos
              have hW2 := Mine.of ho2
              clear gr2
              go_wp2_with (at_builtin; refine wpList_append_own_at _ rfl (.const (.slice none 0 0)) (.tmp 77) 31 rfl y2.heap.size 40 i0 (.agg #[.int .i64 0, .int .i64 0, .int .i64 0, .slice none 0 0]) 4 48 Tryz.underlying31 hi hz0 hz1 hz2 rfl (by decide) (.slice none 0 0) 0 _ rfl (none_own _ _) ⟨gw, 0, none⟩ cw.length _ (codeCells cw) rfl (code_len cw) (hW2.cells rfl) (pi_cells_one cw) (by unfold maxLen; omega) (by omega) (by simp; try omega) ?_)
              intro v3 y3 ho3 gr3 _ _
              try rw [Nat.zero_add] at ho3
              try rw [List.nil_append] at ho3
              have hC3 := hC2.grow gr3 (fun _ e => by cases e)
              have hW3 := hW2.grow gr3 (fun _ e => by cases e)
              have hb3 : Below wr.heap.size wr y3 := hb2.grown gr3 hs2 (fun k e => by cases e)
              have hs3 := hb3.size
              have hs3' := gr3.size
              obtain ⟨p3, k3, rfl⟩ := own_any ho3
              clear gr3
              go_wp2_with (at_builtin; refine wpList_append_own_at _ rfl (.tmp 78) (.tmp 80) 31 rfl y2.heap.size 40 i0 (.agg #[.int .i64 0, .int .i64 0, .int .i64 0, .slice none 0 0]) 4 48 Tryz.underlying31 hi hz0 hz1 hz2 rfl (by decide) _ cw.length _ rfl (ho3.alloc _) ⟨y3.heap.size, 0, none⟩ 1 _ (PI.cells ⟨1, 0, 0⟩) rfl rfl (cells_new y3 (PI.cells ⟨1, 0, 0⟩) 40) (by intro u hu; simp [PI.cells] at hu; rcases hu with rfl | rfl | rfl | rfl <;> rfl) (by unfold maxLen; omega) (by omega) (by simp; try omega) ?_)
              intro v4 y4 ho4 gr4 _ _
              obtain ⟨cm, HM⟩ : ∃ c, Hid (c = cw ++ [(⟨1, 0, 0⟩ : PI)]) := ⟨_, Lib.hid rfl⟩
              have hn : cm.length = cw.length + 1 := by rw [HM.out]; simp
              have ho4 : y4.ownsRow y2.heap.size 40 4 v4 cm.length (codeCells cm) := by rw [hn, HM.out, codeCells_snoc]; exact ho4
              have hmm : cm.length ≤ cw.length + 1 := Nat.le_of_eq hn
              clear hn
              have hC4 := (hC3.alloc _).grow gr4 (fun g e => Nat.le_trans hs2 (own_ge ho3 g e).1)
              have hW4 := (hW3.alloc _).grow gr4 (fun g e => (own_ge ho3 g e).1)
              have hb4 := app_below (B := wr.heap.size) (ho3.alloc _ |> fun h => own_low h hs2) (hb3.alloc hs3 _) (by simp; try omega) gr4
              have hs4 := hb4.size
              have hs4' : y2.heap.size ≤ y4.heap.size := by have := gr4.size; simp at this; omega
              obtain ⟨p4, k4, rfl⟩ := own_any ho4
              have hM4 := Mine.of ho4
              clear gr4
              have hlit := World.ownsRow_lit (base := y4.heap.size) (e := 40) (size := 4) y4 #[.int .i64 5, .int .i64 0, .int .i64 0, .slice none 0 0] 1 (Nat.le_refl _) (by decide) rfl
              go_wp2_with (at_builtin; refine wpList_append_own_at _ rfl (.tmp 83) (.tmp 84) 31 rfl y4.heap.size 40 i0 (.agg #[.int .i64 0, .int .i64 0, .int .i64 0, .slice none 0 0]) 4 48 Tryz.underlying31 hi hz0 hz1 hz2 rfl (by decide) _ 1 _ rfl hlit ⟨gw, 0, none⟩ cw.length _ (codeCells cw) rfl (code_len cw) ((hW4.alloc _).cells rfl) (pi_cells_one cw) (by unfold maxLen; omega) (by omega) (by simp; try omega) ?_)
              intro v5 y5 ho5 gr5 _ _
              obtain ⟨co, HO⟩ : ∃ c, Hid (c = (⟨5, 0, 0⟩ : PI) :: cw) := ⟨_, Lib.hid rfl⟩
              have hn : co.length = 1 + cw.length := by rw [HO.out]; simp; omega
              have ho5 : y5.ownsRow y4.heap.size 40 4 v5 co.length (codeCells co) := by rw [hn, HO.out]; exact ho5
              have hmo : co.length ≤ cw.length + 1 := by omega
              clear hn
              have hg5 : ∀ g, (Value.slice (some ⟨y4.heap.size, 0, none⟩) 1 1).ownBlock = some g → g = y4.heap.size := fun g e => by simpa [Value.ownBlock] using e.symm
              have hC5 := (hC4.alloc _).grow gr5 (fun g e => by rw [hg5 g e]; exact hs4)
              have hW5 := (hW4.alloc _).grow gr5 (fun g e => by rw [hg5 g e]; exact hs4')
              have hM5 := (hM4.alloc _).grow gr5 (fun g e => by rw [hg5 g e]; exact Nat.le_refl _)
              have hb5 := app_below (B := wr.heap.size) (own_low hlit hs4) (hb4.alloc hs4 _) (by simp; try omega) gr5
              obtain ⟨p5, k5, rfl⟩ := own_any ho5
              have hO5 := Mine.of ho5
              clear gr5 hlit hC4 hW4 hM4 hC3 hW3 hC2 hW2 hC1 ho1 ho2 ho3 ho4 ho5 hb1 hb2 hb3 hb4
              have hbw := beltB (beltB hB1 (Nat.le_refl _) hB3) (Nat.le_refl _) hb5
              have hsw : ∀ x ∈ cw, (0 ≤ x.op ∧ x.op ≤ 64) ∧ (0 ≤ x.a ∧ x.a ≤ 64) ∧ x.b = 0 := by
                intro x hx
                rw [HW.out] at hx
                rcases List.mem_append.1 hx with h | h
                · exact hsm x h
                · rw [List.mem_singleton.1 h]; decide
              have cSw := fun (W : World) (h1 : Below w.heap.size w W) (h2 : W.ownsRow wr.heap.size 40 4 (.slice (some ⟨gw, 0, none⟩) cw.length kw) cw.length (codeCells cw)) => cS W _ _ _ cw h1 h2 hsw (by omega)
              rw [show runs (cw.map PI.op) [] = true by rw [HW.out]; exact hw1] at cSw
              have cSc := fun (W : World) (h1 : Below w.heap.size w W) (h2 : W.ownsRow w1.heap.size 40 4 (.slice (some ⟨g, 0, none⟩) cd.length cc) cd.length (codeCells cd)) => cS W _ _ _ cd h1 h2 hsm (by omega)
              rw [show runs ((cd).map PI.op) [] = false from hw2] at cSc
              
              have cSm := fun (W : World) (h1 : Below w.heap.size w W) (h2 : W.ownsRow y2.heap.size 40 4 (.slice p4 cm.length k4) cm.length (codeCells cm)) => cS W _ _ _ cm h1 h2 (by
                intro x hx
                rw [HM.out] at hx
                rcases List.mem_append.1 hx with h | h
                · exact hsw x h
                · rw [List.mem_singleton.1 h]; decide) (by omega)
              rw [show runs (cm.map PI.op) [] = false by rw [HM.out, HW.out]; exact hw3] at cSm
              have cSo := fun (W : World) (h1 : Below w.heap.size w W) (h2 : W.ownsRow y4.heap.size 40 4 (.slice p5 co.length k5) co.length (codeCells co)) => cS W _ _ _ co h1 h2 (by
                intro x hx
                rw [HO.out] at hx
                rcases List.mem_cons.1 hx with rfl | h
                · decide
                · exact hsw x h) (by omega)
              rw [show runs (co.map PI.op) [] = false by rw [HO.out, HW.out]; exact hw4] at cSo
              clear hw1 hw2 hw3 hw4 hsm hsw cS hmw hmm hmo hpos
              go_wp2_with (first
                | (go_at_call 13; (with_reducible refine (cSw _ hbw hW5.own).mono ?_); rintro e z1 ⟨rfl, hz1⟩; have hq1 := beltB hbw (Nat.le_refl _) hz1)
                | (go_at_call 13; (with_reducible refine (cSc _ hq1 (own_below hC5.own hz1)).mono ?_); rintro e z2 ⟨rfl, hz2⟩; have hq2 := beltB hq1 (Nat.le_refl _) hz2)
                | (go_at_call 13; (with_reducible refine (cSm _ hq2 (own_below (own_below hM5.own hz1) hz2)).mono ?_); rintro e z3 ⟨rfl, hz3⟩; have hq3 := beltB hq2 (Nat.le_refl _) hz3)
                | (go_at_call 13; (with_reducible refine (cSo _ hq3 (own_below (own_below (own_below hO5.own hz1) hz2) hz3)).mono ?_); rintro e z4 ⟨rfl, hz4⟩; have hq4 := beltB hq3 (Nat.le_refl _) hz4))
              go_ret
              exact ⟨rfl, hq4⟩
end Go.Proofs.YtnonedmkdcbmfaaGreatDoor
