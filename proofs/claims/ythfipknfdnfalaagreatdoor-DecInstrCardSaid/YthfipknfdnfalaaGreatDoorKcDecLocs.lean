/-
  Package dec reads locals: all their runs, walked. Contracts that the proofs call; no statement is proved here.
-/
import Derived.Test.YthfipknfdnfalaaGreatDoorKcDecThings
namespace Go.Proofs.YthfipknfdnfalaaGreatDoor
set_option maxRecDepth 100000
set_option maxHeartbeats 16000000
open Go.RowKit
set_option linter.unusedVariables false
def pre6 (s : List UInt8) : Out (List UInt8) → Out (List UInt8)
  | .ok v r => .ok (s ++ v) r
  | .bad e => .bad e
theorem pre6_pre (s t : List UInt8) (o : Out (List UInt8)) : pre6 s (pre6 t o) = pre6 (s ++ t) o := by cases o <;> simp [pre6]
def LocSt (rq rk : RV) (k : Nat) (left : Int) (s : List UInt8) : Prop :=
  rk.s = rq.s ∧ ((rq.e ≠ 0 ∧ rk.e = rq.e) ∨ (rq.e = 0 ∧ rk.e = 0 ∧ ∀ m, pLocals (k + m) 4096 rq.rem = pre6 s (pLocals m left rk.rem)) ∨ (rq.e = 0 ∧ rk.e ≠ 0 ∧ ∀ m, pLocals (k + m) 4096 rq.rem = .bad rk.e))
theorem LocSt.start (rq : RV) : LocSt rq rq 0 4096 [] := by
  refine ⟨rfl, ?_⟩
  by_cases he : rq.e = 0
  · exact .inr (.inl ⟨he, he, fun m => by rw [Nat.zero_add]; cases pLocals m 4096 rq.rem <;> simp [pre6]⟩)
  · exact .inl ⟨he, rfl⟩
theorem LocSt.step {rq rk r' : RV} {k : Nat} {left left' : Int} {s : List UInt8} {x : ByteArray} {kt : Int × Int} (h : LocSt rq rk k left s) (he : rk.e = 0) (g : Got (pLoc1 left) rk r' kt) (hx : r'.e = 0 → left' = left - kt.1 ∧ 0 ≤ kt.1 ∧ x = bs (List.replicate kt.1.toNat (u8 kt.2))) :
    LocSt rq r' (k + 1) left' (s ++ x.data.toList) := by
  refine ⟨g.1.trans h.1, ?_⟩
  rcases h.2 with ⟨h1, h2⟩ | ⟨h1, _, h3⟩ | ⟨_, h2, _⟩
  · exact absurd (h2.symm.trans he) h1
  · have hs : ∀ m, pLocals (k + 1 + m) 4096 rq.rem = pre6 s (pLocals (m + 1) left rk.rem) := fun m => by rw [show k + 1 + m = k + (m + 1) by omega]; exact h3 _
    rcases g.2 with ⟨g1, _⟩ | ⟨_, g2, g3⟩ | ⟨_, g2, g3⟩
    · exact absurd he g1
    · obtain ⟨e1, _, e2⟩ := hx g2
      refine .inr (.inl ⟨h1, g2, fun m => ?_⟩)
      rw [hs, pLocals_succ, and_ok g3, ← pre6_pre, e1, e2, bs_list6]
      unfold Pr.and
      cases pLocals m (left - kt.1) r'.rem <;> rfl
    · refine .inr (.inr ⟨h1, g2, fun m => ?_⟩)
      rw [hs, pLocals_succ, and_bad g3]
      rfl
  · exact absurd he h2
theorem LocSt.done {rq rk : RV} {k : Nat} {left : Int} {s : List UInt8} (h : LocSt rq rk k left s) : Got (pLocals k 4096) rq rk s := by
  refine ⟨h.1, ?_⟩
  rcases h.2 with h1 | ⟨h1, h2, h3⟩ | ⟨h1, h2, h3⟩
  · exact .inl h1
  · exact .inr (.inl ⟨h1, h2, by have := h3 0; rw [Nat.add_zero] at this; rw [this]; show Out.ok (s ++ []) _ = _; rw [List.append_nil]⟩)
  · exact .inr (.inr ⟨h1, h2, h3 0⟩)
theorem LocSt.short {rq rk : RV} {k n : Nat} {left : Int} {s : List UInt8} (h : LocSt rq rk k left s) (hk : k ≤ n) (he : rk.e ≠ 0) (y : List UInt8) : Got (pLocals n 4096) rq rk y := by
  refine ⟨h.1, ?_⟩
  rcases h.2 with h1 | ⟨_, h2, _⟩ | ⟨h1, h2, h3⟩
  · exact .inl h1
  · exact absurd h2 he
  · exact .inr (.inr ⟨h1, h2, by have := h3 (n - k); rwa [show k + (n - k) = n by omega] at this⟩)
def pLocAll : Pr (List UInt8) := pMany.and fun n => pLocals n.toNat 4096
def rowStr (s : ByteArray) : List Value := [.string s]
def allS (l : List ByteArray) : List UInt8 := (l.map (·.data.toList)).flatten
theorem allS_snoc (l : List ByteArray) (x : ByteArray) : allS (l ++ [x]) = allS l ++ x.data.toList := by simp [allS]
theorem MovF.grown {B M F : Nat} {w w1 w2 : World} {row : Option Nat} (h : MovF B M F w w1) (g : w1.grownBy w2 row) (hr : ∀ k, row = some k → w.heap.size ≤ k) : MovF B M F w w2 :=
  ⟨g.os.trans h.os, g.tape.trans h.tape, g.output.trans h.output, Nat.le_trans h.size g.size, fun k hk h1 h2 h3 => (g.block k (Nat.lt_of_lt_of_le hk h.size) (fun e => by have := hr k e.symm; omega)).trans (h.block k hk h1 h2 h3)⟩
theorem own_movF {B M F : Nat} {w w' : World} {base e sz n : Nat} {v : Value} {xs : List Value} (h : w.ownsRow base e sz v n xs) (hm : MovF B M F w w') (hB : B < base) (hM : M < base) (hF : F < base) : w'.ownsRow base e sz v n xs :=
  own_same h fun g hg => by have := own_lt6 h g hg; exact hm.block g this.2 (by omega) (by omega) (by omega)
def DidLocs (w0 : World) (B M bL : Nat) (T : TypeId) (rest : List Value) (r : RV) (w : World) (e : Ending) (w' : World) : Prop :=
  ∃ (l : List ByteArray) (r' : RV) (v : Value), e = .returned v ∧ Got pLocAll r r' (allS l) ∧ RdAt w0 B M T rest r' w' ∧ MovF B M bL w w' ∧ w'.ownsRow w.heap.size 9 1 v l.length (l.flatMap rowStr) ∧ (allS l).length ≤ 16384 ∧ l.length ≤ 4096
theorem info_string : (Tryz.prog.info? 9).map (fun i => (i.zero, i.size, i.bytes)) = some (some (.string ⟨#[]⟩), 1, 16) := by kernel_rfl
theorem enters_loc : ∀ args w, (callFunc 324 args).run Tryz.prog w = .ok (.enter 324 args) w := enters_of Tryz.func324 (by kernel_rfl) rfl
theorem list_locals {w0 : World} {B M bL : Nat} {T : TypeId} {rest : List Value} {r : RV} {w : World} (h : RdAt w0 B M T rest r w) (hbx : w.heap[bL]? = some (.cells #[.int .i64 4096] 3)) (n1 : bL ≠ B) (n2 : bL ≠ M) (hw : w0.heap.size ≤ bL) :
    Calls Tryz.prog 323 #[.pointer (some ⟨B, 0, none⟩), .func (.func 324) #[] #[.pointer (some ⟨bL, 0, none⟩)]] w (DidLocs w0 B M bL T rest r w) := by
  have hlt := h.lt
  have hBl := hlt.1
  have hMl := hlt.2
  have hFl := in_heap6 hbx
  have eg := enters_loc
  have c1 := number_reads w0 B M T rest r w h
  obtain ⟨i0, hi, hz0, hz1, hz2⟩ := info_parts info_string
  clear h hlt
  go_enter Tryz.func323, Tryz.ntmps323
  go_wp2_with (first
    | (go_at_call 150; (with_reducible refine c1.mono ?_); rintro e w1 ⟨n, r1, rfl, g1, h1, m1, ok1⟩; have c2 := fail_of h1 5; have ok0 := ok1.1; have ok2 := ok1.2; dsimp only [valInt])
    | (go_at_call 138; (with_reducible refine c2.mono ?_); rintro e w2 ⟨rfl, h2, m2⟩))
  · have hgt : 4096 < n := by assumption
    obtain ⟨rq, hq⟩ : ∃ rq, r1.bad 5 = rq := ⟨_, rfl⟩
    obtain ⟨hs, hm, hbq, hgm, hfew⟩ : RdAt w0 B M T rest rq w2 ∧ MovF B M bL w w2 ∧ w2.heap[bL]? = some (.cells #[.int .i64 4096] 3) ∧ Got pMany r rq n ∧ (rq.e = 0 → n ≤ 4096) := by
      rw [← hq]
      exact ⟨h2, (m1.trans m2).on bL, ((m1.trans m2).block _ hFl n1 n2).trans hbx, (Got.many g1).1 hgt, fun e => absurd e (bad_e (by decide))⟩
    clear hbx hq h1 h2 m1 m2 g1 c2 c1 hgt
    have HG := Lib.hid hgm
    have HF := Lib.hid hfew
    clear hgm hfew
    go_loopw [6, 14] (fun v i wr => ∃ (k : Nat) (l : List ByteArray) (rk : RV) (left : Int), (k : Int) ≤ n ∧ k ≤ 4096 ∧ i = .int .i64 k ∧ wr.ownsRow w.heap.size 9 1 v k (l.flatMap rowStr) ∧ l.length = k ∧ RdAt w0 B M T rest rk wr ∧ MovF B M bL w wr ∧ Hid (LocSt rq rk k left (allS l)) ∧ wr.heap[bL]? = some (.cells #[.int .i64 left] 3) ∧ 0 ≤ left ∧ left ≤ 4096 ∧ ((allS l).length : Int) ≤ 4 * (4096 - left)) (fun _ i _ => n.toNat - (intOf i).toNat)
    case atStart => exact ⟨0, [], rq, 4096, ok0, by omega, rfl, World.ownsRow_nil _ _ _ _, rfl, hs, hm, Lib.hid (LocSt.start rq), hbq, by omega, by omega, by simp [allS]⟩
    case round =>
      clear hs hm hbq
      obtain ⟨k, l, rk, left, hkn, hk4, rfl, hown, hlk, hr, hm, HK, hbr, hl0, hl1, hsum⟩ := hrel
      obtain ⟨vp, vc, rfl⟩ := own_any6 hown
      obtain ⟨x0, x1, x2, x3, y0, y1, y2, y3⟩ := hr.reads
      by_cases hlt : (k : Int) < n
      · by_cases he : rk.e = 0
        · have hn4 : n ≤ 4096 := HF.out (by
            rcases HK.out.2 with ⟨a1, a2⟩ | ⟨a1, _⟩ | ⟨a1, _⟩
            · exact absurd (a2.symm.trans he) a1
            · exact a1
            · exact a1)
          exfalso; omega
        · have hq : (rk.e != 0) = true := by simpa using he
          have HGL := Lib.hid (show Got pLocAll r rk (allS []) from Got.and HG.out (HK.out.short (n := n.toNat) (by omega) he []))
          go_wp2
          go_ret
          exact ⟨[], rk, _, rfl, HGL.out, hr, hm, World.ownsRow_nil _ _ _ _, by simp [allS], by simp⟩
      · have hkk : n.toNat = k := by omega
        have HGL := Lib.hid (show Got pLocAll r rk (allS l) from Got.and HG.out (show Got (pLocals n.toNat 4096) rq rk (allS l) by rw [hkk]; exact HK.out.done))
        have hnk : n = (k : Int) := by omega
        clear hlt
        go_wp2
        go_ret
        exact ⟨l, rk, _, rfl, HGL.out, hr, hm, hlk.symm ▸ hown, by omega, by omega⟩
  · have hle : n ≤ 4096 := by assumption
    obtain ⟨rq, hq⟩ : ∃ rq, r1 = rq := ⟨_, rfl⟩
    obtain ⟨hs, hm, hbq, hgm, hfew⟩ : RdAt w0 B M T rest rq w1 ∧ MovF B M bL w w1 ∧ w1.heap[bL]? = some (.cells #[.int .i64 4096] 3) ∧ Got pMany r rq n ∧ (rq.e = 0 → n ≤ 4096) := by
      rw [← hq]
      have hle' : ¬ 4096 < n := by omega
      exact ⟨h1, m1.on bL, (m1.block _ hFl n1 n2).trans hbx, (Got.many g1).2 hle', fun _ => by omega⟩
    clear hbx hq h1 m1 g1 c2 c1 hle
    have HG := Lib.hid hgm
    have HF := Lib.hid hfew
    clear hgm hfew
    go_loopw [6, 14] (fun v i wr => ∃ (k : Nat) (l : List ByteArray) (rk : RV) (left : Int), (k : Int) ≤ n ∧ k ≤ 4096 ∧ i = .int .i64 k ∧ wr.ownsRow w.heap.size 9 1 v k (l.flatMap rowStr) ∧ l.length = k ∧ RdAt w0 B M T rest rk wr ∧ MovF B M bL w wr ∧ Hid (LocSt rq rk k left (allS l)) ∧ wr.heap[bL]? = some (.cells #[.int .i64 left] 3) ∧ 0 ≤ left ∧ left ≤ 4096 ∧ ((allS l).length : Int) ≤ 4 * (4096 - left)) (fun _ i _ => n.toNat - (intOf i).toNat)
    case atStart => exact ⟨0, [], rq, 4096, ok0, by omega, rfl, World.ownsRow_nil _ _ _ _, rfl, hs, hm, Lib.hid (LocSt.start rq), hbq, by omega, by omega, by simp [allS]⟩
    case round =>
      clear hs hm hbq
      obtain ⟨k, l, rk, left, hkn, hk4, rfl, hown, hlk, hr, hm, HK, hbr, hl0, hl1, hsum⟩ := hrel
      obtain ⟨vp, vc, rfl⟩ := own_any6 hown
      obtain ⟨x0, x1, x2, x3, y0, y1, y2, y3⟩ := hr.reads
      by_cases hlt : (k : Int) < n
      · by_cases he : rk.e = 0
        · have hn4 : n ≤ 4096 := HF.out (by
            rcases HK.out.2 with ⟨a1, a2⟩ | ⟨a1, _⟩ | ⟨a1, _⟩
            · exact absurd (a2.symm.trans he) a1
            · exact a1
            · exact a1)
          rw [he] at x2
          have cq := loc_reads hr bL left hbr n1 n2 hw ⟨hl0, hl1⟩
          have HE := Lib.hid he
          have HLK := Lib.hid hlk
          clear hr he hlk
          go_wp2_with fail
          refine cq.mono ?_
          rintro e w3 ⟨x, kt, r3, left3, rfl, g3, h3, m3, hb3, hl3, hl4', hx4, hxe⟩
          have hown3 := (own_movF hown m3 hBl hMl hFl).alloc (.cells (rowStr x).toArray 9)
          have h3a := h3.alloc (.cells (rowStr x).toArray 9)
          have hm3 := (hm.trans m3).then ((Below.refl _ w3).alloc (Nat.le_refl _) (.cells (rowStr x).toArray 9))
          have hb3a := (Below.heap_alloc w3 (.cells (rowStr x).toArray 9) _ (in_heap6 hb3)).trans hb3
          have hs3 := Nat.le_trans hm.size m3.size
          clear cq hown
          go_wp2_with (at_builtin; refine wpList_append_own_at _ rfl (.tmp 21) (.tmp 25) 308 rfl w.heap.size 9 i0 (.string ⟨#[]⟩) 1 16 Tryz.underlying308 hi hz0 hz1 hz2 rfl (by decide) (.slice vp k vc) k (l.flatMap rowStr) rfl hown3 ⟨w3.heap.size, 0, none⟩ 1 1 (rowStr x) rfl rfl (cells_new6 w3 (rowStr x) 9) (by intro u hu; simp [rowStr] at hu; rcases hu with rfl <;> rfl) (by unfold maxLen; omega) (by omega) (by simp; omega) ?_)
          intro v' w4 hown4 hg4 _ _
          have hge : ∀ q, (Value.slice vp k vc).ownBlock = some q → w.heap.size ≤ q := fun q hq => (own_lt6 hown3 q hq).1
          have h4 := h3a.grown hg4 (fun q hq => Nat.lt_of_lt_of_le hBl (hge q hq)) (fun q hq => Nat.lt_of_lt_of_le hMl (hge q hq))
          have hm4 := hm3.grown hg4 hge
          have e4 : l.flatMap rowStr ++ rowStr x = (l ++ [x]).flatMap rowStr := by simp
          rw [e4] at hown4
          have HK4 := Lib.hid (by have := HK.out.step HE.out g3 hxe; rw [← allS_snoc] at this; exact this)
          have hb4 := (hg4.block bL (in_heap6 hb3a) (fun e => by have := hge bL e.symm; omega)).trans hb3a
          have hsum4 : ((allS (l ++ [x])).length : Int) ≤ 4 * (4096 - left3) := by
            rw [allS_snoc, List.length_append]
            have e : x.data.toList.length = x.size := Array.length_toList
            omega
          have hl4 : (l ++ [x]).length = k + 1 := by rw [List.length_append, HLK.out]; rfl
          clear hown3 h3a hm3 h3 m3 g3 HK HLK e4 hg4 hxe hb3 hb3a hbr x0 x1 x2 x3 y0 y1 y2 y3 hge
          go_wp2
          go_roundw
          case rel => exact ⟨k + 1, l ++ [x], r3, left3, by omega, by omega, by go_num, hown4, hl4, h4, hm4, HK4, hb4, hl3, by omega, hsum4⟩
          case measure => simp [intOf]; omega
        · have hq : (rk.e != 0) = true := by simpa using he
          have HGL := Lib.hid (show Got pLocAll r rk (allS []) from Got.and HG.out (HK.out.short (n := n.toNat) (by omega) he []))
          go_wp2
          go_ret
          exact ⟨[], rk, _, rfl, HGL.out, hr, hm, World.ownsRow_nil _ _ _ _, by simp [allS], by simp⟩
      · have hkk : n.toNat = k := by omega
        have HGL := Lib.hid (show Got pLocAll r rk (allS l) from Got.and HG.out (show Got (pLocals n.toNat 4096) rq rk (allS l) by rw [hkk]; exact HK.out.done))
        have hnk : n = (k : Int) := by omega
        clear hlt
        go_wp2
        go_ret
        exact ⟨l, rk, _, rfl, HGL.out, hr, hm, hlk.symm ▸ hown, by omega, by omega⟩
theorem join_none (c : Nat) (w : World) : Calls Tryz.prog 322 #[.slice none 0 0, .string ⟨#[]⟩] w fun e w' => e = .returned (.string ⟨#[]⟩) ∧ Below w.heap.size w w' := by
  go_enter Tryz.func322, Tryz.ntmps322
  go_wp2
  go_ret
  exact ⟨rfl, Below.refl _ _⟩
theorem join_flat (l : List ByteArray) : Lib.join (l.map (·.data.toList)) (⟨#[]⟩ : ByteArray).data.toList = allS l := by
  unfold Lib.join allS
  show List.intercalate [] _ = _
  generalize l.map (fun x : ByteArray => x.data.toList) = m
  unfold List.intercalate
  induction m with
  | nil => rfl
  | cons a m ih =>
    cases m with
    | nil => simp
    | cons b m => rw [List.intersperse_cons_cons, List.flatten_cons, List.flatten_cons, ih]; rfl
theorem rowStr_map (l : List ByteArray) : l.flatMap rowStr = l.map .string := by
  induction l with
  | nil => rfl
  | cons a l ih => rw [List.flatMap_cons, ih]; rfl
theorem join_own {w : World} {base : Nat} {v : Value} {l : List ByteArray} (h : w.ownsRow base 9 1 v l.length (l.flatMap rowStr)) (hl : l.length ≤ 4096) (hs : (allS l).length ≤ 16384) :
    Calls Tryz.prog 322 #[v, .string ⟨#[]⟩] w fun e w' => e = .returned (.string (bs (allS l))) ∧ Below w.heap.size w w' := by
  have hmap := rowStr_map l
  rcases h.2 with ⟨rfl, h0⟩ | ⟨g, cap, cur, rfl, hb, hg, hnc, _, _⟩
  · have hn : l = [] := List.length_eq_zero_iff.1 h0
    subst hn
    exact join_none 0 w
  · have hc := World.ownsRow.cells h (g := g) rfl
    have := lib_join g 0 cap l ⟨#[]⟩ w (fun j x hx => by
      have hx' : (l.flatMap rowStr)[j]? = some (.string x) := by rw [hmap, List.getElem?_map, hx]; rfl
      have := hc j _ hx'
      rw [Go.WideShapes.add_plain] at this
      exact this) (in_heap6 hg) (by omega) hnc (by rw [join_flat]; omega)
    rw [join_flat] at this
    exact this
theorem locals_reads (w0 : World) : Reads6 w0 286 pLocAll valStr (fun _ _ l => l.length ≤ 16384) := by
  intro B M T rest r w h
  have hlt := h.lt
  have c1 := list_locals (h.alloc (.cells #[.int .i64 4096] 3)) (heap_alloc_new w _) (by omega) (by omega) h.below.size
  go_enter Tryz.func286, Tryz.ntmps286
  go_wp2_with (first
    | (go_at_call 323; (with_reducible refine c1.mono ?_); rintro e w1 ⟨l, r1, v, rfl, g1, h1, m1, hown, hs, hl⟩; have c2 := join_own hown hl hs; clear c1)
    | (go_at_call 322; refine c2.mono ?_; rintro e w2 ⟨rfl, hb2⟩))
  go_ret
  have mm : Mov B M w w1 := ((((Mov.refl B M w).alloc (.cells #[.int .i64 4096] 3)).on w.heap.size).trans m1).new (Nat.le_refl _)
  exact ⟨allS l, r1, rfl, g1, h1.at' hb2, mm.then hb2, hs⟩
def openB (q : List Int) : List Value := q.reverse.map (.int .u8)
def nestQ (q : List Int) (c : Int) : List Int :=
  if c = 2 ∨ c = 3 ∨ c = 4 then c :: q
  else if c = 5 then 5 :: q.tail
  else if c = 11 then q.tail
  else q
def nestR (r : RV) (q : List Int) (c : Int) : RV := if c = 5 ∧ q.head? ≠ some 4 then r.bad 2 else r
theorem own_top6 {w : World} {base : Nat} {e : TypeId} {v : Value} {t : Int} {st : List Int} (h : w.ownsRow base e 1 v (st.length + 1) (openB (t :: st))) :
    ∃ g cap, v = .slice (some ⟨g, 0, none⟩) (st.length + 1) cap ∧ base ≤ g ∧ w.cell? ⟨g, st.length, none⟩ = some (.int .u8 t) ∧ w.frozen? ⟨g, st.length, none⟩ = false ∧ st.length + 1 ≤ cap ∧ g < w.heap.size := by
  have h2 := h
  rcases h.2 with ⟨_, h0⟩ | ⟨g, cap, cur, rfl, hb, hg, hnc, hcm, hcs, ht⟩
  · simp at h0
  · refine ⟨g, cap, rfl, hb, ?_, h2.frozenAt _, by simpa using hnc, in_heap6 hg⟩
    rw [h2.cellAt st.length (by simp)]
    simp [openB]
theorem own_cut6 {w : World} {base g cap : Nat} {e : TypeId} {n : Nat} {xs : List Value} {x : Value} (h : w.ownsRow base e 1 (.slice (some ⟨g, 0, none⟩) (n + 1) cap) (n + 1) (xs ++ [x])) : w.ownsRow base e 1 (.slice (some ⟨g, 0, none⟩) n cap) n xs := by
  have hl : xs.length = n := by have := h.1; simp at this; omega
  rcases h.2 with ⟨h0, _⟩ | ⟨g', cap', cur, he, hb, hg, hnc, hcm, hcs, ht⟩
  · cases h0
  · cases he
    refine ⟨by omega, .inr ⟨g, cap, cur, rfl, hb, hg, by omega, hcm, hcs, ?_⟩⟩
    have := congrArg (List.take n) ht
    rw [List.take_take, show min n ((n + 1) * 1) = n by omega, List.take_left' hl] at this
    rw [Nat.mul_one]; exact this
structure NestSt (w0 : World) (B M : Nat) (T : TypeId) (rest : List Value) (base : Nat) (v : Value) (r : RV) (q : List Int) (w w' : World) (v' : Value) : Prop where
  rd : RdAt w0 B M T rest r w'
  own : w'.ownsRow base 5 1 v' q.length (openB q)
  os : w'.os = w.os
  tape : w'.tape = w.tape
  output : w'.output = w.output
  size : w.heap.size ≤ w'.heap.size
  block : ∀ k, k < w.heap.size → k ≠ B → k ≠ M → v.ownBlock ≠ some k → w'.heap[k]? = w.heap[k]?
  at' : ∀ g, v'.ownBlock = some g → v.ownBlock = some g ∨ w.heap.size ≤ g
def DidNest (w0 : World) (B M : Nat) (T : TypeId) (rest : List Value) (base : Nat) (v : Value) (r : RV) (q : List Int) (c : Int) (w : World) (e : Ending) (w' : World) : Prop :=
  ∃ v', e = .returned v' ∧ NestSt w0 B M T rest base v (nestR r q c) (nestQ q c) w w' v'
theorem info_u8 : (Tryz.prog.info? 5).map (fun i => (i.zero, i.size, i.bytes)) = some (some (.int .u8 0), 1, 1) := by kernel_rfl
theorem nest_other {w0 : World} {B M : Nat} {T : TypeId} {rest : List Value} {r : RV} {w : World} (h : RdAt w0 B M T rest r w) (base : Nat) (q : List Int) (t : Int) (v : Value) (hown : w.ownsRow base 5 1 v (q.length + 1) (openB (t :: q))) (c : Int) (hq : q.length ≤ 1000000000000) (hne : c ≠ 2 ∧ c ≠ 3 ∧ c ≠ 4 ∧ c ≠ 5 ∧ c ≠ 11) :
    Calls Tryz.prog 326 #[.pointer (some ⟨B, 0, none⟩), v, .int .i64 c] w (DidNest w0 B M T rest base v r (t :: q) c w) := by
  obtain ⟨g, cap, rfl, hb, _, _, hcap, hg⟩ := own_top6 hown
  have q2 : (c == 2) = false := beq_eq_false_iff_ne.2 hne.1
  have q3 : (c == 3) = false := beq_eq_false_iff_ne.2 hne.2.1
  have q4 : (c == 4) = false := beq_eq_false_iff_ne.2 hne.2.2.1
  have q5 : (c == 5) = false := beq_eq_false_iff_ne.2 hne.2.2.2.1
  have q11 : (c == 11) = false := beq_eq_false_iff_ne.2 hne.2.2.2.2
  have e1 : nestQ (t :: q) c = t :: q := by unfold nestQ; rw [if_neg (by omega), if_neg (by omega), if_neg (by omega)]
  have e2 : nestR r (t :: q) c = r := by unfold nestR; rw [if_neg (by omega)]
  unfold DidNest
  rw [e1, e2]
  go_enter Tryz.func326, Tryz.ntmps326
  go_wp2_with fail
  go_ret
  exact ⟨_, rfl, h, hown, rfl, rfl, rfl, Nat.le_refl _, fun _ _ _ _ _ => rfl, fun g hg => .inl hg⟩
theorem nest_end {w0 : World} {B M : Nat} {T : TypeId} {rest : List Value} {r : RV} {w : World} (h : RdAt w0 B M T rest r w) (base : Nat) (q : List Int) (t : Int) (v : Value) (hown : w.ownsRow base 5 1 v (q.length + 1) (openB (t :: q))) (hq : q.length ≤ 1000000000000) :
    Calls Tryz.prog 326 #[.pointer (some ⟨B, 0, none⟩), v, .int .i64 11] w (DidNest w0 B M T rest base v r (t :: q) 11 w) := by
  obtain ⟨g, cap, rfl, hb, _, _, hcap, hg⟩ := own_top6 hown
  have eo : openB (t :: q) = openB q ++ [.int .u8 t] := by simp [openB]
  have hown' : w.ownsRow base 5 1 (.slice (some ⟨g, 0, none⟩) q.length cap) q.length (openB q) := own_cut6 (x := .int .u8 t) (by rw [← eo]; exact hown)
  unfold DidNest
  rw [show nestQ (t :: q) 11 = q from rfl, show nestR r (t :: q) 11 = r from rfl]
  go_enter Tryz.func326, Tryz.ntmps326
  go_wp2_with fail
  go_ret
  exact ⟨_, rfl, h, hown', rfl, rfl, rfl, Nat.le_refl _, fun _ _ _ _ _ => rfl, fun g hg => .inl hg⟩
theorem openB_app (q : List Int) (c : Int) : openB q ++ [.int .u8 c] = openB (c :: q) := by simp [openB]
theorem nest_open {w0 : World} {B M : Nat} {T : TypeId} {rest : List Value} {r : RV} {w : World} (h : RdAt w0 B M T rest r w) (base : Nat) (q : List Int) (v : Value) (hown : w.ownsRow base 5 1 v q.length (openB q)) (c : Int) (hc : c = 2 ∨ c = 3 ∨ c = 4) (hq : q.length ≤ 1000000000000) (hB : B < base) (hM : M < base) (hbase : base ≤ w.heap.size) :
    Calls Tryz.prog 326 #[.pointer (some ⟨B, 0, none⟩), v, .int .i64 c] w (DidNest w0 B M T rest base v r q c w) := by
  obtain ⟨i0, hi, hz⟩ := Option.map_eq_some_iff.1 info_u8
  have hz0 : i0.zero = some (.int .u8 0) := congrArg (fun p => p.1) hz
  have hz1 : i0.size = 1 := congrArg (fun p => p.2.1) hz
  have hz2 : i0.bytes = 1 := congrArg (fun p => p.2.2) hz
  clear hz
  have e2 : nestR r q c = r := by unfold nestR; rw [if_neg (by omega)]
  have e1 : nestQ q c = c :: q := by unfold nestQ; rw [if_pos hc]
  unfold DidNest
  rw [e1, e2]
  obtain ⟨vp, vc, rfl⟩ := own_any6 hown
  have hge : ∀ k, (Value.slice vp q.length vc).ownBlock = some k → base ≤ k := fun k hk => (own_lt6 hown k hk).1
  have hown3 := hown.alloc (.cells (#[.int .u8 c] : Array Value) 5)
  have h3 := h.alloc (.cells (#[.int .u8 c] : Array Value) 5)
  have hm3 : Mov B M w (w.alloc (.cells (#[.int .u8 c] : Array Value) 5)) := (Mov.refl B M w).alloc _
  clear e1 e2 hown
  go_enter Tryz.func326, Tryz.ntmps326
  rcases hc with rfl | rfl | rfl
  all_goals (
    go_wp2_with (at_builtin; refine wpList_append_own_at _ rfl (.tmp 16) (.tmp 19) 24 rfl base 5 i0 (.int .u8 0) 1 1 Tryz.underlying24 hi hz0 hz1 hz2 rfl (by decide) (.slice vp q.length vc) q.length (openB q) rfl hown3 ⟨w.heap.size, 0, none⟩ 1 1 [_] rfl rfl (cells_new6 w [_] 5) (by intro u hu; simp at hu; rcases hu with rfl; rfl) (by unfold maxLen; omega) (by omega) (by simp; omega) ?_)
    intro v' w4 hown4 hg4 _ hat
    rw [openB_app] at hown4
    have h4 := h3.grown hg4 (fun k hk => Nat.lt_of_lt_of_le hB (hge k hk)) (fun k hk => Nat.lt_of_lt_of_le hM (hge k hk))
    have hs4 : w.heap.size ≤ w4.heap.size := by have := hg4.size; simp at this; omega
    have hbl : ∀ k, k < w.heap.size → (Value.slice vp q.length vc).ownBlock ≠ some k → w4.heap[k]? = w.heap[k]? := fun k hk hne => (hg4.block k (by simp; omega) (fun e => hne e.symm)).trans (Below.heap_alloc w _ _ hk)
    have hat' : ∀ g, v'.ownBlock = some g → (Value.slice vp q.length vc).ownBlock = some g ∨ w.heap.size ≤ g := fun g hg => by
      rcases hat with e | e
      · exact .inl (by rw [← e]; exact hg)
      · right; rw [e] at hg; have := Option.some.inj hg; rw [← this]; simp
    have ho := hg4.os
    have htp := hg4.tape
    have hou := hg4.output
    clear hg4 hat h3 hm3 hown3 hge
    go_wp2
    go_ret
    exact ⟨_, rfl, h4, hown4, ho, htp, hou, hs4, fun k hk _ _ hne => hbl k hk hne, hat'⟩)
theorem nest_else {w0 : World} {B M : Nat} {T : TypeId} {rest : List Value} {r : RV} {w : World} (h : RdAt w0 B M T rest r w) (base : Nat) (q : List Int) (t : Int) (v : Value) (hown : w.ownsRow base 5 1 v (q.length + 1) (openB (t :: q))) (hq : q.length ≤ 1000000000000) (hB : B < base) (hM : M < base) (hbw : w0.heap.size ≤ base) :
    Calls Tryz.prog 326 #[.pointer (some ⟨B, 0, none⟩), v, .int .i64 5] w (DidNest w0 B M T rest base v r (t :: q) 5 w) := by
  obtain ⟨g, cap, rfl, hb, hct, hft, hcap, hg⟩ := own_top6 hown
  have e1 : nestQ (t :: q) 5 = 5 :: q := rfl
  have es : ∀ x : Int, (openB (t :: q)).set q.length (.int .u8 x) = openB (x :: q) := by
    intro x
    have : openB (t :: q) = openB q ++ [.int .u8 t] := by simp [openB]
    rw [this, List.set_append_right _ _ (by simp [openB])]
    simp [openB]
  have hfin : ∀ (w1 : World), Mov B M w w1 → w1.ownsRow base 5 1 (.slice (some ⟨g, 0, none⟩) (q.length + 1) cap) (q.length + 1) (openB (t :: q)) → ∀ r1, RdAt w0 B M T rest r1 w1 → NestSt w0 B M T rest base (.slice (some ⟨g, 0, none⟩) (q.length + 1) cap) r1 (5 :: q) w (w1.setCell ⟨g, q.length, none⟩ (.int .u8 5)) (.slice (some ⟨g, 0, none⟩) (q.length + 1) cap) := by
    intro w1 hm hown1 r1 h1
    obtain ⟨o1, o2⟩ := hown1.stored q.length (.int .u8 5)
    rw [es] at o1
    exact ⟨h1.other _ _ (by omega) (by omega) (by omega), o1, hm.os, hm.tape, hm.output, by simp [World.setCell]; exact hm.size, fun k hk h2 h3 hne => (Below.heap_setCell _ _ _ _ (fun e => hne (by rw [e]; rfl))).trans (hm.block k hk h2 h3), fun _ hk => .inl hk⟩
  unfold DidNest
  rw [e1]
  by_cases ht : t = 4
  · have e2 : nestR r (t :: q) 5 = r := by unfold nestR; rw [if_neg (by simp [ht])]
    rw [e2]
    subst ht
    go_enter Tryz.func326, Tryz.ntmps326
    go_wp2_with fail
    go_ret
    exact ⟨_, rfl, hfin w (Mov.refl B M w) hown r h⟩
  · have e2 : nestR r (t :: q) 5 = r.bad 2 := by unfold nestR; rw [if_pos ⟨rfl, by simpa using ht⟩]
    rw [e2]
    have qt : (t != 4) = true := by simpa using ht
    have c1 := fail_of h 2
    go_enter Tryz.func326, Tryz.ntmps326
    go_wp2_with fail
    refine c1.mono ?_
    rintro e w1 ⟨rfl, h1, m1⟩
    have hown1 := own_mov hown m1 hB hM
    obtain ⟨g', cap', hv, _, hct1, hft1, _, hg1⟩ := own_top6 hown1
    cases hv
    clear c1 hct hft
    go_wp2_with fail
    go_ret
    exact ⟨_, rfl, hfin w1 m1 hown1 _ h1⟩
theorem nest_reads {w0 : World} {B M : Nat} {T : TypeId} {rest : List Value} {r : RV} {w : World} (h : RdAt w0 B M T rest r w) (base : Nat) (q : List Int) (hne : q ≠ []) (v : Value) (hown : w.ownsRow base 5 1 v q.length (openB q)) (c : Int) (hq : q.length ≤ 1000000000000) (hB : B < base) (hM : M < base) (hbase : base ≤ w.heap.size) (hbw : w0.heap.size ≤ base) :
    Calls Tryz.prog 326 #[.pointer (some ⟨B, 0, none⟩), v, .int .i64 c] w (DidNest w0 B M T rest base v r q c w) := by
  by_cases hc : c = 2 ∨ c = 3 ∨ c = 4
  · exact nest_open h base q v hown c hc hq hB hM hbase
  cases q with
  | nil => exact absurd rfl hne
  | cons t q =>
    have hq' : q.length ≤ 1000000000000 := by simp at hq; omega
    by_cases h5 : c = 5
    · rw [h5]; exact nest_else h base q t v hown hq' hB hM hbw
    by_cases h11 : c = 11
    · rw [h11]; exact nest_end h base q t v hown hq'
    · exact nest_other h base q t v hown c hq' ⟨by omega, by omega, by omega, h5, h11⟩
end Go.Proofs.YthfipknfdnfalaaGreatDoor
namespace Go.Proofs.YthfipknfdnfalaaGreatDoor
set_option maxRecDepth 100000
set_option maxHeartbeats 16000000
set_option linter.unusedVariables false
def Shr {α : Type} (p : Pr α) : Prop := ∀ l x m, p l = .ok x m → m.length ≤ l.length
theorem shr_val {α : Type} (x : α) : Shr (Pr.val x) := fun l y m h => by cases h; exact Nat.le_refl _
theorem shr_no {α : Type} (k : Int) : Shr (Pr.no k : Pr α) := fun l y m h => by cases h
theorem Shr.and {α β : Type} {p : Pr α} {f : α → Pr β} (hp : Shr p) (hf : ∀ x, Shr (f x)) : Shr (p.and f) := fun l y m h => by
  obtain ⟨x, n, h1, h2⟩ := and_of h
  exact Nat.le_trans (hf x n y m h2) (hp l x n h1)
theorem shr_ite {α : Type} {c : Prop} [Decidable c] {p q : Pr α} (hp : Shr p) (hq : Shr q) : Shr (if c then p else q) := by
  split
  · exact hp
  · exact hq
theorem one_eats : ∀ l x m, pOne l = .ok x m → m.length < l.length := fun l x m h => by
  cases l with
  | nil => cases h
  | cons b t => cases h; exact Nat.lt_succ_self _
theorem shr_one : Shr pOne := fun l x m h => Nat.le_of_lt (one_eats l x m h)
theorem shr_fit (K : IntKind) (p : Int → Int) (most : Nat) : Shr (pFit K p most) := fun l x m h => by
  unfold pFit at h
  split at h
  · cases h
  · cases h; simp
theorem shr_rep {α : Type} {p : Pr α} (hp : Shr p) : ∀ n, Shr (pRep p n)
  | 0 => shr_val _
  | n + 1 => hp.and fun x => (shr_rep hp n).and fun l => shr_val _
theorem shr_num : Shr pNum := shr_fit _ _ _
theorem shr_list {α : Type} {p : Pr α} (hp : Shr p) : Shr (pList p) := (shr_num.and fun n => shr_ite (shr_no _) (shr_val _)).and fun n => shr_rep hp _
theorem shr_kind (b : Int) : Shr (pKind b) := shr_ite (shr_val _) (shr_ite (shr_no _) (shr_no _))
theorem shr_signed (b : Int) : Shr (pSigned b) := by unfold pSigned; exact shr_ite (shr_fit _ _ _) (shr_fit _ _ _)
theorem shr_tail (s op : Int) : Shr (pTail s op) := by
  unfold pTail
  exact shr_ite (shr_one.and fun k => shr_ite (shr_val _) ((shr_kind k).and fun _ => shr_val _)) (shr_ite (shr_num.and fun _ => shr_val _) (shr_ite ((shr_list shr_num).and fun _ => shr_num.and fun _ => shr_val _)
    (shr_ite (shr_num.and fun _ => shr_num.and fun _ => shr_val _) (shr_ite ((shr_one.and fun c => shr_ite (shr_val _) (shr_no _)).and fun _ => shr_val _) (shr_ite ((shr_signed op).and fun _ => shr_val _) (shr_val _))))))
theorem ins_eats {l m : List UInt8} {x : InsV} (h : pIns l = .ok x m) : m.length < l.length := by
  obtain ⟨b, n, h1, h2⟩ := and_of h
  have := one_eats _ _ _ h1
  have hs : Shr (if isFloat b = true ∨ b = 17 then (Pr.no 3 : Pr InsV) else match byCode b with
    | none => .no 2
    | some r => pTail r.shape b) := by
    refine shr_ite (shr_no _) ?_
    cases byCode b with
    | none => exact shr_no _
    | some r => exact shr_tail _ _
  have := hs n x m h2
  omega
theorem ins_nil : pIns [] = .bad 2 := rfl
def bodyOn (f : List Int → Pr (List InsV)) (o : List Int) (x : InsV) : Pr (List InsV) :=
  if x.op = 11 then match o with
    | [] => .val [x]
    | _ :: o' => (f o').and fun l => .val (x :: l)
  else match nest o x.op with
    | none => .no 2
    | some o' => (f o').and fun l => .val (x :: l)
theorem pBody_succ (f : Nat) (o : List Int) : pBody (f + 1) o = pIns.and (bodyOn (pBody f) o) := rfl
theorem and_same {α β : Type} {p q : Pr α} {f : α → Pr β} {l : List UInt8} (h : p l = q l) : (p.and f) l = (q.and f) l := by unfold Pr.and; rw [h]
theorem bodyOn_same {f g : List Int → Pr (List InsV)} {m : List UInt8} (h : ∀ o, f o m = g o m) (o : List Int) (x : InsV) : bodyOn f o x m = bodyOn g o x m := by
  unfold bodyOn
  by_cases hx : x.op = 11
  · rw [if_pos hx, if_pos hx]
    cases o with
    | nil => rfl
    | cons a o' => exact and_same (h o')
  · rw [if_neg hx, if_neg hx]
    cases nest o x.op with
    | none => rfl
    | some o' => exact and_same (h o')
theorem pBody_fuel : ∀ (f g : Nat) (o : List Int) (l : List UInt8), l.length ≤ f → l.length ≤ g → pBody f o l = pBody g o l := by
  have z : ∀ (g : Nat) (o : List Int), pBody g o [] = .bad 2 := fun g o => by
    cases g with
    | zero => rfl
    | succ g => exact and_bad ins_nil
  intro f
  induction f with
  | zero =>
    intro g o l h1 h2
    have : l = [] := List.length_eq_zero_iff.1 (by omega)
    subst this
    rw [z, z]
  | succ f ih =>
    intro g o l h1 h2
    cases g with
    | zero =>
      have : l = [] := List.length_eq_zero_iff.1 (by omega)
      subst this
      rw [z, z]
    | succ g =>
      rw [pBody_succ, pBody_succ]
      cases hi : pIns l with
      | bad e => rw [and_bad hi, and_bad hi]
      | ok x m =>
        have := ins_eats hi
        rw [and_ok hi, and_ok hi]
        exact bodyOn_same (fun o' => ih g o' m (by omega) (by omega)) o x
def body (o : List Int) : Pr (List InsV) := fun l => pBody l.length o l
theorem body_step (o : List Int) : body o = pIns.and (bodyOn body o) := by
  funext l
  unfold body
  cases l with
  | nil => exact (and_bad ins_nil).symm
  | cons b t =>
    show pBody (t.length + 1) o (b :: t) = _
    rw [pBody_succ]
    cases hi : pIns (b :: t) with
    | bad e => rw [and_bad hi, and_bad hi]
    | ok x m =>
      have := ins_eats hi
      rw [and_ok hi, and_ok hi]
      exact bodyOn_same (f := pBody t.length) (g := body) (fun o' => pBody_fuel t.length m.length o' m (by simp at this; omega) (Nat.le_refl _)) o x
theorem Got.stay {α : Type} {p : Pr α} {r r1 r2 : RV} {x : α} (y : α) (h : Got p r r1 x) (he : r1.e ≠ 0) (hs : r2.s = r1.s) (h2 : r2.e = r1.e) : Got p r r2 y := by
  obtain ⟨a, b⟩ := h
  refine ⟨hs.trans a, ?_⟩
  rcases b with ⟨b1, b2⟩ | ⟨b1, b2, b3⟩ | ⟨b1, b2, b3⟩
  · exact .inl ⟨b1, h2.trans b2⟩
  · exact absurd b2 he
  · exact .inr (.inr ⟨b1, by rw [h2]; exact b2, by rw [h2]; exact b3⟩)
def Going (r rk : RV) (l : List InsV) (q : List Int) : Prop :=
  (rk.e = 0 → (q = [] ∧ Got (body []) r rk l) ∨ (∃ o, q = o ++ [2] ∧ ∀ r2 y, Got (body o) rk r2 y → Got (body []) r r2 (l ++ y))) ∧ (rk.e ≠ 0 → ∀ y, Got (body []) r rk y)
theorem Going.start (r : RV) : Going r r [] [2] := ⟨fun _ => .inr ⟨[], rfl, fun r2 y h => h⟩, fun he y => ⟨rfl, .inl ⟨he, rfl⟩⟩⟩
theorem Going.done {r rk : RV} {l : List InsV} {q : List Int} (h : Going r rk l q) (hq : q = [] ∨ rk.e ≠ 0) : Got (body []) r rk l := by
  by_cases he : rk.e = 0
  · rcases h.1 he with ⟨_, h1⟩ | ⟨o, ho, _⟩
    · exact h1
    · rcases hq with hq | hq
      · rw [hq] at ho; simp at ho
      · exact absurd he hq
  · exact h.2 he l
theorem Going.step {r rk r1 : RV} {l : List InsV} {q : List Int} {x : InsV} (h : Going r rk l q) (he : rk.e = 0) (hq : q ≠ []) (g : Got pIns rk r1 x) : Going r (nestR r1 q x.op) (l ++ [x]) (nestQ q x.op) := by
  rcases h.1 he with ⟨h1, _⟩ | ⟨o, ho, hk⟩
  · exact absurd h1 hq
  have hstep : ∀ r2 y, Got (bodyOn body o x) r1 r2 y → Got (body []) r r2 (l ++ y) := fun r2 y h2 => hk r2 y (by rw [body_step]; exact g.and h2)
  have hon : ∀ (o' : List Int), (∀ m, bodyOn body o x m = ((body o').and fun l => .val (x :: l)) m) → ∀ r2 y, Got (body o') r1 r2 y → Got (body []) r r2 ((l ++ [x]) ++ y) := by
    intro o' hm r2 y h2
    rw [List.append_assoc]
    refine hstep r2 (x :: y) ?_
    have := h2.map (fun l => x :: l)
    rw [show bodyOn body o x = ((body o').and fun l => .val (x :: l)) from funext hm]
    exact this
  have dead : ∀ (r2 : RV) (z : List InsV), Got (bodyOn body o x) r1 r2 z → r2.e ≠ 0 → ∀ y, Got (body []) r r2 y := fun r2 z h2 h3 y => (hstep r2 z h2).stay y h3 rfl rfl
  have err : r1.e ≠ 0 → ∀ y, Got (body []) r r1 y := fun h1 y => (hk r1 [] (by rw [body_step]; exact g.and ⟨rfl, .inl ⟨h1, rfl⟩⟩)).stay y h1 rfl rfl
  by_cases h11 : x.op = 11
  · have e1 : nestR r1 q x.op = r1 := by unfold nestR; rw [if_neg (by omega)]
    have e2 : nestQ q x.op = q.tail := by unfold nestQ; rw [if_neg (by omega), if_neg (by omega), if_pos h11]
    rw [e1, e2, ho]
    refine ⟨fun h0 => ?_, err⟩
    cases o with
    | nil => exact .inl ⟨rfl, hstep r1 [x] (by unfold bodyOn; rw [if_pos h11]; exact Got.val _ _)⟩
    | cons a o' => exact .inr ⟨o', rfl, hon o' (fun m => by unfold bodyOn; rw [if_pos h11])⟩
  by_cases hB : x.op = 2 ∨ x.op = 3 ∨ x.op = 4
  · have e1 : nestR r1 q x.op = r1 := by unfold nestR; rw [if_neg (by omega)]
    have e2 : nestQ q x.op = x.op :: q := by unfold nestQ; rw [if_pos hB]
    rw [e1, e2, ho]
    exact ⟨fun h0 => .inr ⟨x.op :: o, rfl, hon (x.op :: o) (fun m => by unfold bodyOn nest; rw [if_neg h11, if_pos hB])⟩, err⟩
  by_cases h5 : x.op = 5
  · have e2 : nestQ q x.op = 5 :: q.tail := by unfold nestQ; rw [if_neg hB, if_pos h5]
    rw [e2]
    by_cases h4 : q.head? = some 4
    · have e1 : nestR r1 q x.op = r1 := by unfold nestR; rw [if_neg (fun h => h.2 h4)]
      rw [e1, ho]
      refine ⟨fun h0 => ?_, err⟩
      cases o with
      | nil => rw [ho] at h4; simp at h4
      | cons a o' =>
        have ha : a = 4 := by rw [ho] at h4; simpa using h4
        exact .inr ⟨5 :: o', rfl, hon (5 :: o') (fun m => by unfold bodyOn nest; rw [if_neg h11, if_neg hB, if_pos h5]; simp [ha])⟩
    · have e1 : nestR r1 q x.op = r1.bad 2 := by unfold nestR; rw [if_pos ⟨h5, h4⟩]
      rw [e1]
      have hne : (r1.bad 2).e ≠ 0 := bad_e (by decide)
      refine ⟨fun h0 => absurd h0 hne, fun _ => dead (r1.bad 2) [] ?_ hne⟩
      have : bodyOn body o x = .no 2 := by
        unfold bodyOn nest
        rw [if_neg h11, if_neg hB, if_pos h5]
        cases o with
        | nil => rfl
        | cons a o' =>
          have ha : ¬ a = 4 := fun e => h4 (by rw [ho, e]; rfl)
          simp [ha]
      rw [this]
      exact Got.no (by decide) _ _
  · have e1 : nestR r1 q x.op = r1 := by unfold nestR; rw [if_neg (fun h => h5 h.1)]
    have e2 : nestQ q x.op = q := by unfold nestQ; rw [if_neg hB, if_neg h5, if_neg h11]
    rw [e1, e2]
    exact ⟨fun h0 => .inr ⟨o, ho, hon o (fun m => by unfold bodyOn nest; rw [if_neg h11, if_neg hB, if_neg h5])⟩, err⟩
theorem Got.eats {r r1 : RV} {x : InsV} (h : Got pIns r r1 x) (h0 : r.e = 0) (h1 : r1.e = 0) : r.pos < r1.pos := by
  rcases h.2 with ⟨a, _⟩ | ⟨_, _, a⟩ | ⟨_, a, _⟩
  · exact absurd h0 a
  · have := ins_eats a
    unfold RV.rem at this
    rw [h.1, List.length_drop, List.length_drop] at this
    omega
  · exact absurd h1 a
end Go.Proofs.YthfipknfdnfalaaGreatDoor
namespace Go.Proofs.YthfipknfdnfalaaGreatDoor
set_option maxRecDepth 100000
set_option maxHeartbeats 16000000
open Go.RowKit
set_option linter.unusedVariables false
def InsOwn (base : Nat) (w : World) (x : InsV) : Prop :=
  w.ownsRow base 3 1 (.slice x.lp x.ls.length x.lc) x.ls.length (x.ls.flatMap rowInt) ∧ x.ls.length ≤ 4096 ∧ (∀ n ∈ x.ls, 0 ≤ n ∧ n < 4294967296) ∧ inI64 x.op ∧ inI64 x.a ∧ inI64 x.b
def InsV.lab (x : InsV) : Value := .slice x.lp x.ls.length x.lc
theorem InsOwn.same {base : Nat} {w w' : World} {x : InsV} (h : InsOwn base w x) (hm : ∀ g, x.lab.ownBlock = some g → w'.heap[g]? = w.heap[g]?) : InsOwn base w' x := ⟨own_same h.1 hm, h.2⟩
theorem InsOwn.lt {base : Nat} {w : World} {x : InsV} (h : InsOwn base w x) : ∀ g, x.lab.ownBlock = some g → base ≤ g ∧ g < w.heap.size := fun g hg => own_lt6 h.1 g hg
theorem InsOwn.down {base b2 : Nat} {w : World} {x : InsV} (h : InsOwn base w x) (hb : b2 ≤ base) : InsOwn b2 w x := ⟨own_down h.1 hb, h.2⟩
structure BodyMem (w0 w : World) (B M : Nat) (T : TypeId) (rest : List Value) (rk : RV) (v o : Value) (xs l : List InsV) (q : List Int) (W : World) : Prop where
  rd : RdAt w0 B M T rest rk W
  mov : Mov B M w W
  hB : B < w.heap.size
  hM : M < w.heap.size
  hw : w0.heap.size ≤ w.heap.size
  own : W.ownsRow w.heap.size 46 4 v l.length (l.flatMap InsV.row)
  opn : W.ownsRow w.heap.size 5 1 o q.length (openB q)
  far : ∀ g, v.ownBlock = some g → o.ownBlock ≠ some g
  ins : ∀ x ∈ xs, InsOwn w.heap.size W x
  lab : ∀ x ∈ xs, ∀ g, x.lab.ownBlock = some g → v.ownBlock ≠ some g ∧ o.ownBlock ≠ some g
theorem BodyMem.call {w0 w : World} {B M : Nat} {T : TypeId} {rest : List Value} {rk r1 : RV} {v o : Value} {xs l : List InsV} {q : List Int} {W W1 : World} (h : BodyMem w0 w B M T rest rk v o xs l q W) (hm : Mov B M W W1) (hr : RdAt w0 B M T rest r1 W1) :
    BodyMem w0 w B M T rest r1 v o xs l q W1 :=
  ⟨hr, h.mov.trans hm, h.hB, h.hM, h.hw, own_mov h.own hm h.hB h.hM, own_mov h.opn hm h.hB h.hM, h.far, fun x hx => (h.ins x hx).same fun g hg => by have := (h.ins x hx).lt g hg; have := h.hB; have := h.hM; exact hm.block g (by omega) (by omega) (by omega), h.lab⟩
theorem BodyMem.instr {w0 w : World} {B M : Nat} {T : TypeId} {rest : List Value} {rk r1 : RV} {v o : Value} {xs l : List InsV} {q : List Int} {W W1 : World} {x : InsV} (h : BodyMem w0 w B M T rest rk v o xs l q W) (hm : Mov B M W W1) (hr : RdAt w0 B M T rest r1 W1) (hx : InsNew W W1 x) :
    BodyMem w0 w B M T rest r1 v o (xs ++ [x]) l q W1 := by
  have h1 := h.call hm hr
  have hs := h.mov.size
  have hx' : InsOwn W.heap.size W1 x := hx
  refine ⟨h1.rd, h1.mov, h1.hB, h1.hM, h1.hw, h1.own, h1.opn, h1.far, fun y hy => ?_, fun y hy g hg => ?_⟩
  · rcases List.mem_append.1 hy with hy | hy
    · exact h1.ins y hy
    · rw [List.mem_singleton.1 hy]; exact hx'.down hs
  · rcases List.mem_append.1 hy with hy | hy
    · exact h1.lab y hy g hg
    · rw [List.mem_singleton.1 hy] at hg
      have := hx'.lt g hg
      exact ⟨fun e => by have := own_lt6 h.own g e; omega, fun e => by have := own_lt6 h.opn g e; omega⟩
theorem BodyMem.more {w0 w : World} {B M : Nat} {T : TypeId} {rest : List Value} {rk : RV} {v v' o : Value} {xs l : List InsV} {q : List Int} {W W1 : World} {x : InsV} (h : BodyMem w0 w B M T rest rk v o xs l q W) (hown : W1.ownsRow w.heap.size 46 4 v' (l.length + 1) (l.flatMap InsV.row ++ x.row)) (hg : W.grownBy W1 v.ownBlock) (hv : v'.ownBlock = v.ownBlock ∨ v'.ownBlock = some W.heap.size) :
    BodyMem w0 w B M T rest rk v' o xs (l ++ [x]) q W1 := by
  have hge : ∀ k, v.ownBlock = some k → w.heap.size ≤ k := fun k hk => (own_lt6 h.own k hk).1
  have hB := h.hB
  have hM := h.hM
  refine ⟨h.rd.grown hg (fun k hk => by have := hge k hk; omega) (fun k hk => by have := hge k hk; omega), h.mov.grown hg hge, hB, hM, h.hw, by rw [List.length_append, List.flatMap_append]; simpa using hown, h.opn.kept hg ?_, fun g hg2 hg3 => ?_, fun y hy => (h.ins y hy).same fun g hg2 => ?_, fun y hy g hg2 => ?_⟩
  · cases ho : o.ownBlock with
    | none => exact .inl rfl
    | some g => exact .inr fun e => h.far g e.symm ho
  · rcases hv with e | e
    · exact h.far g (e ▸ hg2) hg3
    · rw [e] at hg2; have := own_lt6 h.opn g hg3; cases hg2; omega
  · exact hg.block g ((h.ins y hy).lt g hg2).2 (fun e => (h.lab y hy g hg2).1 e.symm)
  · refine ⟨fun e2 => ?_, (h.lab y hy g hg2).2⟩
    rcases hv with e | e
    · exact (h.lab y hy g hg2).1 (e ▸ e2)
    · rw [e] at e2; have := (h.ins y hy).lt g hg2; cases e2; omega
theorem BodyMem.nest {w0 w : World} {B M : Nat} {T : TypeId} {rest : List Value} {rk r1 : RV} {v o o' : Value} {xs l : List InsV} {q q' : List Int} {W W1 : World} {base : Nat} (h : BodyMem w0 w B M T rest rk v o xs l q W) (hb : base = w.heap.size) (hn : NestSt w0 B M T rest base o r1 q' W W1 o') :
    BodyMem w0 w B M T rest r1 v o' xs l q' W1 := by
  subst hb
  have hB := h.hB
  have hM := h.hM
  have hs := h.mov.size
  have hk : ∀ k, w.heap.size ≤ k → k < W.heap.size → o.ownBlock ≠ some k → W1.heap[k]? = W.heap[k]? := fun k h1 h2 h3 => hn.block k h2 (by omega) (by omega) h3
  refine ⟨hn.rd, ⟨hn.os.trans h.mov.os, hn.tape.trans h.mov.tape, hn.output.trans h.mov.output, Nat.le_trans hs hn.size, fun k h1 h2 h3 => (hn.block k (by omega) h2 h3 (fun e => by have := own_lt6 h.opn k e; omega)).trans (h.mov.block k h1 h2 h3)⟩, hB, hM, h.hw,
    own_same h.own fun g hg => hk g (own_lt6 h.own g hg).1 (own_lt6 h.own g hg).2 (h.far g hg), hn.own, fun g hg hg2 => ?_, fun y hy => (h.ins y hy).same fun g hg => hk g ((h.ins y hy).lt g hg).1 ((h.ins y hy).lt g hg).2 (h.lab y hy g hg).2, fun y hy g hg => ⟨(h.lab y hy g hg).1, fun e => ?_⟩⟩
  · rcases hn.at' g hg2 with e | e
    · exact h.far g hg e
    · have := own_lt6 h.own g hg; omega
  · rcases hn.at' g e with e | e
    · exact (h.lab y hy g hg).2 e
    · have := (h.ins y hy).lt g hg; omega
theorem BodyMem.start {w0 w : World} {B M : Nat} {T : TypeId} {rest : List Value} {r : RV} (h : RdAt w0 B M T rest r w) :
    BodyMem w0 w B M T rest r (.slice none 0 0) (.slice (some ⟨w.heap.size, 0, none⟩) 1 1) [] [] [2] (w.alloc (.cells #[.int .u8 2] 5)) :=
  { rd := h.alloc _
    mov := (Mov.refl B M w).alloc _
    hB := h.lt.1
    hM := h.lt.2
    hw := h.below.size
    own := World.ownsRow_nil _ _ _ _
    opn := ⟨rfl, .inr ⟨w.heap.size, 1, #[.int .u8 2], rfl, Nat.le_refl _, heap_alloc_new w _, Nat.le_refl _, by unfold maxLen; omega, rfl, rfl⟩⟩
    far := fun g hg => by cases hg
    ins := fun x hx => absurd hx List.not_mem_nil
    lab := fun x hx => absurd hx List.not_mem_nil }
def DidBody (w0 : World) (B M : Nat) (T : TypeId) (rest : List Value) (r : RV) (w : World) (e : Ending) (w' : World) : Prop :=
  ∃ (l : List InsV) (r' : RV) (v : Value), e = .returned v ∧ Got (body []) r r' (l.map InsV.bare) ∧ RdAt w0 B M T rest r' w' ∧ Mov B M w w' ∧ w'.ownsRow w.heap.size 46 4 v l.length (l.flatMap InsV.row) ∧ (∀ x ∈ l, InsOwn w.heap.size w' x) ∧ l.length ≤ 1048577
theorem info_instr : (Tryz.prog.info? 46).map (fun i => (i.zero, i.size, i.bytes)) = some (some (.agg #[.int .i64 0, .int .i64 0, .int .i64 0, .slice none 0 0]), 4, 48) := by kernel_rfl
theorem nestR_at (r : RV) (q : List Int) (c : Int) : (nestR r q c).s = r.s ∧ (nestR r q c).pos = r.pos ∧ ((nestR r q c).e = 0 → r.e = 0) := by
  unfold nestR
  split
  · exact ⟨rfl, rfl, fun h => absurd h (bad_e (by decide))⟩
  · exact ⟨rfl, rfl, id⟩
theorem nestQ_len (q : List Int) (c : Int) : (nestQ q c).length ≤ q.length + 1 := by
  unfold nestQ
  split
  · simp
  · split
    · simp
    · split
      · simp; omega
      · omega
theorem insrow_one (x : InsV) : ∀ u ∈ x.row, u.oneCell' = true := by intro u hu; simp [InsV.row] at hu; rcases hu with rfl | rfl | rfl | rfl <;> rfl
theorem body_reads {w0 : World} (hLaid : Laid w0) {B M : Nat} {T : TypeId} {rest : List Value} {r : RV} {w : World} (h : RdAt w0 B M T rest r w) (hsz : r.s.size ≤ 1048576) :
    Calls Tryz.prog 287 #[.pointer (some ⟨B, 0, none⟩)] w (DidBody w0 B M T rest r w) := by
  obtain ⟨i0, hi, hz0, hz1, hz2⟩ := info_parts info_instr
  have hS := BodyMem.start h
  have hG := Lib.hid (Going.start r)
  obtain ⟨n0, hn0⟩ : ∃ n0, n0 = r.s.size + 1 := ⟨_, rfl⟩
  clear h
  go_enter Tryz.func287, Tryz.ntmps287
  go_wp2
  go_loopg [3, 4] n0 (fun gg v o wr => ∃ (rk : RV) (l : List InsV) (q : List Int), BodyMem w0 w B M T rest rk v o l l q wr ∧ Hid (Going r rk (l.map InsV.bare) q) ∧ rk.s = r.s ∧ (rk.e = 0 → r.s.size + 1 ≤ gg + rk.pos ∧ l.length ≤ rk.pos) ∧ l.length ≤ 1048577 ∧ q.length ≤ l.length + 1)
  case atStart => exact ⟨r, [], [2], hS, hG, rfl, fun _ => ⟨by omega, Nat.zero_le _⟩, by simp, by simp⟩
  case round =>
    clear hS hG
    obtain ⟨rk, l, q, hS, hG, hrs, he, hl, hq⟩ := hrel
    obtain ⟨vp, vc, rfl⟩ := own_any6 hS.own
    obtain ⟨op, oc, rfl⟩ := own_any6 hS.opn
    obtain ⟨x0, x1, x2, x3, y0, y1, y2, y3⟩ := hS.rd.reads
    by_cases hq0 : q = []
    · subst hq0
      have hdone := hG.out.done (.inl rfl)
      have HD := Lib.hid hdone
      clear hdone he
      go_wp2
      go_ret
      exact ⟨l, rk, _, rfl, HD.out, hS.rd, hS.mov, hS.own, hS.ins, hl⟩
    have hql : (0 : Int) < (q.length : Int) := by have := List.length_pos_iff.2 hq0; omega
    by_cases he0 : rk.e = 0
    · obtain ⟨hm1, hm2⟩ := he he0
      have hpos := hS.rd.pos
      rw [hrs] at hpos
      have c1 := instr_reads hLaid hS.rd
      rw [he0] at x2
      have HE := Lib.hid he0
      have HQ := Lib.hid hq0
      clear he he0 hq0
      go_wp2_with fail
      refine c1.mono ?_
      rintro e w1 ⟨x, r1, rfl, g1, h1, m1, new1⟩
      have hS1 := hS.instr m1 h1 new1
      have HG1 := Lib.hid g1
      clear c1 hS x0 x1 x2 x3 y0 y1 y2 y3 g1 h1 m1 new1
      have hlv : ∀ g, (Value.slice vp l.length vc).ownBlock = some g → g < w1.heap.size := fun g hg => (own_lt6 hS1.own g hg).2
      have m2 : Mov B M w1 ((w1.alloc (.cells x.row.toArray 46)).alloc (.cells x.row.toArray 46)) := ((Mov.refl B M w1).alloc _).alloc _
      have hS3 := hS1.call m2 ((hS1.rd.alloc (.cells x.row.toArray 46)).alloc (.cells x.row.toArray 46))
      have hb3 : ((w1.alloc (.cells x.row.toArray 46)).alloc (.cells x.row.toArray 46)).heap[w1.heap.size]? = some (.cells x.row.toArray 46) := (Below.heap_alloc _ _ _ (by simp)).trans (heap_alloc_new w1 _)
      have hc3 : ∀ j u, x.row[j]? = some u → ((w1.alloc (.cells x.row.toArray 46)).alloc (.cells x.row.toArray 46)).cell? ((⟨w1.heap.size + 1, 0, none⟩ : Addr).add j) = some u := by
        have := cells_new6 (w1.alloc (.cells x.row.toArray 46)) x.row 46
        rwa [show (w1.alloc (.cells x.row.toArray 46)).heap.size = w1.heap.size + 1 by simp] at this
      have hsz3 : w.heap.size ≤ ((w1.alloc (.cells x.row.toArray 46)).alloc (.cells x.row.toArray 46)).heap.size := hS3.mov.size
      have hl3 : w1.heap.size < ((w1.alloc (.cells x.row.toArray 46)).alloc (.cells x.row.toArray 46)).heap.size := in_heap6 hb3
      have hz3 : ((w1.alloc (.cells x.row.toArray 46)).alloc (.cells x.row.toArray 46)).heap.size = w1.heap.size + 1 + 1 := by simp
      clear m2 hS1
      unfold InsV.val
      unfold InsV.row at hS3 hb3 hc3 hsz3 hl3 hz3
      dsimp only [List.toArray] at hS3 hb3 hc3 hsz3 hl3 hz3
      have HZ := Lib.hid hz3
      clear hz3
      go_wp2_with (at_builtin; refine wpList_append_own_at _ rfl (.tmp 19) (.tmp 21) 68 rfl w.heap.size 46 i0 (.agg #[.int .i64 0, .int .i64 0, .int .i64 0, .slice none 0 0]) 4 48 Tryz.underlying68 hi hz0 hz1 hz2 rfl (by decide) (.slice vp l.length vc) l.length (l.flatMap InsV.row) rfl hS3.own ⟨w1.heap.size + 1, 0, none⟩ 1 1 x.row rfl rfl hc3 (insrow_one x) (by unfold maxLen; omega) (by omega) hsz3 ?_)
      intro v' w4 hown4 hg4 _ hv4
      rw [← HZ.out] at hv4
      have hS4 := hS3.more hown4 hg4 hv4
      have hb4 := (hg4.block w1.heap.size hl3 (fun e => by have := hlv w1.heap.size e.symm; omega)).trans hb3
      obtain ⟨z0, z1, z2, z3, z4, _⟩ := (box_at hb4).2.2.2.2
      clear z1 z2 z3 z4 hS3 hc3 hb3 hown4 hg4 hv4 hlv hb4
      have c2 := nest_reads hS4.rd w.heap.size q HQ.out (.slice op q.length oc) hS4.opn x.op (by omega) hS4.hB hS4.hM hS4.mov.size hS4.hw
      go_wp2_with fail
      refine c2.mono ?_
      rintro e w5 ⟨o', rfl, hn⟩
      have hS5 := hS4.nest rfl hn
      clear hS4 c2 hn
      obtain ⟨t1, t2, t3⟩ := nestR_at r1 q x.op
      have t4 := nestQ_len q x.op
      have HT3 := Lib.hid t3
      have hrs1 : r1.s = r.s := HG1.out.1.trans hrs
      have hll : (l ++ [x]).length = l.length + 1 := by simp
      have HLL := Lib.hid hll
      have HRS := Lib.hid hrs1
      have HS5 := Lib.hid hS5
      have HT := Lib.hid (And.intro t1 t2)
      have hG5 : Going r (nestR r1 q x.op) ((l ++ [x]).map InsV.bare) (nestQ q x.op) := by
        rw [List.map_append]
        exact hG.out.step HE.out HQ.out HG1.out
      have HG5 := Lib.hid hG5
      clear t1 t2 t3 hrs1 hll hS5 hG5
      go_wp2_with fail
      go_roundg (gk - 1)
      case rel =>
        refine ⟨nestR r1 q x.op, l ++ [x], nestQ q x.op, HS5.out, HG5, HT.out.1.trans HRS.out, fun h0 => ?_, by rw [HLL.out]; omega, by rw [HLL.out]; omega⟩
        have h1 := HG1.out.eats HE.out (HT3.out h0)
        rw [HLL.out, HT.out.2]
        omega
      case measure => omega
    · have hz : (rk.e == 0) = false := beq_eq_false_iff_ne.2 he0
      have hdone := hG.out.done (.inr he0)
      have HD := Lib.hid hdone
      clear hdone he he0 hq0
      go_wp2
      go_ret
      exact ⟨l, rk, _, rfl, HD.out, hS.rd, hS.mov, hS.own, hS.ins, hl⟩
theorem Pr.and_and {α β γ : Type} (p : Pr α) (f : α → Pr β) (g : β → Pr γ) : (p.and f).and g = p.and fun x => (f x).and g := by
  funext l
  unfold Pr.and
  cases p l with
  | ok v r => rfl
  | bad e => rfl
theorem pCodeIn_eq : pCodeIn = pLocAll.and fun ls => (body []).and fun c => .val (ls, c) := by
  unfold pLocAll
  rw [Pr.and_and]
  rfl
structure FnOwn (base : Nat) (w : World) (f : FnV) : Prop where
  own : w.ownsRow base 46 4 (.slice f.cp f.code.length f.cc) f.code.length (f.code.flatMap InsV.row)
  ins : ∀ x ∈ f.code, InsOwn base w x
  len : f.code.length ≤ 1048577
  loc : f.locals.size ≤ 16384
  type : inI64 f.type
theorem FnOwn.keep {base : Nat} {w w' : World} {f : FnV} (h : FnOwn base w f) (hk : ∀ g, base ≤ g → g < w.heap.size → w'.heap[g]? = w.heap[g]?) : FnOwn base w' f :=
  ⟨own_same h.own fun g hg => hk g (own_lt6 h.own g hg).1 (own_lt6 h.own g hg).2, fun x hx => (h.ins x hx).same fun g hg => hk g ((h.ins x hx).lt g hg).1 ((h.ins x hx).lt g hg).2, h.len, h.loc, h.type⟩
theorem FnOwn.down {base b2 : Nat} {w : World} {f : FnV} (h : FnOwn base w f) (hb : b2 ≤ base) : FnOwn b2 w f := ⟨own_down h.own hb, fun x hx => (h.ins x hx).down hb, h.len, h.loc, h.type⟩
theorem FnOwn.mov {base B M : Nat} {w w' : World} {f : FnV} (h : FnOwn base w f) (hm : Mov B M w w') (hB : B < base) (hM : M < base) : FnOwn base w' f := h.keep fun g hg hl => hm.block g hl (by omega) (by omega)
def InCode (rest : List Value) (F : Nat) (rest' : List Value) (W W1 : World) (x : List UInt8 × List InsV) : Prop :=
  rest' = rest ∧ ∃ f : FnV, f.bare = fnOf x ∧ W1.heap[F]? = some (.cells f.row.toArray 70) ∧ FnOwn W.heap.size W1 f
theorem MovF.setF6 {B M F : Nat} {w w' : World} (h : MovF B M F w w') (j : Nat) (v : Value) : MovF B M F w (w'.setCell ⟨F, j, none⟩ v) :=
  h.trans ⟨rfl, rfl, rfl, by simp [World.setCell], fun k _ _ _ h1 => Below.heap_setCell _ _ _ _ h1⟩
theorem code_in6 {w0 : World} (hLaid : Laid w0) {B M F pr : Nat} {T : TypeId} {rest : List Value} {w : World} (hpr : w.heap[pr]? = some (.cells #[.pointer (some ⟨B, 0, none⟩)] 199)) (hF : w.heap[F]? = some (.cells #[.int .i64 0, .string ⟨#[]⟩, .slice none 0 0] 70))
    (p1 : pr ≠ B) (p2 : pr ≠ M) (f1 : F ≠ B) (f2 : F ≠ M) (hw : w0.heap.size ≤ F) (N : Nat) (hN : N ≤ 1048576) :
    Within w0 B M F T rest w N 285 #[.pointer (some ⟨pr, 0, none⟩), .pointer (some ⟨F, 0, none⟩)] pCodeIn (InCode rest F) := by
  rw [pCodeIn_eq]
  intro r2 W h hm hsz
  have hprW := (hm.block _ (in_heap6 hpr) p1 p2).trans hpr
  have hFW := (hm.block _ (in_heap6 hF) f1 f2).trans hF
  have hpF : pr ≠ F := fun e => by rw [e, hFW] at hprW; cases hprW
  have c1 := locals_reads w0 B M T rest r2 W h
  have x0 : W.cell? ⟨pr, 0, none⟩ = some (.pointer (some ⟨B, 0, none⟩)) := by simp [World.cell?, hprW]
  clear hpr hF hm
  go_enter Tryz.func285, Tryz.ntmps285
  go_wp2_with fail
  refine c1.mono ?_
  rintro e w1 ⟨ls, r3, rfl, g1, h1, m1, hls⟩
  have hpr1 := (m1.block _ (in_heap6 hprW) p1 p2).trans hprW
  have hF1 := (m1.block _ (in_heap6 hFW) f1 f2).trans hFW
  have y1 : w1.frozen? ⟨F, 1, none⟩ = false := by simp [World.frozen?, hF1]
  have z1 : w1.cell? ⟨F, 1, none⟩ = some (.string ⟨#[]⟩) := by simp [World.cell?, hF1]
  have hs2 : (w1.setCell ⟨F, 1, none⟩ (.string (bs ls))).heap[F]? = some (.cells #[.int .i64 0, .string (bs ls), .slice none 0 0] 70) := heap_setCell_same w1 F 1 _ _ _ hF1
  have hpr2 : (w1.setCell ⟨F, 1, none⟩ (.string (bs ls))).heap[pr]? = some (.cells #[.pointer (some ⟨B, 0, none⟩)] 199) := (Below.heap_setCell _ _ _ _ hpF).trans hpr1
  have h2 := h1.other 1 (.string (bs ls)) f1 f2 hw
  have m2 := (m1.on F).setF6 1 (.string (bs ls))
  have x2 : (w1.setCell ⟨F, 1, none⟩ (.string (bs ls))).cell? ⟨pr, 0, none⟩ = some (.pointer (some ⟨B, 0, none⟩)) := by simp [World.cell?, hpr2]
  have hsz1 : W.heap.size ≤ (w1.setCell ⟨F, 1, none⟩ (.string (bs ls))).heap.size := m2.size
  have hFlt : F < W.heap.size := in_heap6 hFW
  have c2 := body_reads hLaid h2 (by rw [g1.1]; omega)
  have HG := Lib.hid g1
  clear c1 h hprW hFW x0 hpr1 hF1 h1 m1 g1 hpr2
  dsimp only [valStr]
  go_wp2_with fail
  refine c2.mono ?_
  rintro e w2 ⟨l, r4, v, rfl, g2, h4, m4, hown, hins, hlen⟩
  have hF4 := (m4.block _ (in_heap6 hs2) f1 f2).trans hs2
  have y2 : w2.frozen? ⟨F, 2, none⟩ = false := by simp [World.frozen?, hF4]
  have z2 : w2.cell? ⟨F, 2, none⟩ = some (.slice none 0 0) := by simp [World.cell?, hF4]
  obtain ⟨vp, vc, rfl⟩ := own_any6 hown
  have hs5 : (w2.setCell ⟨F, 2, none⟩ (.slice vp l.length vc)).heap[F]? = some (.cells #[.int .i64 0, .string (bs ls), .slice vp l.length vc] 70) := heap_setCell_same w2 F 2 _ _ _ hF4
  have h5 := h4.other 2 (.slice vp l.length vc) f1 f2 hw
  have m5 := (m2.trans (m4.on F)).setF6 2 (.slice vp l.length vc)
  have hfn : FnOwn W.heap.size w2 ⟨0, bs ls, vp, vc, l⟩ := ⟨own_down hown hsz1, fun x hx => (hins x hx).down hsz1, hlen, by show (bs ls).size ≤ 16384; rw [bs_len6]; exact hls, ⟨by show (-9223372036854775808 : Int) ≤ 0; decide, by show (0 : Int) ≤ 9223372036854775807; decide⟩⟩
  have hfn5 : FnOwn W.heap.size (w2.setCell ⟨F, 2, none⟩ (.slice vp l.length vc)) ⟨0, bs ls, vp, vc, l⟩ := hfn.keep fun g hg hl => Below.heap_setCell _ _ _ _ (by show g ≠ F; omega)
  have hgot : Got (pLocAll.and fun ls => (body []).and fun c => .val (ls, c)) r2 r4 (ls, l.map InsV.bare) := HG.out.and (g2.map (fun c => (ls, c)))
  have HGT := Lib.hid hgot
  clear c2 h2 m2 x2 hs2 hown hins hfn g2 h4 m4 HG hgot
  go_wp2
  go_end0
  exact ⟨(ls, l.map InsV.bare), r4, rest, rfl, HGT.out, h5, m5, rfl, ⟨0, bs ls, vp, vc, l⟩, rfl, hs5, hfn5⟩
def DidFn (w0 : World) (B M : Nat) (T : TypeId) (rest : List Value) (r : RV) (w : World) (P : Pr FnV) (e : Ending) (w' : World) : Prop :=
  ∃ (f : FnV) (r' : RV), e = .returned f.val ∧ Got P r r' f.bare ∧ RdAt w0 B M T rest r' w' ∧ Mov B M w w' ∧ FnOwn w.heap.size w' f
theorem enters_code1 : ∀ args w, (callFunc 285 args).run Tryz.prog w = .ok (.enter 285 args) w := enters_of Tryz.func285 (by kernel_rfl) rfl
theorem code_reads {w0 : World} (hLaid : Laid w0) {B M : Nat} {T : TypeId} {rest : List Value} {r : RV} {w : World} (h : RdAt w0 B M T rest r w) (hsz : r.s.size ≤ 1048576) :
    Calls Tryz.prog 216 #[.pointer (some ⟨B, 0, none⟩)] w (DidFn w0 B M T rest r w pCode) := by
  have hlt := h.lt
  have hBl := hlt.1
  have hMl := hlt.2
  have hw0 := h.below.size
  obtain ⟨wa, hwa⟩ : ∃ wa, wa = w.alloc (.cells #[.pointer (some ⟨B, 0, none⟩)] 199) := ⟨_, rfl⟩
  obtain ⟨wb, hwb⟩ : ∃ wb, wb = wa.alloc (.cells #[.int .i64 0, .string ⟨#[]⟩, .slice none 0 0] 70) := ⟨_, rfl⟩
  obtain ⟨wc, hwc⟩ : ∃ wc, wc = wb.alloc (.cells #[.int .i64 0, .string ⟨#[]⟩, .slice none 0 0] 70) := ⟨_, rfl⟩
  have sa : wa.heap.size = w.heap.size + 1 := by rw [hwa]; simp
  have sb : wb.heap.size = w.heap.size + 2 := by rw [hwb]; simp [sa]
  have sc : wc.heap.size = w.heap.size + 3 := by rw [hwc]; simp [sb]
  have hpa : wa.heap[w.heap.size]? = some (.cells #[.pointer (some ⟨B, 0, none⟩)] 199) := by rw [hwa]; exact heap_alloc_new w _
  have hpb : wb.heap[w.heap.size]? = some (.cells #[.pointer (some ⟨B, 0, none⟩)] 199) := by rw [hwb]; exact (Below.heap_alloc _ _ _ (by omega)).trans hpa
  have hpc : wc.heap[w.heap.size]? = some (.cells #[.pointer (some ⟨B, 0, none⟩)] 199) := by rw [hwc]; exact (Below.heap_alloc _ _ _ (by omega)).trans hpb
  have hrb : wb.heap[w.heap.size + 1]? = some (.cells #[.int .i64 0, .string ⟨#[]⟩, .slice none 0 0] 70) := by rw [hwb, ← sa]; exact heap_alloc_new wa _
  have hrc : wc.heap[w.heap.size + 1]? = some (.cells #[.int .i64 0, .string ⟨#[]⟩, .slice none 0 0] 70) := by rw [hwc]; exact (Below.heap_alloc _ _ _ (by omega)).trans hrb
  have hfc : wc.heap[w.heap.size + 1 + 1]? = some (.cells #[.int .i64 0, .string ⟨#[]⟩, .slice none 0 0] 70) := by rw [hwc, show w.heap.size + 1 + 1 = wb.heap.size by omega]; exact heap_alloc_new wb _
  have hc : RdAt w0 B M T rest r wc := by rw [hwc, hwb, hwa]; exact ((h.alloc _).alloc _).alloc _
  have mc : Mov B M w wc := by rw [hwc, hwb, hwa]; exact (((Mov.refl B M w).alloc _).alloc _).alloc _
  have x0 : wc.cell? ⟨w.heap.size, 0, none⟩ = some (.pointer (some ⟨B, 0, none⟩)) := by simp [World.cell?, hpc]
  have c1 := whole_of hc 285 #[.pointer (some ⟨w.heap.size, 0, none⟩), .pointer (some ⟨w.heap.size + 1 + 1, 0, none⟩)] enters_code1 (code_in6 hLaid (rest := rest) hpc hfc (by omega) (by omega) (by omega) (by omega) (by omega) _ hsz)
  have HW := Lib.hid (And.intro hwa (And.intro hwb hwc))
  have HS := Lib.hid (And.intro sa (And.intro sb sc))
  clear h hlt hpa hpb hrb hc hwa hwb hwc sa sb
  go_enter Tryz.func216, Tryz.ntmps216
  go_wp2_with fail
  obtain ⟨e1, e2, e3⟩ := HW.out
  rw [← e1, ← e2, ← e3]
  clear e1 e2 e3 HW
  refine c1.mono ?_
  rintro e w1 ⟨x, r1, rest', W, W1, rfl, g1, h1, mW, mF, ⟨rfl, f, hfb, hF1, hown⟩, m1⟩
  have n1 : w.heap.size + 1 ≠ B := by omega
  have n2 : w.heap.size + 1 ≠ M := by omega
  have n3 : w.heap.size + 1 + 1 ≠ B := by omega
  have n4 : w.heap.size + 1 + 1 ≠ M := by omega
  have hrW := (mW.block _ (in_heap6 hrc) n1 n2).trans hrc
  have hr1 := (mF.block _ (in_heap6 hrW) n1 n2 (by omega)).trans hrW
  have hr2 := (m1.block _ (in_heap6 hr1) n1 n2).trans hr1
  have hF2 := (m1.block _ (in_heap6 hF1) n3 n4).trans hF1
  have hWs : w.heap.size + 3 ≤ W.heap.size := by have := mW.size; omega
  have hown2 : FnOwn W.heap.size w1 f := hown.mov m1 (by omega) (by omega)
  have hgot : Got pCode r r1 f.bare := by rw [hfb]; exact g1.map fnOf
  have HGT := Lib.hid hgot
  have mm : Mov B M w w1 := ((((mc.trans mW).on (w.heap.size + 1 + 1)).trans mF).new (by omega)).trans m1
  obtain ⟨ft, fl, fp, fc, fcode⟩ := f
  unfold FnV.row at hF2
  dsimp only [List.toArray] at hF2
  have c0 : w1.cell? ⟨w.heap.size + 1 + 1, 0, none⟩ = some (.int .i64 ft) := by simp [World.cell?, hF2]
  have c2 : w1.cell? ⟨w.heap.size + 1 + 1, 1, none⟩ = some (.string fl) := by simp [World.cell?, hF2]
  have c3 : w1.cell? ⟨w.heap.size + 1 + 1, 2, none⟩ = some (.slice fp fcode.length fc) := by simp [World.cell?, hF2]
  have d0 : w1.cell? ⟨w.heap.size + 1, 0, none⟩ = some (.int .i64 0) := by simp [World.cell?, hr2]
  have d1 : w1.cell? ⟨w.heap.size + 1, 1, none⟩ = some (.string ⟨#[]⟩) := by simp [World.cell?, hr2]
  have d2 : w1.cell? ⟨w.heap.size + 1, 2, none⟩ = some (.slice none 0 0) := by simp [World.cell?, hr2]
  have e0 : w1.frozen? ⟨w.heap.size + 1, 0, none⟩ = false := by simp [World.frozen?, hr2]
  have e1 : w1.frozen? ⟨w.heap.size + 1, 1, none⟩ = false := by simp [World.frozen?, hr2]
  have e2 : w1.frozen? ⟨w.heap.size + 1, 2, none⟩ = false := by simp [World.frozen?, hr2]
  have hlt1 : w.heap.size + 1 < w1.heap.size := in_heap6 hr2
  clear c1 hrc hrW hr1 hF1 hF2 hown hgot g1 hfc hpc hfb mW mF m1 mc x0 hr2
  go_wp2
  refine bodyPost_ret (v := FnV.val ⟨ft, fl, fp, fc, fcode⟩) ?_ rfl ?_
  · rw [results_one_cell rfl]; simp [FnV.val]; go_simp
  · refine ⟨⟨ft, fl, fp, fc, fcode⟩, r1, rfl, HGT.out, ((h1.other 0 _ n1 n2 (by omega)).other 1 _ n1 n2 (by omega)).other 2 _ n1 n2 (by omega), ((mm.setNew 0 _ (by omega)).setNew 1 _ (by omega)).setNew 2 _ (by omega), ?_⟩
    exact (hown2.keep fun g hg hl => by rw [Below.heap_setCell _ _ _ _ (by show g ≠ w.heap.size + 1; omega), Below.heap_setCell _ _ _ _ (by show g ≠ w.heap.size + 1; omega), Below.heap_setCell _ _ _ _ (by show g ≠ w.heap.size + 1; omega)]).down (by omega)
end Go.Proofs.YthfipknfdnfalaaGreatDoor
