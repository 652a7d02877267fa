/-
  Facts and contracts that the proof calls.
-/
import Derived.Test.YtomffpibdinkaaaGreatDoorVbOpRefRows
import Derived.BigQuiet
namespace Go.Proofs.YtomffpibdinkaaaGreatDoor
set_option maxRecDepth 100000
set_option maxHeartbeats 16000000
open Go.RowKit
variable {pr : List (Nat × Obj)}
def topHeight (s : PS) : Nat := match s.opens.getLast? with | none => 0 | some o => o.height
theorem own_block {w : World} {base : Nat} {e : TypeId} {size : Nat} {v : Value} {n : Nat} {xs : List Value} (h : w.ownsRow base e size v (n + 1) xs) :
    ∃ g cap, v = .slice (some ⟨g, 0, none⟩) (n + 1) cap ∧ base ≤ g ∧ g < w.heap.size ∧ n + 1 ≤ cap ∧ (∀ j u, xs[j]? = some u → w.cell? ⟨g, j, none⟩ = some u) ∧ ∀ j, w.frozen? ⟨g, j, none⟩ = false := by
  rcases h.2 with ⟨_, h0⟩ | ⟨g, cap, cur, rfl, hb, hg, hnc, hcm, hcs, ht⟩
  · simp at h0
  · refine ⟨g, cap, rfl, hb, (own_ge h g rfl).2, hnc, fun j u hj => ?_, fun j => h.frozenAt j⟩
    have hj' : j < xs.length := by
      by_cases hh : j < xs.length
      · exact hh
      · rw [List.getElem?_eq_none (by omega)] at hj; cases hj
    rw [h.cellAt j (by rw [← h.1]; exact hj')]; exact hj
theorem openCells_len (l : List PO) : (openCells l).length = l.length * 3 := by
  induction l with
  | nil => rfl
  | cons x l ih => simp only [openCells, List.flatMap_cons, List.length_append, List.length_cons] at *; rw [ih]; simp [PO.cells]; omega
theorem openCells_last (l : List PO) (o : PO) (j : Nat) (hj : j < 3) : (openCells (l ++ [o]))[l.length * 3 + j]? = o.cells[j]? := by
  rw [openCells_snoc, List.getElem?_append_right (by rw [openCells_len]; omega), openCells_len, Nat.add_sub_cancel_left]
theorem ProgAt.drewN {w0 w : World} {s : PS} {cv sv ov : Value} (h : ProgAt w0 pr s cv sv ov w) (q : Nat) : ProgAt w0 pr s cv sv ov (w.drewN q) :=
  { h with below := h.below.trans ⟨rfl, rfl, rfl, Nat.le_refl _, fun _ _ => rfl⟩, size := h.size, at3 := h.at3, code := h.code, stack := h.stack, opens := h.opens, keep := h.keep }
theorem Prog.drewN {w0 w : World} {s : PS} (h : Prog w0 pr s w) (q : Nat) : Prog w0 pr s (w.drewN q) := by
  obtain ⟨cv, sv, ov, h⟩ := h; exact ⟨cv, sv, ov, h.drewN q⟩
theorem has_of (w0 : World) (s : PS) (hst : s.stack.length ≤ 1000000) (hop : s.opens.length ≤ 1000000) (hh : topHeight s ≤ 1000000) (w : World) (h : Prog w0 pr s w) :
    Calls Tryz.prog 32 #[.pointer (some ⟨w0.heap.size, 0, none⟩)] w fun e w' => e = .returned (.int .i64 ((s.stack.length : Int) - topHeight s)) ∧ ∃ q, w' = w.drewN q := by
  obtain ⟨cv, sv, ov, h⟩ := h
  obtain ⟨c0, c1, c2, f0, f1, f2⟩ := prog_cells h
  obtain ⟨sp, sc, rfl⟩ := own_any h.stack
  obtain ⟨code, stack, opens⟩ := s
  simp only at *
  rcases List.eq_nil_or_concat opens with rfl | ⟨l, o, rfl⟩
  · obtain ⟨op, oc, rfl⟩ := own_any h.opens
    simp only [List.length_nil] at c2
    have e : topHeight ⟨code, stack, []⟩ = 0 := rfl
    rw [e]
    clear h
    go_enter Tryz.func32, Tryz.ntmps32
    go_wp2
    go_ret
    exact ⟨by simp, 0, rfl⟩
  · have e : topHeight ⟨code, stack, l.concat o⟩ = o.height := by unfold topHeight; simp
    rw [e] at hh ⊢
    rw [List.concat_eq_append] at h hop
    have hl : (l ++ [o]).length = l.length + 1 := by simp
    have hO := h.opens
    simp only [hl] at hO hop
    obtain ⟨g, oc, rfl, hb, hg, hcap, hcell, _⟩ := own_block hO
    have x2 : w.cell? ⟨g, l.length * 3 + 2, none⟩ = some (.int .i64 o.height) := hcell _ _ (by rw [openCells_last l o 2 (by omega)]; rfl)
    generalize stack.length = ns at *
    generalize l.length = n at *
    generalize o.height = hgt at *
    clear h hO hcell
    go_enter Tryz.func32, Tryz.ntmps32
    go_wp2
    go_quiet (fail)
    go_wp2
    go_ret
    exact ⟨by simp, _, rfl⟩
theorem grown_refl (w : World) (r : Option Nat) : w.grownBy w r := ⟨rfl, rfl, rfl, Nat.le_refl _, fun _ _ _ => rfl⟩
theorem own_take {w : World} {base g cap : Nat} {e : TypeId} {m : Nat} {xs : List Value} (h : w.ownsRow base e 1 (.slice (some ⟨g, 0, none⟩) m cap) m xs) (n : Nat) (hn : n ≤ m) : w.ownsRow base e 1 (.slice (some ⟨g, 0, none⟩) n cap) n (xs.take n) := by
  have hl : xs.length = m := by have := h.1; simpa using this
  rcases h.2 with ⟨h0, _⟩ | ⟨g', cap', cur, he, hb, hg, hnc, hcm, hcs, ht⟩
  · cases h0
  · cases he
    refine ⟨by simp; omega, .inr ⟨g, cap, cur, rfl, hb, hg, by omega, hcm, hcs, ?_⟩⟩
    have := congrArg (List.take n) ht
    rw [List.take_take, show min n (m * 1) = n by omega] at this
    rw [Nat.mul_one]; exact this
theorem stack_take (l : List Int) (n : Nat) : (stackCells l).take n = stackCells (l.take n) := by simp [stackCells, List.map_take]
theorem take_of (w0 : World) (s : PS) (l : List Int) (x : Int) (hs0 : s.stack = l ++ [x]) (hst : s.stack.length ≤ 1000000) (w : World) (h : Prog w0 pr s w) :
    Calls Tryz.prog 29 #[.pointer (some ⟨w0.heap.size, 0, none⟩)] w fun e w' => e = .returned (.tuple #[]) ∧ Prog w0 pr { s with stack := l } w' := by
  obtain ⟨cv, sv, ov, h⟩ := h
  obtain ⟨c0, c1, c2, f0, f1, f2⟩ := prog_cells h
  have hl : s.stack.length = l.length + 1 := by rw [hs0]; simp
  have hO := h.stack
  rw [hl] at hO hst
  obtain ⟨g, oc, rfl, hb, hg, hcap, _, _⟩ := own_block hO
  have hT := own_take hO l.length (by omega)
  rw [stack_take, hs0, List.take_left' rfl] at hT
  have h2 := (h.setStack (grown_refl _ _) l hT (.inl rfl)).drew
  have H2 := Lib.hid h2
  generalize l.length = n at *
  clear h h2 hO hT hs0 hl
  go_enter Tryz.func29, Tryz.ntmps29
  refine bare ?_
  go_wp2
  go_region
  go_wp2
  go_end0
  exact ⟨rfl, _, _, _, H2.out⟩
theorem stack_set (l : List Int) (x y : Int) : (stackCells (l ++ [x])).set l.length (.int .u8 y) = stackCells (l ++ [y]) := by simp [stackCells]
theorem ProgAt.setTop {w0 w : World} {s : PS} {cv ov : Value} {g cap : Nat} {l : List Int} {x : Int} (h : ProgAt w0 pr s cv (.slice (some ⟨g, 0, none⟩) (l.length + 1) cap) ov w) (hs : s.stack = l ++ [x]) (y : Int) :
    ProgAt w0 pr { s with stack := l ++ [y] } cv (.slice (some ⟨g, 0, none⟩) (l.length + 1) cap) ov (w.setCell ⟨g, l.length, none⟩ (.int .u8 y)) := by
  have hsz := h.size
  have hl : s.stack.length = l.length + 1 := by rw [hs]; simp
  have hS := h.stack
  rw [hl] at hS
  have hge := own_ge hS g rfl
  have hgr : w.grownBy (w.setCell ⟨g, l.length, none⟩ (.int .u8 y)) (some g) := ⟨rfl, rfl, rfl, by simp [World.setCell], fun k hk hne => Below.heap_setCell w _ _ k (fun e => hne (by rw [e]))⟩
  have hkeep : ∀ {u : Value} {n : Nat} {e : TypeId} {sz : Nat} {xs : List Value}, w.ownsRow (w0.heap.size + 1) e sz u n xs → apart (.slice (some ⟨g, 0, none⟩) (l.length + 1) cap) u → (w.setCell ⟨g, l.length, none⟩ (.int .u8 y)).ownsRow (w0.heap.size + 1) e sz u n xs := fun {u n e sz xs} ho ha => ho.kept hgr (by
    cases hu : u.ownBlock with
    | none => exact .inl rfl
    | some k => exact .inr fun e => ha g rfl (by rw [hu, e]))
  have hstk : (w.setCell ⟨g, l.length, none⟩ (.int .u8 y)).ownsRow (w0.heap.size + 1) 5 1 (.slice (some ⟨g, 0, none⟩) (l.length + 1) cap) (l ++ [y]).length (stackCells (l ++ [y])) := by
    have := (hS.stored l.length (.int .u8 y)).1
    rw [hs, stack_set] at this
    simpa using this
  exact ⟨h.below.setCell (by show w0.heap.size ≤ g; omega) _, by simp [World.setCell]; omega, by rw [Below.heap_setCell w _ _ _ (by show w0.heap.size ≠ g; omega)]; exact h.at3, hkeep h.code h.cs.symm, hstk, hkeep h.opens h.so, h.cs, h.co, h.so, fun p hp => by
    obtain ⟨k1, k2, k3, k4, k5⟩ := h.keep p hp
    exact ⟨by rw [Below.heap_setCell w _ _ _ (fun e => k4 (by rw [e]; rfl))]; exact k1, k2, k3, k4, k5⟩⟩
end Go.Proofs.YtomffpibdinkaaaGreatDoor
namespace Go.Proofs.YtomffpibdinkaaaGreatDoor
set_option maxRecDepth 100000
set_option maxHeartbeats 16000000
open Go.RowKit
variable {pr : List (Nat × Obj)}
theorem stack_facts {w0 w : World} {s : PS} {cv sv ov : Value} {l : List Int} {x : Int} (h : ProgAt w0 pr s cv sv ov w) (hs : s.stack = l ++ [x]) :
    ∃ g cap, sv = .slice (some ⟨g, 0, none⟩) (l.length + 1) cap ∧ l.length + 1 ≤ cap ∧ g ≠ w0.heap.size ∧ w.cell? ⟨g, l.length, none⟩ = some (.int .u8 x) ∧ w.frozen? ⟨g, l.length, none⟩ = false := by
  have hl : s.stack.length = l.length + 1 := by rw [hs]; simp
  have hO := h.stack
  rw [hl] at hO
  obtain ⟨g, oc, rfl, hb, hg, hcap, hcell, hfr⟩ := own_block hO
  refine ⟨g, oc, rfl, hcap, by omega, hcell _ _ ?_, hfr _⟩
  rw [hs, stackCells_snoc, List.getElem?_append_right (by simp [stackCells])]
  simp [stackCells]
theorem want_top (w0 : World) (s : PS) (kind : Int) (hk : kind = 126 ∨ kind = 127) (l : List Int) (x : Int) (hs : s.stack = l ++ [x]) (hh : topHeight s ≤ l.length) (hc : s.code.length ≤ 1000000) (hst : s.stack.length ≤ 1000000) (hop : s.opens.length ≤ 1000000) (w : World) (h : Prog w0 pr s w) :
    Calls Tryz.prog 28 #[.pointer (some ⟨w0.heap.size, 0, none⟩), .int .u8 kind] w fun e w' => e = .returned (.tuple #[]) ∧ Prog w0 pr (if x = kind then s else { s with code := s.code ++ [⟨if kind = 127 then 167 else 173, 0, 0⟩], stack := l ++ [kind] }) w' := by
  have hl : s.stack.length = l.length + 1 := by rw [hs]; simp
  have ch := fun w h => has_of (pr := pr) w0 s hst hop (by omega) w h
  have cp := fun op w h => put_of (pr := pr) w0 s op 0 0 hc w h
  rw [hl] at ch
  have hpos : (0 : Int) < ((l.length + 1 : Nat) : Int) - (topHeight s : Int) := by omega
  generalize topHeight s = th at ch hpos hh
  obtain ⟨cv, sv, ov, hP⟩ := h
  obtain ⟨g, cap, rfl, hcap, hgne, xc, xf⟩ := stack_facts hP hs
  obtain ⟨c0, c1, c2, f0, f1, f2⟩ := prog_cells hP
  obtain ⟨n, hn⟩ : ∃ n, l.length = n := ⟨_, rfl⟩
  rw [hn] at hpos hcap xc xf c1 ch hh hl
  have HP : Hid (Prog w0 pr s w) := Lib.hid ⟨_, _, _, hP⟩
  have HN := Lib.hid hn
  clear hP hn
  have hn6 : n ≤ 1000000 := by omega
  by_cases he : x = kind
  · subst he
    have e : (if x = x then s else { s with code := s.code ++ [⟨if x = 127 then 167 else 173, 0, 0⟩], stack := l ++ [x] }) = s := if_pos rfl
    rw [e]
    go_enter Tryz.func28, Tryz.ntmps28
    go_wp2_with (go_at_call 32; refine (ch _ ?_).mono ?_; (first | exact HP.out | exact HP.out.drewN _ | exact (HP.out.drewN _).drewN _ | exact ((HP.out.drewN _).drewN _).drewN _); rintro e w1 ⟨rfl, q, rfl⟩)
    refine bodyPost_ret (results_none rfl _ _ _) rfl ?_
    exact ⟨rfl, HP.out.drewN _⟩
  · have e : (if x = kind then s else { s with code := s.code ++ [⟨if kind = 127 then 167 else 173, 0, 0⟩], stack := l ++ [kind] }) = { s with code := s.code ++ [⟨if kind = 127 then 167 else 173, 0, 0⟩], stack := l ++ [kind] } := if_neg he
    rw [e]
    have n1 : (x == kind) = false := by simpa using he
    clear e
    rcases hk with rfl | rfl
    all_goals
      go_enter Tryz.func28, Tryz.ntmps28
      go_wp2_with (first
        | (go_at_call 32; refine (ch _ ?_).mono ?_; (first | exact HP.out | exact HP.out.drewN _ | exact (HP.out.drewN _).drewN _ | exact ((HP.out.drewN _).drewN _).drewN _); rintro e w1 ⟨rfl, q, rfl⟩)
        | (go_at_call 17; refine (cp _ _ ?_).mono ?_; (first | exact HP.out | exact HP.out.drewN _ | exact (HP.out.drewN _).drewN _ | exact ((HP.out.drewN _).drewN _).drewN _); rintro e w2 ⟨rfl, cv2, sv2, ov2, hp⟩; obtain ⟨g2, cap2, rfl, hcap2, hgne2, yc, yf⟩ := stack_facts hp hs; rw [HN.out] at hcap2 yc yf; obtain ⟨d0, d1, d2, _, _, _⟩ := prog_cells hp; rw [HN.out] at d1))
      refine bodyPost_ret (results_none rfl _ _ _) rfl ?_
      refine ⟨rfl, cv2, .slice (some ⟨g2, 0, none⟩) (l.length + 1) cap2, ov2, ?_⟩
      have hq := hp.setTop (l := l) hs
      rw [HN.out] at hq ⊢
      exact hq _
theorem want_none (w0 : World) (s : PS) (kind : Int) (hk : kind = 126 ∨ kind = 127) (hh : topHeight s = s.stack.length) (hc : s.code.length ≤ 1000000) (hst : s.stack.length ≤ 1000000) (hop : s.opens.length ≤ 1000000) (w : World) (h : Prog w0 pr s w) :
    Calls Tryz.prog 28 #[.pointer (some ⟨w0.heap.size, 0, none⟩), .int .u8 kind] w fun e w' => e = .returned (.tuple #[]) ∧ Prog w0 pr { s with code := s.code ++ [⟨192 - kind, 7, 0⟩], stack := s.stack ++ [kind] } w' := by
  obtain ⟨i0, hi, hz0, hz1, hz2⟩ := info_parts u8_info
  have ch := fun w h => has_of (pr := pr) w0 s hst hop (by omega) w h
  have cp := fun op w h => put_of (pr := pr) w0 s op 7 0 hc w h
  rw [hh, show ((s.stack.length : Nat) : Int) - ((s.stack.length : Nat) : Int) = 0 by omega] at ch
  obtain ⟨cv, sv, ov, hP⟩ := h
  obtain ⟨c0, c1, c2, f0, f1, f2⟩ := prog_cells hP
  obtain ⟨sp, sc, rfl⟩ := own_any hP.stack
  have HP : Hid (Prog w0 pr s w) := Lib.hid ⟨_, _, _, hP⟩
  clear hP hh
  have hk0 : 126 ≤ kind ∧ kind ≤ 127 := by omega
  clear hk
  go_enter Tryz.func28, Tryz.ntmps28
  go_wp2_with (first
    | (go_at_call 32; refine (ch _ ?_).mono ?_; (first | exact HP.out | exact HP.out.drewN _ | exact (HP.out.drewN _).drewN _ | exact ((HP.out.drewN _).drewN _).drewN _); rintro e w1 ⟨rfl, q, rfl⟩)
    | (go_at_call 17; refine (cp _ _ ?_).mono ?_; (first | exact HP.out | exact HP.out.drewN _ | exact (HP.out.drewN _).drewN _ | exact ((HP.out.drewN _).drewN _).drewN _); rintro e w2 ⟨rfl, cv2, sv2, ov2, hp⟩; obtain ⟨d0, d1, d2, _, _, _⟩ := prog_cells hp; have hps := hp.size; have ha := hp.alloc (.cells #[.int .u8 kind] 5); have k1 := fun o => (World.cell?_alloc_lt w2 o (⟨w0.heap.size, 1, none⟩ : Addr) (by show w0.heap.size < _; omega)).trans d1)
    | (at_builtin; refine wpList_append_own_at _ rfl (.tmp 62) (.tmp 64) 61 rfl (w0.heap.size + 1) 5 i0 (.int .u8 0) 1 1 Tryz.underlying61 hi hz0 hz1 hz2 rfl (by decide) sv2 s.stack.length _ rfl ha.stack ⟨w2.heap.size, 0, none⟩ 1 1 [.int .u8 kind] rfl rfl (cells_new w2 [.int .u8 kind] 5) (by intro u hu; simp at hu; subst hu; rfl) (by unfold maxLen; omega) (by omega) (by simp; omega) ?_))
  intro v' w3 hown' hgrow _ hloc
  rw [← stackCells_snoc] at hown'
  have hn : s.stack.length + 1 = (s.stack ++ [kind]).length := by simp
  rw [hn] at hown'
  have h2 := ha.setStack hgrow _ hown' (by simpa using hloc)
  obtain ⟨vp, vc, rfl⟩ := own_any hown'
  have hg1 := hgrow.size
  have hgc : w3.heap[w0.heap.size]? = some (.cells #[cv2, sv2, ov2] 64) := by
    rw [hgrow.block _ (by simp; omega) (fun e => by have := (own_ge hp.stack _ e.symm).1; omega)]; exact ha.at3
  have e0 : w3.cell? ⟨w0.heap.size, 1, none⟩ = some sv2 := by simp [World.cell?, hgc]
  have e1 : w3.frozen? ⟨w0.heap.size, 1, none⟩ = false := by simp [World.frozen?, hgc]
  have H2 := Lib.hid h2
  clear h2 hgc hgrow hown' hn ha hp d0 d1 d2 k1 c0 c1 c2
  go_wp2
  go_end0
  exact ⟨rfl, _, _, _, by have := H2.out; simp only [List.length_append, List.length_cons, List.length_nil, Nat.zero_add] at this; exact this⟩
def putF (t : PS) (op a b : Int) : PS := { t with code := t.code ++ [⟨op, a, b⟩] }
def pushF (t : PS) (k : Int) : PS := { t with stack := t.stack ++ [k] }
def takeF (t : PS) : PS := { t with stack := t.stack.dropLast }
def wantF (t : PS) (k : Int) : PS :=
  if topHeight t = t.stack.length then { t with code := t.code ++ [⟨192 - k, 7, 0⟩], stack := t.stack ++ [k] }
  else if t.stack.getLast? = some k then t
  else { t with code := t.code ++ [⟨if k = 127 then 167 else 173, 0, 0⟩], stack := t.stack.dropLast ++ [k] }
def opensF (t : PS) (op r : Int) : PS := { t with code := t.code ++ [⟨op, r, 0⟩], opens := t.opens ++ [⟨op, r, t.stack.length⟩] }
def reps (n : Nat) (c : List PI) : List PI := (List.replicate n c).flatten
theorem reps_zero (c : List PI) : reps 0 c = [] := rfl
theorem reps_snoc (n : Nat) (c : List PI) : reps (n + 1) c = reps n c ++ c := by
  unfold reps
  rw [List.replicate_succ', List.flatten_append]
  simp
def levelF (t : PS) (r : Int) (m : Nat) : PS :=
  if r = 64 then { t with code := t.code ++ reps (t.stack.length - m) [⟨26, 0, 0⟩], stack := t.stack.take m }
  else { t with code := (wantF t r).code ++ reps ((wantF t r).stack.length - (m + 1)) [⟨33, 129 - r, 0⟩, ⟨26, 0, 0⟩, ⟨32, 129 - r, 0⟩], stack := t.stack.take m }
def shutF (t : PS) : PS := match t.opens.getLast? with
  | none => t
  | some o => { t with code := (levelF t o.result o.height).code ++ [⟨11, 0, 0⟩], stack := t.stack.take o.height ++ (if o.result = 64 then [] else [o.result]), opens := t.opens.dropLast }
def elseF (t : PS) (o : PO) : PS := { t with code := (levelF t o.result o.height).code ++ [⟨5, 0, 0⟩], stack := t.stack.take o.height, opens := t.opens.dropLast ++ [⟨5, o.result, o.height⟩] }
def jumpsF (t : PS) (n : Nat) : PS := match t.opens[t.opens.length - 1 - n % t.opens.length]? with
  | none => t
  | some o => if o.result ≠ 64 ∧ o.op ≠ 3 then t else takeF (putF (wantF t 127) 13 (n % t.opens.length : Nat) 0)
def doesF (s : PS) (kind op a b : Int) : PS :=
  if kind % 16 = 0 ∨ kind % 16 = 1 then (if op % 2 = 0 then pushF (putF s 66 a 0) 126 else pushF (putF s 65 (wrap64 (wrap32 a)) 0) 127)
  else if kind % 16 = 2 ∨ kind % 16 = 3 then (if op % 2 = 0 then putF (putF (wantF s 126) 32 0 0) (124 + op / 2 % 15) 0 0 else putF (putF (wantF s 127) 32 1 0) (106 + op / 2 % 15) 0 0)
  else if kind % 16 = 4 then (if op % 2 = 0 then pushF (takeF (putF (wantF s 126) 80 0 0)) 127 else pushF (takeF (putF (wantF s 127) 69 0 0)) 127)
  else if kind % 16 = 5 then (if op % 4 = 0 then pushF (putF s 32 0 0) 126 else if op % 4 = 1 then pushF (putF s 32 1 0) 127 else if op % 4 = 2 then pushF (putF s 32 2 0) 127 else pushF (putF s 32 3 0) 126)
  else if kind % 16 = 6 then (if op % 4 = 0 then takeF (putF (wantF s 126) 33 0 0) else if op % 4 = 1 then takeF (putF (wantF s 127) 33 1 0) else if op % 4 = 2 then takeF (putF (wantF s 127) 33 2 0) else takeF (putF (wantF s 126) 33 3 0))
  else if kind % 16 = 7 then (if op % 4 = 0 then putF (wantF s 126) 34 0 0 else if op % 4 = 1 then putF (wantF s 127) 34 1 0 else if op % 4 = 2 then putF (wantF s 127) 34 2 0 else putF (wantF s 126) 34 3 0)
  else if kind % 16 = 8 then (if op % 2 = 0 then takeF (putF (wantF (pushF (putF s 35 0 0) 127) 126) 36 1 0) else takeF (putF (wantF (pushF (putF s 35 1 0) 126) 126) 36 1 0))
  else if kind % 16 = 9 then putF (wantF s 127) 40 (op % 3) (bits .and .i64 b 131071)
  else if kind % 16 = 10 then takeF (putF (putF (wantF s 127) 32 0 0) (60 + op % 3) 0 (bits .and .i64 b 131071))
  else if kind % 16 = 11 then opensF s (2 + op % 2) (if op / 2 % 3 = 0 then 64 else if op / 2 % 3 = 1 then 127 else 126)
  else if kind % 16 = 12 then opensF (takeF (wantF s 127)) 4 64
  else if kind % 16 = 13 then (match s.opens.getLast? with
    | none => s
    | some o => if o.op = 4 ∧ op % 2 = 0 then elseF s o else shutF s)
  else if kind % 16 = 14 then jumpsF s op.toNat
  else (if op % 3 = 0 then pushF (putF s 63 0 0) 127 else if op % 3 = 1 then putF s 1 0 0 else putF (pushF (putF s 63 0 0) 127) 64 0 0)
def shuts : Nat → PS → PS
  | 0, s => s
  | n + 1, s => shuts n (shutF s)
theorem shuts_snoc : ∀ (n : Nat) (s : PS), shuts (n + 1) s = shutF (shuts n s)
  | 0, s => rfl
  | n + 1, s => by show shuts (n + 1) (shutF s) = _; rw [shuts_snoc n (shutF s)]; rfl
end Go.Proofs.YtomffpibdinkaaaGreatDoor
