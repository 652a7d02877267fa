/-
  Facts and contracts that the proof calls.
-/
import Derived.Test.YtomffpibdinkaaaGreatDoorVbModProgB
import Derived.Deep.LoopGhost
namespace Go.Proofs.YtomffpibdinkaaaGreatDoor
set_option maxRecDepth 100000
set_option maxHeartbeats 16000000
open Go.RowKit
variable {pr : List (Nat × Obj)}
instance (n : Int) : Decidable (inI64 n) := by unfold inI64; infer_instance
def okPI (x : PI) : Bool := rightOf (byCode x.op) x.op x.a x.b [] && decide (x.op ≠ 2 ∧ x.op ≠ 3 ∧ x.op ≠ 4 ∧ x.op ≠ 5 ∧ x.op ≠ 11 ∧ inI64 x.a)
theorem level_none (w0 : World) (s : PS) (op : Int) (m : Nat) (hh : topHeight s = m) (hm : m ≤ s.stack.length) (hc : s.code.length + s.stack.length ≤ 900000) (hop : s.opens.length ≤ 900000) (w : World) (h : Prog w0 pr s w) :
    Calls Tryz.prog 16 #[.pointer (some ⟨w0.heap.size, 0, none⟩), .agg #[.int .i64 op, .int .u8 64, .int .i64 m]] w fun e w' => e = .returned (.tuple #[]) ∧ ∃ c : List PI, c.all okPI = true ∧ c.length ≤ s.stack.length - m ∧ levelF s 64 m = { s with code := s.code ++ c, stack := s.stack.take m } ∧ Prog w0 pr { s with code := s.code ++ c, stack := s.stack.take m } w' := by
  have hlf : levelF s 64 m = { s with code := s.code ++ reps (s.stack.length - m) [⟨26, 0, 0⟩], stack := s.stack.take m } := if_pos rfl
  have hthm : ∀ c st, topHeight { s with code := c, stack := st } = m := fun c st => hh
  obtain ⟨n, hn⟩ : ∃ n, s.stack.length = n := ⟨_, rfl⟩
  rw [hn] at hm hc hlf ⊢
  have HLF := Lib.hid hlf
  clear hlf
  obtain ⟨BX, hBX⟩ : ∃ BX : Obj, BX = .cells #[.int .i64 op, .int .u8 64, .int .i64 m] 68 := ⟨_, rfl⟩
  have h0 : ∃ c : List PI, c.all okPI = true ∧ c.length + n = n ∧ c = reps (n - n) [⟨26, 0, 0⟩] ∧ Prog w0 ((w.heap.size, BX) :: pr) { s with code := s.code ++ c, stack := s.stack.take n } (w.alloc BX) := by
    obtain ⟨cv, sv, ov, h⟩ := h
    refine ⟨[], rfl, by simp, by rw [Nat.sub_self]; rfl, cv, sv, ov, ?_⟩
    rw [List.append_nil, List.take_of_length_le (by omega)]
    exact h.allocKept _
  rw [hBX] at h0
  clear h
  go_enter Tryz.func16, Tryz.ntmps16
  go_wp2
  go_loopg [] n (fun gg wr => m ≤ gg ∧ gg ≤ n ∧ (∃ c : List PI, c.all okPI = true ∧ c.length + gg = n ∧ c = reps (n - gg) [⟨26, 0, 0⟩] ∧ Prog w0 ((w.heap.size, .cells #[.int .i64 op, .int .u8 64, .int .i64 m] 68) :: pr) { s with code := s.code ++ c, stack := s.stack.take gg } wr))
  case atStart => exact ⟨hm, by omega, h0⟩
  case round =>
    clear h0
    obtain ⟨hmg, hgn, c, hall, hcl, hcr0, hP⟩ := hrel
    have HCR := Lib.hid hcr0
    clear hcr0
    have hbx := hP.kept
    simp only at hbx
    have b0 : wr.cell? ⟨w.heap.size, 1, none⟩ = some (.int .u8 64) := by simp [World.cell?, hbx]
    have b1 : wr.cell? ⟨w.heap.size, 2, none⟩ = some (.int .i64 m) := by simp [World.cell?, hbx]
    have hlen : (s.stack.take gk).length = gk := by rw [List.length_take]; omega
    have ch := fun w' h => has_of (pr := (w.heap.size, .cells #[.int .i64 op, .int .u8 64, .int .i64 m] 68) :: pr) w0 { s with code := s.code ++ c, stack := s.stack.take gk } (by simp only [hlen]; omega) (by simp only; omega) (by rw [hthm]; omega) w' h
    rw [hthm] at ch
    simp only [hlen] at ch
    by_cases hlt : m < gk
    · obtain ⟨g, rfl⟩ : ∃ g, gk = g + 1 := ⟨gk - 1, by omega⟩
      have hts := take_snoc (l := s.stack) (k := g) (by omega)
      have cp := fun w' h => put_of (pr := (w.heap.size, .cells #[.int .i64 op, .int .u8 64, .int .i64 m] 68) :: pr) w0 { s with code := s.code ++ c, stack := s.stack.take (g + 1) } 26 0 0 (by simp only [List.length_append]; omega) w' h
      have ct := fun w' h => take_of (pr := (w.heap.size, .cells #[.int .i64 op, .int .u8 64, .int .i64 m] 68) :: pr) w0 { s with code := s.code ++ c ++ [⟨26, 0, 0⟩], stack := s.stack.take (g + 1) } (s.stack.take g) s.stack[g] hts (by simp only [hlen]; omega) w' h
      have hpos : (0 : Int) < ((g + 1 : Nat) : Int) - (m : Int) := by omega
      have HP := Lib.hid hP
      clear hP hbx
      go_wp2_with (first
        | (go_at_call 32; refine (ch _ HP.out).mono ?_; rintro e w1 ⟨rfl, q, rfl⟩)
        | (go_at_call 17; refine (cp _ (HP.out.drewN _)).mono ?_; rintro e w2 ⟨rfl, hp2⟩)
        | (go_at_call 29; refine (ct _ hp2).mono ?_; rintro e w3 ⟨rfl, hp3⟩))
      go_roundg g
      case rel => exact ⟨by omega, by omega, c ++ [⟨26, 0, 0⟩], by rw [List.all_append, hall]; decide +kernel, by simp; omega, by rw [show n - g = (n - (g + 1)) + 1 by omega, reps_snoc, ← HCR.out], by rw [← List.append_assoc]; exact hp3⟩
      case measure => omega
    · obtain rfl : gk = m := by omega
      obtain ⟨cv, sv, ov, hA⟩ := hP
      obtain ⟨c0, c1, c2, f0, f1, f2⟩ := prog_cells hA
      have hS := hA.stack
      simp only [hlen] at hS
      have hl0 : ((gk : Nat) : Int) - (gk : Int) = 0 := by omega
      rw [hl0] at ch
      have HP := Lib.hid (show Prog w0 ((w.heap.size, .cells #[.int .i64 op, .int .u8 64, .int .i64 gk] 68) :: pr) { s with code := s.code ++ c, stack := s.stack.take gk } wr from ⟨cv, sv, ov, hA⟩)
      have HF : Hid (∀ q, ∃ c' : List PI, c'.all okPI = true ∧ c'.length ≤ n - gk ∧ c' = reps (n - gk) [⟨26, 0, 0⟩] ∧ ∀ sv', sv' = sv → Prog w0 pr { s with code := s.code ++ c', stack := s.stack.take gk } ((wr.drewN q).setCell ⟨w0.heap.size, 1, none⟩ sv').drew) := Lib.hid fun q => ⟨c, hall, by omega, HCR.out, fun sv' e => ⟨cv, sv, ov, by
        subst e
        have hq := hA.drewN q
        exact ((hq.setStack (grown_refl _ _) (s.stack.take gk) hq.stack (.inl rfl)).drew).forget⟩⟩
      obtain ⟨sp, sc, rfl⟩ := own_any hS
      have hcap : gk ≤ sc := by rcases hS.2 with ⟨h0, h1⟩ | ⟨g', cap', cur, he, _, _, hnc, _⟩ <;> first | omega | (cases he; omega)
      clear hA hS hbx
      go_wp2_with (go_at_call 32; refine (ch _ HP.out).mono ?_; rintro e w1 ⟨rfl, q, rfl⟩)
      go_region
      go_wp2
      go_end0
      obtain ⟨c', h1, h2, h2r, h3⟩ := HF.out q
      exact ⟨rfl, c', h1, h2, by rw [HLF.out, h2r], h3 _ rfl⟩
end Go.Proofs.YtomffpibdinkaaaGreatDoor
namespace Go.Proofs.YtomffpibdinkaaaGreatDoor
set_option maxRecDepth 100000
set_option maxHeartbeats 16000000
open Go.RowKit
variable {pr : List (Nat × Obj)}
theorem want_of (w0 : World) (s : PS) (kind : Int) (hk : kind = 126 ∨ kind = 127) (m : Nat) (hh : topHeight s = m) (hm : m ≤ s.stack.length) (hc : s.code.length ≤ 1000000) (hst : s.stack.length ≤ 1000000) (hop : s.opens.length ≤ 1000000) (w : World) (h : Prog w0 pr s w) :
    Calls Tryz.prog 28 #[.pointer (some ⟨w0.heap.size, 0, none⟩), .int .u8 kind] w fun e w' => e = .returned (.tuple #[]) ∧ ∃ (c : List PI) (k : Nat), c.all okPI = true ∧ c.length ≤ 1 ∧ m ≤ k ∧ k ≤ s.stack.length ∧ s.stack.length ≤ k + 1 ∧ wantF s kind = { s with code := s.code ++ c, stack := s.stack.take k ++ [kind] } ∧ Prog w0 pr { s with code := s.code ++ c, stack := s.stack.take k ++ [kind] } w' := by
  by_cases hn : s.stack.length = m
  · refine (want_none w0 s kind hk (by omega) hc hst hop w h).mono ?_
    rintro e w' ⟨he, hp⟩
    refine ⟨he, [⟨192 - kind, 7, 0⟩], m, ?_, by simp, by omega, by omega, by omega, ?_, ?_⟩
    · rcases hk with rfl | rfl <;> decide +kernel
    · unfold wantF; rw [if_pos (by omega), List.take_of_length_le (by omega)]
    · rw [List.take_of_length_le (by omega)]; exact hp
  · obtain ⟨l, x, hs⟩ : ∃ l x, s.stack = l ++ [x] := by
      rcases List.eq_nil_or_concat s.stack with e | ⟨l, x, e⟩
      · rw [e] at hn hm; simp at hn hm; omega
      · exact ⟨l, x, by rw [e, List.concat_eq_append]⟩
    have hl : s.stack.length = l.length + 1 := by rw [hs]; simp
    refine (want_top w0 s kind hk l x hs (by omega) hc hst hop w h).mono ?_
    rintro e w' ⟨he, hp⟩
    have ht : s.stack.take l.length = l := by rw [hs]; simp
    have hgl : s.stack.getLast? = some x := by rw [hs]; simp
    have hdl : s.stack.dropLast = l := by rw [hs]; simp
    by_cases hx : x = kind
    · rw [if_pos hx] at hp
      refine ⟨he, [], l.length, rfl, by simp, by omega, by omega, by omega, ?_, ?_⟩
      · unfold wantF; rw [if_neg (by omega), hgl, if_pos (by rw [hx]), ht, List.append_nil, ← hx, ← hs]
      · rw [ht, List.append_nil, ← hx, ← hs]; exact hp
    · rw [if_neg hx] at hp
      refine ⟨he, [⟨if kind = 127 then 167 else 173, 0, 0⟩], l.length, ?_, by simp, by omega, by omega, by omega, ?_, ?_⟩
      · rcases hk with rfl | rfl <;> decide +kernel
      · unfold wantF; rw [if_neg (by omega), hgl, if_neg (fun e => hx (by injection e)), ht, hdl]
      · rw [ht]; exact hp
theorem under_top {w0 w : World} {s : PS} {cv ov : Value} {g cap n : Nat} {l : List Int} {x y : Int} (h : ProgAt w0 pr s cv (.slice (some ⟨g, 0, none⟩) n cap) ov w) (hs : s.stack = (l ++ [y]) ++ [x]) : w.cell? ⟨g, l.length, none⟩ = some (.int .u8 y) ∧ w.frozen? ⟨g, l.length, none⟩ = false := by
  have hl : s.stack.length = (l.length + 1) + 1 := by rw [hs]; simp
  have hO := h.stack
  rw [hl] at hO
  obtain ⟨g', oc, e, hb, hg, hcap, hcell, hfr⟩ := own_block hO
  cases e
  refine ⟨hcell _ _ ?_, hfr _⟩
  rw [hs, stackCells_snoc, stackCells_snoc, List.append_assoc, List.getElem?_append_right (by simp [stackCells])]
  simp [stackCells]
theorem under_set {w0 w : World} {s : PS} {cv ov : Value} {g cap n : Nat} {l : List Int} {x y : Int} (h : ProgAt w0 pr s cv (.slice (some ⟨g, 0, none⟩) n cap) ov w) (hs : s.stack = (l ++ [y]) ++ [x]) (z : Int) :
    ProgAt w0 pr { s with stack := l ++ [z] } cv (.slice (some ⟨g, 0, none⟩) (l.length + 1) cap) ov ((w.setCell ⟨g, l.length, none⟩ (.int .u8 z)).setCell ⟨w0.heap.size, 1, none⟩ (.slice (some ⟨g, 0, none⟩) (l.length + 1) cap)) := by
  have hl : s.stack.length = l.length + 1 + 1 := by rw [hs]; simp
  have hn : n = l.length + 1 + 1 := by
    obtain ⟨p, c, e⟩ := own_any h.stack
    cases e; exact hl
  subst hn
  have hS := h.stack
  rw [hl] at hS
  have hT := own_take hS (l.length + 1) (by omega)
  rw [stack_take, hs, List.take_left' (by simp)] at hT
  have hset := (hT.stored l.length (.int .u8 z)).1
  rw [stack_set] at hset
  have hgr : w.grownBy (w.setCell ⟨g, l.length, none⟩ (.int .u8 z)) (some g) := ⟨rfl, rfl, rfl, by simp [World.setCell], fun k hk hne => Below.heap_setCell w _ _ k (fun e => hne (by rw [e]))⟩
  have := h.setStack (sv' := .slice (some ⟨g, 0, none⟩) (l.length + 1) cap) hgr (l ++ [z]) (by simpa using hset) (.inl rfl)
  exact this
theorem level_126 (w0 : World) (s : PS) (op : Int) (m : Nat) (hh : topHeight s = m) (hm : m ≤ s.stack.length) (hc : s.code.length + 3 * s.stack.length ≤ 900000) (hop : s.opens.length ≤ 900000) (w : World) (h : Prog w0 pr s w) :
    Calls Tryz.prog 16 #[.pointer (some ⟨w0.heap.size, 0, none⟩), .agg #[.int .i64 op, .int .u8 126, .int .i64 m]] w fun e w' => e = .returned (.tuple #[]) ∧ ∃ c : List PI, c.all okPI = true ∧ c.length ≤ 1 + 3 * (s.stack.length - m) ∧ levelF s 126 m = { s with code := s.code ++ c, stack := s.stack.take m } ∧ Prog w0 pr { s with code := s.code ++ c, stack := s.stack.take m } w' := by
  have hthm : ∀ c st, topHeight { s with code := c, stack := st } = m := fun c st => hh
  obtain ⟨n, hn⟩ : ∃ n, s.stack.length = n := ⟨_, rfl⟩
  rw [hn] at hm hc ⊢
  have h0 : Prog w0 ((w.heap.size, .cells #[.int .i64 op, .int .u8 126, .int .i64 m] 68) :: pr) s (w.alloc (.cells #[.int .i64 op, .int .u8 126, .int .i64 m] 68)) := by
    obtain ⟨cv, sv, ov, h⟩ := h
    exact ⟨cv, sv, ov, h.allocKept _⟩
  have cw := want_of w0 s 126 (by omega) m hh (by omega) (by omega) (by omega) (by omega) _ h0
  rw [hn] at cw
  clear h h0
  go_enter Tryz.func16, Tryz.ntmps16
  go_wp2_with (go_at_call 28; (with_reducible refine cw.mono ?_); rintro e w1 ⟨rfl, c0, k0, hall0, hc0, hm0, hk0, hk1, hF0, hp0⟩)
  have HF0 := Lib.hid hF0
  have HN0 := Lib.hid hn
  clear hF0
  go_loopg [] k0 (fun gg wr => m ≤ gg ∧ gg ≤ k0 ∧ (∃ c : List PI, c.all okPI = true ∧ c.length + 3 * gg ≤ 1 + 3 * k0 ∧ Hid (c = c0 ++ reps (k0 - gg) [⟨33, 3, 0⟩, ⟨26, 0, 0⟩, ⟨32, 3, 0⟩]) ∧ Prog w0 ((w.heap.size, .cells #[.int .i64 op, .int .u8 126, .int .i64 m] 68) :: pr) { s with code := s.code ++ c, stack := s.stack.take gg ++ [126] } wr))
  case atStart => exact ⟨hm0, by omega, c0, hall0, by omega, Lib.hid (by rw [Nat.sub_self, reps_zero, List.append_nil]), hp0⟩
  case round =>
    clear hp0 cw
    obtain ⟨hmg, hgn, c, hall, hcl, HCR, hP⟩ := hrel
    have hbx := hP.kept
    simp only at hbx
    have b0 : wr.cell? ⟨w.heap.size, 1, none⟩ = some (.int .u8 126) := by simp [World.cell?, hbx]
    have b1 : wr.cell? ⟨w.heap.size, 2, none⟩ = some (.int .i64 m) := by simp [World.cell?, hbx]
    have hlen : (s.stack.take gk ++ [(126 : Int)]).length = gk + 1 := by rw [List.length_append, List.length_take, List.length_singleton]; omega
    have ch := fun w' h => has_of (pr := (w.heap.size, .cells #[.int .i64 op, .int .u8 126, .int .i64 m] 68) :: pr) w0 { s with code := s.code ++ c, stack := s.stack.take gk ++ [126] } (by simp only [hlen]; omega) (by simp only; omega) (by rw [hthm]; omega) w' h
    rw [hthm] at ch
    simp only [hlen] at ch
    by_cases hlt : m < gk
    · obtain ⟨g, rfl⟩ : ∃ g, gk = g + 1 := ⟨gk - 1, by omega⟩
      have hts := take_snoc (l := s.stack) (k := g) (by omega)
      have cp1 := fun w' h => put_of (pr := (w.heap.size, .cells #[.int .i64 op, .int .u8 126, .int .i64 m] 68) :: pr) w0 { s with code := s.code ++ c, stack := s.stack.take (g + 1) ++ [126] } 33 3 0 (by simp only [List.length_append]; omega) w' h
      have cp2 := fun w' h => put_of (pr := (w.heap.size, .cells #[.int .i64 op, .int .u8 126, .int .i64 m] 68) :: pr) w0 { s with code := s.code ++ c ++ [⟨33, 3, 0⟩], stack := s.stack.take (g + 1) ++ [126] } 26 0 0 (by simp only [List.length_append, List.length_singleton]; omega) w' h
      have cp3 := fun w' h => put_of (pr := (w.heap.size, .cells #[.int .i64 op, .int .u8 126, .int .i64 m] 68) :: pr) w0 { s with code := s.code ++ c ++ [⟨33, 3, 0⟩] ++ [⟨26, 0, 0⟩], stack := s.stack.take (g + 1) ++ [126] } 32 3 0 (by simp only [List.length_append, List.length_singleton]; omega) w' h
      simp only at cp1 cp2 cp3
      have hpos : (1 : Int) < ((g + 1 + 1 : Nat) : Int) - (m : Int) := by omega
      have HP := Lib.hid hP
      have HT := Lib.hid hts
      have hgs : g < s.stack.length := by omega
      clear hP hbx hts
      go_wp2_with (first
        | (go_at_call 32; refine (ch _ HP.out).mono ?_; rintro e w1 ⟨rfl, q, rfl⟩)
        | (go_at_call 17; (with_reducible refine (cp1 _ (HP.out.drewN _)).mono ?_); rintro e w2 ⟨rfl, hp2⟩; have j2 := hp2.kept; have b2 : w2.cell? ⟨w.heap.size, 1, none⟩ = some (.int .u8 126) := (by simp only at j2; simp [World.cell?, j2]))
        | (go_at_call 17; (with_reducible refine (cp2 _ hp2).mono ?_); rintro e w3 ⟨rfl, hp3⟩; have j3 := hp3.kept; have b3 : w3.cell? ⟨w.heap.size, 1, none⟩ = some (.int .u8 126) := (by simp only at j3; simp [World.cell?, j3]))
        | (go_at_call 17; (with_reducible refine (cp3 _ hp3).mono ?_); rintro e w4 ⟨rfl, hp4⟩; have j4 := hp4.kept; have b4 : w4.cell? ⟨w.heap.size, 1, none⟩ = some (.int .u8 126) := (by simp only at j4; simp [World.cell?, j4])))
      obtain ⟨cv, sv, ov, hA⟩ := hp4
      obtain ⟨d0, d1, d2, f0, f1, f2⟩ := prog_cells hA
      have hst : s.stack.take (g + 1) ++ [(126 : Int)] = (s.stack.take g ++ [s.stack[g]]) ++ [126] := by rw [HT.out]
      obtain ⟨gb, cap, rfl, hcap, hgne, xc, xf⟩ := stack_facts hA (l := s.stack.take g ++ [s.stack[g]]) (x := 126) hst
      have hl1 : (s.stack.take g ++ [s.stack[g]]).length = g + 1 := by simp; omega
      rw [hl1] at d1 hcap xc xf
      obtain ⟨xd, xe⟩ := under_top hA hst
      rw [show (s.stack.take g).length = g by simp; omega] at xd xe
      generalize s.stack[g] = y at *
      clear hp2 hp3 cp1 cp2 cp3 ch
      have hw : IntKind.i64.wrap ((g : Int) + 1 + 1 - 2) = g := by rw [IntKind.wrap_i64]; omega
      have hbs : w0.heap.size < w4.heap.size := by have := hA.size; omega
      have hgl : gb < w4.heap.size := (own_ge hA.stack gb rfl).2
      have hwl : w.heap.size < w4.heap.size := heap_lt j4
      have d1a := fun o => (World.cell?_alloc_lt w4 o (⟨w0.heap.size, 1, none⟩ : Addr) hbs).trans d1
      have xda := fun o => (World.cell?_alloc_lt w4 o (⟨gb, g, none⟩ : Addr) hgl).trans xd
      have xea : ∀ o, (w4.alloc o).frozen? ⟨gb, g, none⟩ = false := fun o => (World.frozen?_of_block (w := w4) (Below.heap_alloc _ _ _ hgl)).trans xe
      have f1a : ∀ o, (w4.alloc o).frozen? ⟨w0.heap.size, 1, none⟩ = false := fun o => (World.frozen?_of_block (w := w4) (Below.heap_alloc _ _ _ hbs)).trans f1
      have b4a := fun o => (World.cell?_alloc_lt w4 o (⟨w.heap.size, 1, none⟩ : Addr) hwl).trans b4
      have hnext : Prog w0 ((w.heap.size, .cells #[.int .i64 op, .int .u8 126, .int .i64 m] 68) :: pr) { s with code := s.code ++ (c ++ [⟨33, 3, 0⟩, ⟨26, 0, 0⟩, ⟨32, 3, 0⟩]), stack := s.stack.take g ++ [126] } (((w4.setCell ⟨gb, g, none⟩ (.int .u8 126)).setCell ⟨w0.heap.size, 1, none⟩ (.slice (some ⟨gb, 0, none⟩) (g + 1) cap)).alloc (.cells #[.int .u8 126] 5)).drew := by
        have hq := under_set hA hst 126
        rw [show (s.stack.take g).length = g by simp; omega] at hq
        have := (hq.alloc (.cells #[.int .u8 126] 5)).drew
        rw [show s.code ++ c ++ [⟨33, 3, 0⟩] ++ [⟨26, 0, 0⟩] ++ [⟨32, 3, 0⟩] = s.code ++ (c ++ [⟨33, 3, 0⟩, ⟨26, 0, 0⟩, ⟨32, 3, 0⟩]) by simp] at this
        exact ⟨_, _, _, this⟩
      clear hA
      go_wp2
      go_region
      go_wp2
      go_roundg g
      case rel => exact ⟨by omega, by omega, c ++ [⟨33, 3, 0⟩, ⟨26, 0, 0⟩, ⟨32, 3, 0⟩], by rw [List.all_append, hall]; decide +kernel, by simp; omega, Lib.hid (by rw [show k0 - g = (k0 - (g + 1)) + 1 by omega, reps_snoc, ← List.append_assoc, ← HCR.out]), hnext⟩
      case measure => omega
    · obtain rfl : gk = m := by omega
      obtain ⟨cv, sv, ov, hA⟩ := hP
      obtain ⟨c0', c1, c2, f0, f1, f2⟩ := prog_cells hA
      have hS := hA.stack
      simp only [hlen] at hS
      have hl0 : ((gk + 1 : Nat) : Int) - (gk : Int) = 1 := by omega
      rw [hl0] at ch
      have HP := Lib.hid (show Prog w0 ((w.heap.size, .cells #[.int .i64 op, .int .u8 126, .int .i64 gk] 68) :: pr) { s with code := s.code ++ c, stack := s.stack.take gk ++ [126] } wr from ⟨cv, sv, ov, hA⟩)
      obtain ⟨gb, cap, rfl, hb, hg, hcap, _, _⟩ := own_block hS
      have HF : Hid (∀ q, Prog w0 pr { s with code := s.code ++ c, stack := s.stack.take gk } ((wr.drewN q).setCell ⟨w0.heap.size, 1, none⟩ (.slice (some ⟨gb, 0, none⟩) gk cap)).drew) := Lib.hid fun q => ⟨cv, _, ov, by
        have hq := hA.drewN q
        have hT := own_take (w := wr.drewN q) (hS : (wr.drewN q).ownsRow _ _ _ _ _ _) gk (by omega)
        rw [stack_take, List.take_left' (by rw [List.length_take]; omega)] at hT
        have hlk : (s.stack.take gk).length = gk := by rw [List.length_take]; omega
        have := ((hq.setStack (sv' := .slice (some ⟨gb, 0, none⟩) gk cap) (grown_refl _ _) (s.stack.take gk) (by rw [hlk]; exact hT) (.inl rfl)).drew).forget
        exact this⟩
      clear hA hS hbx
      go_wp2_with (go_at_call 32; refine (ch _ HP.out).mono ?_; rintro e w1 ⟨rfl, q, rfl⟩)
      go_region
      go_wp2
      go_end0
      exact ⟨rfl, c, hall, by omega, by unfold levelF; rw [if_neg (by decide), HF0.out]; simp only [List.length_append, List.length_take, List.length_singleton]; rw [show min k0 s.stack.length + 1 - (gk + 1) = k0 - gk by have := HN0.out; omega, HCR.out]; simp, HF.out q⟩
theorem level_127 (w0 : World) (s : PS) (op : Int) (m : Nat) (hh : topHeight s = m) (hm : m ≤ s.stack.length) (hc : s.code.length + 3 * s.stack.length ≤ 900000) (hop : s.opens.length ≤ 900000) (w : World) (h : Prog w0 pr s w) :
    Calls Tryz.prog 16 #[.pointer (some ⟨w0.heap.size, 0, none⟩), .agg #[.int .i64 op, .int .u8 127, .int .i64 m]] w fun e w' => e = .returned (.tuple #[]) ∧ ∃ c : List PI, c.all okPI = true ∧ c.length ≤ 1 + 3 * (s.stack.length - m) ∧ levelF s 127 m = { s with code := s.code ++ c, stack := s.stack.take m } ∧ Prog w0 pr { s with code := s.code ++ c, stack := s.stack.take m } w' := by
  have hthm : ∀ c st, topHeight { s with code := c, stack := st } = m := fun c st => hh
  obtain ⟨n, hn⟩ : ∃ n, s.stack.length = n := ⟨_, rfl⟩
  rw [hn] at hm hc ⊢
  have h0 : Prog w0 ((w.heap.size, .cells #[.int .i64 op, .int .u8 127, .int .i64 m] 68) :: pr) s (w.alloc (.cells #[.int .i64 op, .int .u8 127, .int .i64 m] 68)) := by
    obtain ⟨cv, sv, ov, h⟩ := h
    exact ⟨cv, sv, ov, h.allocKept _⟩
  have cw := want_of w0 s 127 (by omega) m hh (by omega) (by omega) (by omega) (by omega) _ h0
  rw [hn] at cw
  clear h h0
  go_enter Tryz.func16, Tryz.ntmps16
  go_wp2_with (go_at_call 28; (with_reducible refine cw.mono ?_); rintro e w1 ⟨rfl, c0, k0, hall0, hc0, hm0, hk0, hk1, hF0, hp0⟩)
  have HF0 := Lib.hid hF0
  have HN0 := Lib.hid hn
  clear hF0
  go_loopg [] k0 (fun gg wr => m ≤ gg ∧ gg ≤ k0 ∧ (∃ c : List PI, c.all okPI = true ∧ c.length + 3 * gg ≤ 1 + 3 * k0 ∧ Hid (c = c0 ++ reps (k0 - gg) [⟨33, 2, 0⟩, ⟨26, 0, 0⟩, ⟨32, 2, 0⟩]) ∧ Prog w0 ((w.heap.size, .cells #[.int .i64 op, .int .u8 127, .int .i64 m] 68) :: pr) { s with code := s.code ++ c, stack := s.stack.take gg ++ [127] } wr))
  case atStart => exact ⟨hm0, by omega, c0, hall0, by omega, Lib.hid (by rw [Nat.sub_self, reps_zero, List.append_nil]), hp0⟩
  case round =>
    clear hp0 cw
    obtain ⟨hmg, hgn, c, hall, hcl, HCR, hP⟩ := hrel
    have hbx := hP.kept
    simp only at hbx
    have b0 : wr.cell? ⟨w.heap.size, 1, none⟩ = some (.int .u8 127) := by simp [World.cell?, hbx]
    have b1 : wr.cell? ⟨w.heap.size, 2, none⟩ = some (.int .i64 m) := by simp [World.cell?, hbx]
    have hlen : (s.stack.take gk ++ [(127 : Int)]).length = gk + 1 := by rw [List.length_append, List.length_take, List.length_singleton]; omega
    have ch := fun w' h => has_of (pr := (w.heap.size, .cells #[.int .i64 op, .int .u8 127, .int .i64 m] 68) :: pr) w0 { s with code := s.code ++ c, stack := s.stack.take gk ++ [127] } (by simp only [hlen]; omega) (by simp only; omega) (by rw [hthm]; omega) w' h
    rw [hthm] at ch
    simp only [hlen] at ch
    by_cases hlt : m < gk
    · obtain ⟨g, rfl⟩ : ∃ g, gk = g + 1 := ⟨gk - 1, by omega⟩
      have hts := take_snoc (l := s.stack) (k := g) (by omega)
      have cp1 := fun w' h => put_of (pr := (w.heap.size, .cells #[.int .i64 op, .int .u8 127, .int .i64 m] 68) :: pr) w0 { s with code := s.code ++ c, stack := s.stack.take (g + 1) ++ [127] } 33 2 0 (by simp only [List.length_append]; omega) w' h
      have cp2 := fun w' h => put_of (pr := (w.heap.size, .cells #[.int .i64 op, .int .u8 127, .int .i64 m] 68) :: pr) w0 { s with code := s.code ++ c ++ [⟨33, 2, 0⟩], stack := s.stack.take (g + 1) ++ [127] } 26 0 0 (by simp only [List.length_append, List.length_singleton]; omega) w' h
      have cp3 := fun w' h => put_of (pr := (w.heap.size, .cells #[.int .i64 op, .int .u8 127, .int .i64 m] 68) :: pr) w0 { s with code := s.code ++ c ++ [⟨33, 2, 0⟩] ++ [⟨26, 0, 0⟩], stack := s.stack.take (g + 1) ++ [127] } 32 2 0 (by simp only [List.length_append, List.length_singleton]; omega) w' h
      simp only at cp1 cp2 cp3
      have hpos : (1 : Int) < ((g + 1 + 1 : Nat) : Int) - (m : Int) := by omega
      have HP := Lib.hid hP
      have HT := Lib.hid hts
      have hgs : g < s.stack.length := by omega
      clear hP hbx hts
      go_wp2_with (first
        | (go_at_call 32; refine (ch _ HP.out).mono ?_; rintro e w1 ⟨rfl, q, rfl⟩)
        | (go_at_call 17; (with_reducible refine (cp1 _ (HP.out.drewN _)).mono ?_); rintro e w2 ⟨rfl, hp2⟩; have j2 := hp2.kept; have b2 : w2.cell? ⟨w.heap.size, 1, none⟩ = some (.int .u8 127) := (by simp only at j2; simp [World.cell?, j2]))
        | (go_at_call 17; (with_reducible refine (cp2 _ hp2).mono ?_); rintro e w3 ⟨rfl, hp3⟩; have j3 := hp3.kept; have b3 : w3.cell? ⟨w.heap.size, 1, none⟩ = some (.int .u8 127) := (by simp only at j3; simp [World.cell?, j3]))
        | (go_at_call 17; (with_reducible refine (cp3 _ hp3).mono ?_); rintro e w4 ⟨rfl, hp4⟩; have j4 := hp4.kept; have b4 : w4.cell? ⟨w.heap.size, 1, none⟩ = some (.int .u8 127) := (by simp only at j4; simp [World.cell?, j4])))
      obtain ⟨cv, sv, ov, hA⟩ := hp4
      obtain ⟨d0, d1, d2, f0, f1, f2⟩ := prog_cells hA
      have hst : s.stack.take (g + 1) ++ [(127 : Int)] = (s.stack.take g ++ [s.stack[g]]) ++ [127] := by rw [HT.out]
      obtain ⟨gb, cap, rfl, hcap, hgne, xc, xf⟩ := stack_facts hA (l := s.stack.take g ++ [s.stack[g]]) (x := 127) hst
      have hl1 : (s.stack.take g ++ [s.stack[g]]).length = g + 1 := by simp; omega
      rw [hl1] at d1 hcap xc xf
      obtain ⟨xd, xe⟩ := under_top hA hst
      rw [show (s.stack.take g).length = g by simp; omega] at xd xe
      generalize s.stack[g] = y at *
      clear hp2 hp3 cp1 cp2 cp3 ch
      have hw : IntKind.i64.wrap ((g : Int) + 1 + 1 - 2) = g := by rw [IntKind.wrap_i64]; omega
      have hbs : w0.heap.size < w4.heap.size := by have := hA.size; omega
      have hgl : gb < w4.heap.size := (own_ge hA.stack gb rfl).2
      have hwl : w.heap.size < w4.heap.size := heap_lt j4
      have d1a := fun o => (World.cell?_alloc_lt w4 o (⟨w0.heap.size, 1, none⟩ : Addr) hbs).trans d1
      have xda := fun o => (World.cell?_alloc_lt w4 o (⟨gb, g, none⟩ : Addr) hgl).trans xd
      have xea : ∀ o, (w4.alloc o).frozen? ⟨gb, g, none⟩ = false := fun o => (World.frozen?_of_block (w := w4) (Below.heap_alloc _ _ _ hgl)).trans xe
      have f1a : ∀ o, (w4.alloc o).frozen? ⟨w0.heap.size, 1, none⟩ = false := fun o => (World.frozen?_of_block (w := w4) (Below.heap_alloc _ _ _ hbs)).trans f1
      have b4a := fun o => (World.cell?_alloc_lt w4 o (⟨w.heap.size, 1, none⟩ : Addr) hwl).trans b4
      have hnext : Prog w0 ((w.heap.size, .cells #[.int .i64 op, .int .u8 127, .int .i64 m] 68) :: pr) { s with code := s.code ++ (c ++ [⟨33, 2, 0⟩, ⟨26, 0, 0⟩, ⟨32, 2, 0⟩]), stack := s.stack.take g ++ [127] } (((w4.setCell ⟨gb, g, none⟩ (.int .u8 127)).setCell ⟨w0.heap.size, 1, none⟩ (.slice (some ⟨gb, 0, none⟩) (g + 1) cap)).alloc (.cells #[.int .u8 127] 5)).drew := by
        have hq := under_set hA hst 127
        rw [show (s.stack.take g).length = g by simp; omega] at hq
        have := (hq.alloc (.cells #[.int .u8 127] 5)).drew
        rw [show s.code ++ c ++ [⟨33, 2, 0⟩] ++ [⟨26, 0, 0⟩] ++ [⟨32, 2, 0⟩] = s.code ++ (c ++ [⟨33, 2, 0⟩, ⟨26, 0, 0⟩, ⟨32, 2, 0⟩]) by simp] at this
        exact ⟨_, _, _, this⟩
      clear hA
      go_wp2
      go_region
      go_wp2
      go_roundg g
      case rel => exact ⟨by omega, by omega, c ++ [⟨33, 2, 0⟩, ⟨26, 0, 0⟩, ⟨32, 2, 0⟩], by rw [List.all_append, hall]; decide +kernel, by simp; omega, Lib.hid (by rw [show k0 - g = (k0 - (g + 1)) + 1 by omega, reps_snoc, ← List.append_assoc, ← HCR.out]), hnext⟩
      case measure => omega
    · obtain rfl : gk = m := by omega
      obtain ⟨cv, sv, ov, hA⟩ := hP
      obtain ⟨c0', c1, c2, f0, f1, f2⟩ := prog_cells hA
      have hS := hA.stack
      simp only [hlen] at hS
      have hl0 : ((gk + 1 : Nat) : Int) - (gk : Int) = 1 := by omega
      rw [hl0] at ch
      have HP := Lib.hid (show Prog w0 ((w.heap.size, .cells #[.int .i64 op, .int .u8 127, .int .i64 gk] 68) :: pr) { s with code := s.code ++ c, stack := s.stack.take gk ++ [127] } wr from ⟨cv, sv, ov, hA⟩)
      obtain ⟨gb, cap, rfl, hb, hg, hcap, _, _⟩ := own_block hS
      have HF : Hid (∀ q, Prog w0 pr { s with code := s.code ++ c, stack := s.stack.take gk } ((wr.drewN q).setCell ⟨w0.heap.size, 1, none⟩ (.slice (some ⟨gb, 0, none⟩) gk cap)).drew) := Lib.hid fun q => ⟨cv, _, ov, by
        have hq := hA.drewN q
        have hT := own_take (w := wr.drewN q) (hS : (wr.drewN q).ownsRow _ _ _ _ _ _) gk (by omega)
        rw [stack_take, List.take_left' (by rw [List.length_take]; omega)] at hT
        have hlk : (s.stack.take gk).length = gk := by rw [List.length_take]; omega
        have := ((hq.setStack (sv' := .slice (some ⟨gb, 0, none⟩) gk cap) (grown_refl _ _) (s.stack.take gk) (by rw [hlk]; exact hT) (.inl rfl)).drew).forget
        exact this⟩
      clear hA hS hbx
      go_wp2_with (go_at_call 32; refine (ch _ HP.out).mono ?_; rintro e w1 ⟨rfl, q, rfl⟩)
      go_region
      go_wp2
      go_end0
      exact ⟨rfl, c, hall, by omega, by unfold levelF; rw [if_neg (by decide), HF0.out]; simp only [List.length_append, List.length_take, List.length_singleton]; rw [show min k0 s.stack.length + 1 - (gk + 1) = k0 - gk by have := HN0.out; omega, HCR.out]; simp, HF.out q⟩
end Go.Proofs.YtomffpibdinkaaaGreatDoor
namespace Go.Proofs.YtomffpibdinkaaaGreatDoor
set_option maxRecDepth 100000
set_option maxHeartbeats 16000000
open Go.RowKit
variable {pr : List (Nat × Obj)}
theorem level_of (w0 : World) (s : PS) (op r : Int) (m : Nat) (hr : r = 64 ∨ r = 126 ∨ r = 127) (hh : topHeight s = m) (hm : m ≤ s.stack.length) (hc : s.code.length + 3 * s.stack.length ≤ 900000) (hop : s.opens.length ≤ 900000) (w : World) (h : Prog w0 pr s w) :
    Calls Tryz.prog 16 #[.pointer (some ⟨w0.heap.size, 0, none⟩), .agg #[.int .i64 op, .int .u8 r, .int .i64 m]] w fun e w' => e = .returned (.tuple #[]) ∧ ∃ c : List PI, c.all okPI = true ∧ c.length ≤ 1 + 3 * (s.stack.length - m) ∧ levelF s r m = { s with code := s.code ++ c, stack := s.stack.take m } ∧ Prog w0 pr { s with code := s.code ++ c, stack := s.stack.take m } w' := by
  rcases hr with rfl | rfl | rfl
  · refine (level_none w0 s op m hh hm (by omega) hop w h).mono ?_
    rintro e w' ⟨he, c, h1, h2, h2f, h3⟩
    exact ⟨he, c, h1, by omega, h2f, h3⟩
  · exact level_126 w0 s op m hh hm hc hop w h
  · exact level_127 w0 s op m hh hm hc hop w h
theorem own_take3 {w : World} {base g cap : Nat} {e : TypeId} {m : Nat} {xs : List Value} (h : w.ownsRow base e 3 (.slice (some ⟨g, 0, none⟩) m cap) m xs) (n : Nat) (hn : n ≤ m) : w.ownsRow base e 3 (.slice (some ⟨g, 0, none⟩) n cap) n (xs.take (n * 3)) := by
  have hl : xs.length = m * 3 := by have := h.1; simpa using this
  rcases h.2 with ⟨h0, _⟩ | ⟨g', cap', cur, he, hb, hg, hnc, hcm, hcs, ht⟩
  · cases h0
  · cases he
    refine ⟨by simp; omega, .inr ⟨g, cap, cur, rfl, hb, hg, by omega, hcm, hcs, ?_⟩⟩
    have := congrArg (List.take (n * 3)) ht
    rw [List.take_take, show min (n * 3) (m * 3) = n * 3 by omega] at this
    exact this
theorem open_take (l : List PO) (o : PO) : (openCells (l ++ [o])).take (l.length * 3) = openCells l := by
  rw [openCells_snoc, List.take_left' (openCells_len l)]
theorem kept_cells {w0 w : World} {b : Nat} {x y z : Value} {t : TypeId} {s : PS} (h : Prog w0 ((b, .cells #[x, y, z] t) :: pr) s w) :
    w.cell? ⟨b, 0, none⟩ = some x ∧ w.cell? ⟨b, 1, none⟩ = some y ∧ w.cell? ⟨b, 2, none⟩ = some z := by
  have hk := h.kept
  simp only at hk
  refine ⟨?_, ?_, ?_⟩ <;> simp [World.cell?, hk]
theorem shut_of (w0 : World) (s : PS) (l : List PO) (o : PO) (hs : s.opens = l ++ [o]) (hr : o.result = 64 ∨ o.result = 126 ∨ o.result = 127) (hm : o.height ≤ s.stack.length) (hc : s.code.length + 3 * s.stack.length ≤ 800000) (hop : s.opens.length ≤ 900000) (w : World) (h : Prog w0 pr s w) :
    Calls Tryz.prog 15 #[.pointer (some ⟨w0.heap.size, 0, none⟩)] w fun e w' => e = .returned (.tuple #[]) ∧ ∃ c : List PI, c.all okPI = true ∧ c.length ≤ 1 + 3 * (s.stack.length - o.height) ∧ shutF s = { s with code := s.code ++ c ++ [⟨11, 0, 0⟩], stack := s.stack.take o.height ++ (if o.result = 64 then [] else [o.result]), opens := l } ∧ Prog w0 pr { s with code := s.code ++ c ++ [⟨11, 0, 0⟩], stack := s.stack.take o.height ++ (if o.result = 64 then [] else [o.result]), opens := l } w' := by
  obtain ⟨op, r, m⟩ := o
  simp only at hr hm ⊢
  suffices H : ∀ K : World → Prop, (∀ c : List PI, c.all okPI = true → c.length ≤ 1 + 3 * (s.stack.length - m) → levelF s r m = { s with code := s.code ++ c, stack := s.stack.take m } → ∀ w', Prog w0 pr { s with code := s.code ++ c ++ [⟨11, 0, 0⟩], stack := s.stack.take m ++ (if r = 64 then [] else [r]), opens := l } w' → K w') →
      Calls Tryz.prog 15 #[.pointer (some ⟨w0.heap.size, 0, none⟩)] w fun e w' => e = .returned (.tuple #[]) ∧ K w' from
    H _ fun c h1 h2 hlf w' h3 => ⟨c, h1, h2, by unfold shutF; rw [hs]; simp only [List.getLast?_append, List.getLast?_singleton, Option.some_or, List.dropLast_concat]; rw [hlf], h3⟩
  intro K hK
  have HK := Lib.hid hK
  clear hK
  have hth : topHeight s = m := by unfold topHeight; rw [hs]; simp
  have hlen : s.opens.length = l.length + 1 := by rw [hs]; simp
  have cl := fun w' h => level_of (pr := (w.heap.size, .cells #[.int .i64 op, .int .u8 r, .int .i64 m] 68) :: pr) w0 s op r m hr hth hm (by omega) hop w' h
  obtain ⟨cv, sv, ov, h⟩ := h
  have h0 : Prog w0 ((w.heap.size, .cells #[.int .i64 op, .int .u8 r, .int .i64 m] 68) :: pr) s (w.alloc (.cells #[.int .i64 op, .int .u8 r, .int .i64 m] 68)).drew := ⟨cv, sv, ov, (h.allocKept _).drew⟩
  obtain ⟨c0, c1, c2, f0, f1, f2⟩ := prog_cells h
  have hO := h.opens
  rw [hlen] at hO
  rw [hs] at hO
  obtain ⟨g, oc, rfl, hb, hg, hcap, hcell, _⟩ := own_block hO
  have x0 : w.cell? ⟨g, l.length * 3, none⟩ = some (.int .i64 op) := hcell _ _ (openCells_last l ⟨op, r, m⟩ 0 (by omega))
  have x1 : w.cell? ⟨g, l.length * 3 + 1, none⟩ = some (.int .u8 r) := hcell _ _ (by rw [openCells_last l _ 1 (by omega)]; rfl)
  have x2 : w.cell? ⟨g, l.length * 3 + 2, none⟩ = some (.int .i64 m) := hcell _ _ (by rw [openCells_last l _ 2 (by omega)]; rfl)
  have hn1 : l.length ≤ 900000 := by omega
  obtain ⟨n, hn⟩ : ∃ n, l.length = n := ⟨_, rfl⟩
  rw [hn] at c2 x0 x1 x2 hn1 hcap
  have hsz := h.size
  have k2 := fun o => (World.cell?_alloc_lt w o (⟨w0.heap.size, 2, none⟩ : Addr) (by show w0.heap.size < _; omega)).trans c2
  have y0 := fun o => (World.cell?_alloc_lt w o (⟨g, n * 3, none⟩ : Addr) (by show g < _; omega)).trans x0
  have y1 := fun o => (World.cell?_alloc_lt w o (⟨g, n * 3 + 1, none⟩ : Addr) (by show g < _; omega)).trans x1
  have y2 := fun o => (World.cell?_alloc_lt w o (⟨g, n * 3 + 2, none⟩ : Addr) (by show g < _; omega)).trans x2
  have H0 := Lib.hid h0
  have HN := Lib.hid hn
  have HS := Lib.hid hs
  clear h h0 hO hcell hn hlen hs
  go_enter Tryz.func15, Tryz.ntmps15
  go_wp2
  go_region
  have hc1 : ∀ c : List PI, c.length ≤ 1 + 3 * (s.stack.length - m) → (s.code ++ c).length ≤ 1000000 := fun c h => by rw [List.length_append]; omega
  go_wp2_with (first
    | (go_at_call 16; refine (cl _ H0.out).mono ?_; rintro e w1 ⟨rfl, c, hall, hcn, hlf, hp⟩; have HLF := Lib.hid hlf; clear hlf; have cp := put_of w0 _ 11 0 0 (hc1 c hcn) _ hp)
    | (go_at_call 17; refine cp.mono ?_; rintro e w2 ⟨rfl, hp2⟩))
  obtain ⟨cv', sv', ov', hA⟩ := hp2
  obtain ⟨d0, d1, d2, e0, e1, e2⟩ := prog_cells hA
  have hO := hA.opens
  rw [HS.out, List.length_append, List.length_singleton] at hO
  obtain ⟨g', oc', rfl, hb', hg', hcap', _, _⟩ := own_block hO
  have hT := own_take3 hO l.length (by omega)
  rw [open_take] at hT
  have h2 := (hA.setOpens (grown_refl _ _) l hT (.inl rfl)).drew
  rw [HN.out] at d2 hcap' h2
  obtain ⟨u0, u1, u2⟩ := kept_cells ⟨_, _, _, h2⟩
  have cq := fun hl => push_of (pr := (w.heap.size, .cells #[.int .i64 op, .int .u8 r, .int .i64 m] 68) :: pr) w0 _ r hl _ ⟨_, _, _, h2⟩
  simp only at cq
  replace cq := cq (by rw [List.length_take]; omega)
  have H2 := Lib.hid h2
  clear hA hO hT h2 hp cp cl
  by_cases h64 : r = 64
  · have HF : Hid (K (w2.setCell ⟨w0.heap.size, 2, none⟩ (.slice (some ⟨g', 0, none⟩) n oc')).drew) := Lib.hid (HK.out c hall hcn HLF.out _ (by rw [if_pos h64, List.append_nil]; exact Prog.forget ⟨_, _, _, H2.out⟩))
    subst h64
    go_region
    go_wp2
    go_end0
    exact ⟨rfl, HF.out⟩
  · have hne : (r != 64) = true := by simp [h64]
    have HG : Hid (∀ w', Prog w0 ((w.heap.size, .cells #[.int .i64 op, .int .u8 r, .int .i64 m] 68) :: pr) { s with code := s.code ++ c ++ [⟨11, 0, 0⟩], stack := s.stack.take m ++ [r], opens := l } w' → K w') := Lib.hid fun w' h => HK.out c hall hcn HLF.out _ (by rw [if_neg h64]; exact h.forget)
    go_region
    go_wp2_with (go_at_call 27; refine cq.mono ?_; rintro e w3 ⟨rfl, hp3⟩)
    go_end0
    exact ⟨rfl, HG.out _ hp3⟩
end Go.Proofs.YtomffpibdinkaaaGreatDoor
namespace Go.Proofs.YtomffpibdinkaaaGreatDoor
set_option maxRecDepth 100000
set_option maxHeartbeats 16000000
open Go.RowKit
variable {pr : List (Nat × Obj)}
theorem openCells_at (l : List PO) (i : Nat) (o : PO) (h : l[i]? = some o) (j : Nat) (hj : j < 3) : (openCells l)[i * 3 + j]? = o.cells[j]? := by
  induction l generalizing i with
  | nil => simp at h
  | cons x l ih =>
    have hx : x.cells.length = 3 := rfl
    have e : openCells (x :: l) = x.cells ++ openCells l := rfl
    cases i with
    | zero =>
      simp only [List.getElem?_cons_zero, Option.some.injEq] at h
      subst h
      rw [e, List.getElem?_append_left (by omega), show 0 * 3 + j = j by omega]
    | succ i =>
      rw [List.getElem?_cons_succ] at h
      rw [e, List.getElem?_append_right (by omega), hx, show (i + 1) * 3 + j - 3 = i * 3 + j by omega]
      exact ih i h
theorem jump_ok (q : Nat) (h : q < 256) : okPI ⟨13, q, 0⟩ = true := by
  have : ∀ q : Fin 256, okPI ⟨13, (q.val : Int), 0⟩ = true := by decide +kernel
  exact this ⟨q, h⟩
theorem jumps_of (w0 : World) (s : PS) (n m : Nat) (hn : n < 256) (hh : topHeight s = m) (hm : m ≤ s.stack.length) (hc : s.code.length + 3 * s.stack.length ≤ 800000) (hop : s.opens.length ≤ 900000) (w : World) (h : Prog w0 pr s w) :
    Calls Tryz.prog 31 #[.pointer (some ⟨w0.heap.size, 0, none⟩), .int .i64 n] w fun e w' => e = .returned (.tuple #[]) ∧ ∃ (c : List PI) (k : Nat), c.all okPI = true ∧ c.length ≤ 2 ∧ m ≤ k ∧ k ≤ s.stack.length ∧ jumpsF s n = { s with code := s.code ++ c, stack := s.stack.take k } ∧ Prog w0 pr { s with code := s.code ++ c, stack := s.stack.take k } w' := by
  suffices H : ∀ K : World → Prop, (∀ (c : List PI) (k : Nat), c.all okPI = true → c.length ≤ 2 → m ≤ k → k ≤ s.stack.length → jumpsF s n = { s with code := s.code ++ c, stack := s.stack.take k } → ∀ w', Prog w0 pr { s with code := s.code ++ c, stack := s.stack.take k } w' → K w') →
      Calls Tryz.prog 31 #[.pointer (some ⟨w0.heap.size, 0, none⟩), .int .i64 n] w fun e w' => e = .returned (.tuple #[]) ∧ K w' from
    H _ fun c k h1 h2 h3 h4 hj w' h5 => ⟨c, k, h1, h2, h3, h4, hj, h5⟩
  intro K hK
  have HK := Lib.hid hK
  have HS : Hid (jumpsF s n = s → ∀ w', Prog w0 pr s w' → K w') := Lib.hid fun hj w' h => hK [] s.stack.length rfl (by simp) hm (by omega) (by rw [hj, List.append_nil, List.take_of_length_le (by omega)]) w' (by rw [List.append_nil, List.take_of_length_le (by omega)]; exact h)
  clear hK
  by_cases h0 : s.opens = []
  · have HE := Lib.hid (HS.out (by unfold jumpsF; rw [h0]; rfl) w h)
    obtain ⟨cv, sv, ov, h⟩ := h
    obtain ⟨c0, c1, c2, f0, f1, f2⟩ := prog_cells h
    have hO := h.opens
    rw [h0] at hO
    obtain ⟨op, oc, rfl⟩ := own_any hO
    simp only [List.length_nil] at c2
    clear h hO HS HK
    go_enter Tryz.func31, Tryz.ntmps31
    go_wp2
    refine bodyPost_ret (results_none rfl _ _ _) rfl ?_
    exact ⟨rfl, HE.out⟩
  · obtain ⟨L, hL⟩ : ∃ L, s.opens.length = L + 1 := by
      cases e : s.opens with
      | nil => exact absurd e h0
      | cons x l => exact ⟨l.length, rfl⟩
    obtain ⟨q, hq⟩ : ∃ q, n % (L + 1) = q := ⟨_, rfl⟩
    have hqL : q < L + 1 := hq ▸ Nat.mod_lt _ (by omega)
    have hqn : q < 256 := by have := Nat.mod_le n (L + 1); omega
    obtain ⟨i, hi⟩ : ∃ i, L = i + q := ⟨L - q, by omega⟩
    obtain ⟨⟨bo, br, bh⟩, hb⟩ : ∃ o, s.opens[i]? = some o := ⟨_, List.getElem?_eq_getElem (by omega)⟩
    have hjf : jumpsF s n = if br ≠ 64 ∧ bo ≠ 3 then s else takeF (putF (wantF s 127) 13 (q : Nat) 0) := by
      unfold jumpsF
      rw [hL, hq, show L + 1 - 1 - q = i by omega, hb]
    have HJF := Lib.hid hjf
    clear hjf
    obtain ⟨cv, sv, ov, h⟩ := h
    have hA : ∀ o, Prog w0 pr s (w.alloc o).drew := fun o => ⟨cv, sv, ov, (h.alloc o).drew⟩
    obtain ⟨c0, c1, c2, f0, f1, f2⟩ := prog_cells h
    have hO := h.opens
    rw [hL] at hO hop
    obtain ⟨g, oc, rfl, hgb, hg, hcap, hcell, _⟩ := own_block hO
    have hsz := h.size
    have k2 := fun o => (World.cell?_alloc_lt w o (⟨w0.heap.size, 2, none⟩ : Addr) (by show w0.heap.size < _; omega)).trans c2
    have x0 : w.cell? ⟨g, i * 3, none⟩ = some (.int .i64 bo) := hcell _ _ (openCells_at _ i _ hb 0 (by omega))
    have x1 : w.cell? ⟨g, i * 3 + 1, none⟩ = some (.int .u8 br) := hcell _ _ (openCells_at _ i _ hb 1 (by omega))
    have x2 : w.cell? ⟨g, i * 3 + 2, none⟩ = some (.int .i64 bh) := hcell _ _ (openCells_at _ i _ hb 2 (by omega))
    have y0 := fun o => (World.cell?_alloc_lt w o (⟨g, i * 3, none⟩ : Addr) (by show g < _; omega)).trans x0
    have y1 := fun o => (World.cell?_alloc_lt w o (⟨g, i * 3 + 1, none⟩ : Addr) (by show g < _; omega)).trans x1
    have y2 := fun o => (World.cell?_alloc_lt w o (⟨g, i * 3 + 2, none⟩ : Addr) (by show g < _; omega)).trans x2
    have hrem : ((n : Nat) : Int).tmod ((L : Int) + 1) = (q : Int) := by
      rw [← hq, show ((L : Int) + 1) = ((L + 1 : Nat) : Int) by omega, ← Int.ofNat_tmod]
    have hlen0 : (((L : Int) + 1) == 0) = false := by rw [beq_eq_false_iff_ne]; omega
    have hlen1 : (((L : Int) + 1) = 0) = False := by simp; omega
    have hidx : (L : Int) + 1 - 1 - (q : Int) = (i : Int) := by omega
    have hidx' : (L : Int) - (q : Int) = (i : Int) := by omega
    have cw := fun o => want_of w0 s 127 (by omega) m hh hm (by omega) (by omega) (by omega) _ (hA o)
    have HL := Lib.hid hL
    have Hi := Lib.hid hi
    have hiL : i ≤ L := by omega
    have HA := Lib.hid hA
    clear h hO hcell h0 hL hi hq hA hb
    go_enter Tryz.func31, Tryz.ntmps31
    go_wp2
    have hc1 : ∀ (c : List PI) (k : Nat), c.length ≤ 1 → (s.code ++ c).length ≤ 1000000 := fun c _ h => by rw [List.length_append]; omega
    have hk1 : ∀ k, k ≤ s.stack.length → (s.stack.take k ++ [(127 : Int)]).length ≤ 1000000 := fun k hk => by rw [List.length_append, List.length_take, List.length_singleton]; omega
    by_cases h64 : br = 64
    · have hb64 : (br != 64) = false := by simp [h64]
      go_region
      go_wp2_with (first
        | (go_at_call 28; refine (cw _).mono ?_; rintro e w1 ⟨rfl, c, k, hall, hcn, hmk, hkn, _, hwf, hp⟩; have HWF := Lib.hid hwf; clear hwf; have cp := put_of w0 _ 13 q 0 (hc1 c k hcn) _ hp)
        | (go_at_call 17; refine cp.mono ?_; rintro e w2 ⟨rfl, hp2⟩; have ct := take_of w0 _ (s.stack.take k) 127 rfl (hk1 k hkn) _ hp2)
        | (go_at_call 29; refine ct.mono ?_; rintro e w3 ⟨rfl, hp3⟩))
      go_end0
      exact ⟨rfl, HK.out (c ++ [⟨13, q, 0⟩]) k (by rw [List.all_append, hall]; simp [jump_ok q hqn]) (by rw [List.length_append, List.length_singleton]; omega) hmk hkn (by rw [HJF.out, if_neg (fun e => e.1 h64), HWF.out]; unfold takeF putF; simp only [List.dropLast_concat, List.append_assoc]) _ (by rw [← List.append_assoc]; exact hp3)⟩
    · have hb64 : (br != 64) = true := by simp [h64]
      by_cases h3 : bo = 3
      · have hb3 : (bo != 3) = false := by simp [h3]
        go_region
        go_wp2_with (first
          | (go_at_call 28; refine (cw _).mono ?_; rintro e w1 ⟨rfl, c, k, hall, hcn, hmk, hkn, _, hwf, hp⟩; have HWF := Lib.hid hwf; clear hwf; have cp := put_of w0 _ 13 q 0 (hc1 c k hcn) _ hp)
          | (go_at_call 17; refine cp.mono ?_; rintro e w2 ⟨rfl, hp2⟩; have ct := take_of w0 _ (s.stack.take k) 127 rfl (hk1 k hkn) _ hp2)
          | (go_at_call 29; refine ct.mono ?_; rintro e w3 ⟨rfl, hp3⟩))
        go_end0
        exact ⟨rfl, HK.out (c ++ [⟨13, q, 0⟩]) k (by rw [List.all_append, hall]; simp [jump_ok q hqn]) (by rw [List.length_append, List.length_singleton]; omega) hmk hkn (by rw [HJF.out, if_neg (fun e => e.2 h3), HWF.out]; unfold takeF putF; simp only [List.dropLast_concat, List.append_assoc]) _ (by rw [← List.append_assoc]; exact hp3)⟩
      · have hb3 : (bo != 3) = true := by simp [h3]
        have HE := Lib.hid (HS.out (by rw [HJF.out, if_pos ⟨h64, h3⟩]) _ (HA.out (.cells #[.int .i64 bo, .int .u8 br, .int .i64 bh] 68)))
        go_region
        go_wp2
        refine bodyPost_ret (results_none rfl _ _ _) rfl ?_
        exact ⟨rfl, HE.out⟩
end Go.Proofs.YtomffpibdinkaaaGreatDoor
