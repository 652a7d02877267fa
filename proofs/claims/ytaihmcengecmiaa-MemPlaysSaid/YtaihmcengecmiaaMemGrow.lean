/-
  Package mem: pages are added; a memory grows; a new one. Contracts that the proofs call; no statement is proved here.
-/
import Derived.Test.YtaihmcengecmiaaMemAdd
namespace Go.Proofs.Ytaihmcengecmiaa
open Go.RowKit Go.Maps
set_option linter.unusedVariables false
set_option linter.unusedSimpArgs false
variable {O O' : Nat → Prop} {B b n most : Nat} {f : Nat → UInt8} {v : Value} {mb : Nat} {ps : List Nat} {w w' w'' : World}

theorem own_any {w : World} {base : Nat} {e : TypeId} {size : Nat} {v : Value} {n : Nat} {xs : List Value} (h : w.ownsRow base e size v n xs) : ∃ a cap, v = .slice a n cap := by
  rcases h.2 with ⟨rfl, rfl⟩ | ⟨g, cap, cur, rfl, _⟩
  · exact ⟨_, _, rfl⟩
  · exact ⟨_, _, rfl⟩
set_option maxRecDepth 100000 in
set_option maxHeartbeats 2000000 in
theorem add_is (h : MemAt O B b n most f w) (hB : B ≤ w.heap.size) (k : Nat) (hk : n + k ≤ most) :
    Calls Try.prog 20 #[.pointer (some ⟨b, 0, none⟩), .int .i64 k] w fun e w' => e = .returned (.tuple #[]) ∧ (∃ O', MemAt O' B b (n + k) most f w' ∧ Kept O w w' ∧ ∀ x, O' x → O x ∨ w.heap.size ≤ x) := by
  obtain ⟨i0, hi, hz0, hz1, hz2⟩ := info_parts page_info
  have hzp := zeroValue_page
  have htop : most ≤ 256 := by
    obtain ⟨v, mb, ps, h⟩ := h
    exact h.top
  go_enter Try.func20, Try.ntmps20
  go_wp2
  go_loopw [5] (fun i wr => ∃ j : Nat, j ≤ k ∧ i = .int .i64 j ∧ ∃ O', MemAt O' B b (n + j) most f wr ∧ Kept O w wr ∧ ∀ x, O' x → O x ∨ w.heap.size ≤ x) (fun i _ => (k - (intOf i).toNat))
  case atStart => exact ⟨0, Nat.zero_le _, rfl, O, h, Kept.refl _ _, fun x hx => .inl hx⟩
  case round =>
    obtain ⟨j, hj, rfl, O', ⟨v, mb, ps, hr⟩, hkr, hO'⟩ := hrel
    by_cases hlt : j < k
    · obtain ⟨c0, c1, c2⟩ := hr.cells
      have hbl := hr.blt
      have k0 := fun o => (World.cell?_alloc_lt wr o (⟨b, 0, none⟩ : Addr) hbl).trans c0
      have hBw : B ≤ wr.heap.size := Nat.le_trans hB hkr.size
      have hlen := hr.len
      have HL := Lib.hid hlen
      clear hlen
      have hrow : ((wr.alloc (.cells pageZ 74)).alloc (.cells #[pgV wr.heap.size] 72)).ownsRow B 72 1 v (n + j) (ps.map pgV) := (hr.row.alloc _).alloc _
      have hs1 : (wr.alloc (.cells pageZ 74)).heap.size = wr.heap.size + 1 := by simp
      have hnews := cells_new (wr.alloc (.cells pageZ 74)) [pgV wr.heap.size] 72
      rw [hs1] at hnews
      clear hs1
      have hpush := @MemIs.push O' B b (n + j) most f v mb ps wr hr (by omega) hBw
      go_wp2_with (at_builtin; refine wpList_append_own_at _ rfl (.tmp 11) (.tmp 13) 53 rfl B 72 i0 (.pointer none) 1 8 Try.underlying53 hi hz0 hz1 hz2 rfl (by decide) v (n + j) (ps.map pgV) rfl hrow ⟨wr.heap.size + 1, 0, none⟩ 1 1 [pgV wr.heap.size] rfl rfl hnews (by intro u hu; simp at hu; rw [hu]; rfl) (by unfold maxLen; omega) (by omega) (by simp; omega) ?_)
      intro v' w3 hown hgrow hnil hat
      obtain ⟨hm, hkk⟩ := hpush (((Below.refl _ _).alloc (Nat.le_refl _) _).alloc (by simp) _) (by rw [Below.heap_alloc _ _ _ (by simp)]; exact heap_alloc_new _ _) hgrow hown (by simpa using hat)
      obtain ⟨va, vc, rfl⟩ := own_any hown
      have hb3 : w3.heap[b]? = wr.heap[b]? := by
        rw [hgrow.block b (by simp; omega) (fun e => ?_), Below.heap_alloc _ _ _ (by simp; omega), Below.heap_alloc _ _ _ hbl]
        exact hr.row_ne e.symm
      have d0 : w3.cell? ⟨b, 0, none⟩ = some v := (World.cell?_of_block (w := wr) hb3).trans c0
      have f0 : w3.frozen? ⟨b, 0, none⟩ = false := by rw [World.frozen?_of_block (w := wr) hb3]; simp [World.frozen?, hr.box]
      have hox : ∀ x, More O' wr.heap.size (.slice va (n + j + 1) vc) x → O x ∨ w.heap.size ≤ x := fun x hx => by
        have hsz := hkr.size
        rcases hx with e | e | e
        · exact hO' x e
        · exact .inr (by omega)
        · rcases hat with e2 | e2
          · exact hO' x (hr.ov x (e2.symm.trans e))
          · have e3 := Option.some.inj (e.symm.trans e2)
            exact .inr (by omega)
      clear hpush hnews hrow k0 c0 c1 c2 hgrow hnil hat hzp
      go_wp2
      go_roundw
      case rel => exact ⟨j + 1, by omega, by go_num, _, ⟨_, _, _, hm⟩, hkr.trans hkk (fun x hx _ => by rcases hO' x hx with e | e; exact e; omega), hox⟩
      case measure => simp [intOf]; omega
    · go_wp2
      go_end0
      have e : j = k := by omega
      subst e
      exact ⟨rfl, O', ⟨v, mb, ps, hr⟩, hkr, hO'⟩
set_option maxRecDepth 100000 in
set_option maxHeartbeats 2000000 in
/-- It grows, if it may: what stood there stays, all else is 0. -/
theorem grow_yes (h : MemAt O B b n most f w) (hB : B ≤ w.heap.size) (k : Nat) (hk : n + k ≤ most) :
    Calls Try.prog 16 #[.pointer (some ⟨b, 0, none⟩), .int .u32 k] w fun e w' => e = .returned (.int .i32 n) ∧ (∃ O', MemAt O' B b (n + k) most f w' ∧ Kept O w w' ∧ ∀ x, O' x → O x ∨ w.heap.size ≤ x) := by
  have hadd := add_is h hB k hk
  obtain ⟨v, mb, ps, h⟩ := h
  obtain ⟨c0, c1, c2⟩ := h.cells
  obtain ⟨a, cap, rfl, hcap, _⟩ := h.slice
  have hle := h.le
  have htop := h.top
  clear h
  go_enter Try.func16, Try.ntmps16
  go_wp2_with (go_at_call 20; refine hadd.mono ?_; rintro e w' ⟨rfl, hx⟩)
  go_ret
  exact ⟨rfl, hx⟩
set_option maxRecDepth 100000 in
set_option maxHeartbeats 2000000 in
theorem grow_no (h : MemAt O B b n most f w) (k : Nat) (hk4 : k < 4294967296) (hk : most < n + k) :
    Calls Try.prog 16 #[.pointer (some ⟨b, 0, none⟩), .int .u32 k] w fun e w' => e = .returned (.int .i32 (-1)) ∧ w = w' := by
  obtain ⟨v, mb, ps, h⟩ := h
  obtain ⟨c0, c1, c2⟩ := h.cells
  obtain ⟨a, cap, rfl, hcap, _⟩ := h.slice
  have hle := h.le
  have htop := h.top
  clear h
  go_enter Try.func16, Try.ntmps16
  go_wp2
  go_ret
  exact ⟨rfl, rfl⟩
set_option maxRecDepth 100000 in
set_option maxHeartbeats 2000000 in
theorem new_arg (least m : Int) (h1 : -9223372036854775808 ≤ least ∧ least ≤ 9223372036854775807) (h2 : -9223372036854775808 ≤ m ∧ m ≤ 9223372036854775807) (hno : least < 0 ∨ m < -1 ∨ m ≠ -1 ∧ m < least) (w : World) :
    Calls Try.prog 9 #[.int .i64 least, .int .i64 m] w fun e w' => e = .returned (.tuple #[.pointer none, .int .i64 1]) ∧ w = w' := by
  obtain ⟨p1, p2⟩ := h1
  obtain ⟨p3, p4⟩ := h2
  by_cases g1 : least < 0
  · clear hno
    go_enter Try.func9, Try.ntmps9
    go_wp2
    go_ret2
    exact ⟨rfl, rfl⟩
  by_cases g2 : m < -1
  · clear hno
    go_enter Try.func9, Try.ntmps9
    go_wp2
    go_ret2
    exact ⟨rfl, rfl⟩
  have g3 : ¬ m = -1 := by omega
  have g4 : m < least := by omega
  clear hno
  go_enter Try.func9, Try.ntmps9
  go_wp2
  go_ret2
  exact ⟨rfl, rfl⟩
set_option maxRecDepth 100000 in
set_option maxHeartbeats 2000000 in
theorem new_room (least m : Int) (h1 : -9223372036854775808 ≤ least ∧ least ≤ 9223372036854775807) (h2 : -9223372036854775808 ≤ m ∧ m ≤ 9223372036854775807) (g1 : 0 ≤ least) (g2 : m = -1 ∨ 0 ≤ m ∧ least ≤ m) (g3 : 256 < least) (w : World) :
    Calls Try.prog 9 #[.int .i64 least, .int .i64 m] w fun e w' => e = .returned (.tuple #[.pointer none, .int .i64 12]) ∧ w = w' := by
  obtain ⟨p1, p2⟩ := h1
  obtain ⟨p3, p4⟩ := h2
  rcases g2 with g2 | ⟨g2, g4⟩
  · subst g2
    go_enter Try.func9, Try.ntmps9
    go_wp2
    go_ret2
    exact ⟨rfl, rfl⟩
  · go_enter Try.func9, Try.ntmps9
    go_wp2
    go_ret2
    exact ⟨rfl, rfl⟩
/-- How many pages there may be. -/
def topOf (m : Int) : Nat := if m = -1 ∨ 256 < m then 256 else m.toNat
set_option maxRecDepth 100000 in
set_option maxHeartbeats 2000000 in
theorem new_is (least : Nat) (m : Int) (h2 : -9223372036854775808 ≤ m ∧ m ≤ 9223372036854775807) (g2 : m = -1 ∨ 0 ≤ m ∧ (least : Int) ≤ m) (g3 : least ≤ 256) (w : World) :
    Calls Try.prog 9 #[.int .i64 least, .int .i64 m] w fun e w' => ∃ b O, e = .returned (.tuple #[.pointer (some ⟨b, 0, none⟩), .int .i64 0]) ∧ MemAt O w.heap.size b least (topOf m) (fun _ => 0) w' ∧ Below w.heap.size w w' := by
  have htop : topOf m ≤ 256 ∧ least ≤ topOf m := by unfold topOf; split <;> omega
  have hs := sizes_is w
  have hb : ∀ w1, Sizes w1 w.heap.size → Below w.heap.size w w1 → w1.heap.size = w.heap.size + 1 →
      MemAt (fun k => k = w.heap.size ∨ k = w.heap.size + 1) w.heap.size (w.heap.size + 1) 0 (topOf m) (fun _ => 0) (w1.alloc (.cells #[.slice none 0 0, .int .i64 (topOf m : Int), .map (some w.heap.size)] 55)) := fun w1 hz h1 hsz => by
    have hbl := hz.same (w' := w1.alloc (.cells #[.slice none 0 0, .int .i64 (topOf m : Int), .map (some w.heap.size)] 55)) (Below.heap_alloc _ _ _ (by omega))
    refine ⟨.slice none 0 0, w.heap.size, [], ⟨by rw [← hsz]; exact heap_alloc_new _ _, ⟨rfl, .inl ⟨rfl, rfl⟩⟩, hbl, fun k p hp => by simp at hp, fun k j p hp => by simp at hp, Nat.zero_le _, htop.1, fun _ _ => rfl, .inr rfl, .inl rfl, fun p hp => by simp at hp, (fun g hg => by cases hg), fun k hk => ?_⟩⟩
    have : (w1.alloc (.cells #[.slice none 0 0, .int .i64 (topOf m : Int), .map (some w.heap.size)] 55)).heap.size = w1.heap.size + 1 := by simp
    rcases hk with rfl | rfl <;> omega
  have hfin : ∀ w1 w2, Below w.heap.size w w1 → w1.heap.size = w.heap.size + 1 → (∃ O', MemAt O' w.heap.size (w.heap.size + 1) (0 + least) (topOf m) (fun _ => 0) w2 ∧ Kept (fun k => k = w.heap.size ∨ k = w.heap.size + 1) (w1.alloc (.cells #[.slice none 0 0, .int .i64 (topOf m : Int), .map (some w.heap.size)] 55)) w2 ∧ ∀ x, O' x → (x = w.heap.size ∨ x = w.heap.size + 1) ∨ (w1.alloc (.cells #[.slice none 0 0, .int .i64 (topOf m : Int), .map (some w.heap.size)] 55)).heap.size ≤ x) →
      ∃ b O, (Ending.returned (.tuple #[.pointer (some ⟨w.heap.size + 1, 0, none⟩), .int .i64 0])) = Ending.returned (.tuple #[.pointer (some ⟨b, 0, none⟩), .int .i64 0]) ∧ MemAt O w.heap.size b least (topOf m) (fun _ => 0) w2 ∧ Below w.heap.size w w2 := fun w1 w2 h1 hsz ⟨O', hm, hk, hO⟩ => by
    rw [Nat.zero_add] at hm
    exact ⟨_, O', rfl, hm, (h1.alloc h1.size _).trans (hk.below (fun k hk => by omega) (by simp; omega))⟩
  have hadd : ∀ w1, Sizes w1 w.heap.size → Below w.heap.size w w1 → w1.heap.size = w.heap.size + 1 → _ := fun w1 hz h1 hsz => add_is (hb w1 hz h1 hsz) (by simp; omega) least (by omega)
  clear hb
  have hcase : (m = -1 ∧ (topOf m : Int) = 256) ∨ (256 < m ∧ (topOf m : Int) = 256) ∨ ((0 ≤ m ∧ m ≤ 256) ∧ (topOf m : Int) = m) := by unfold topOf; split <;> omega
  rcases hcase with ⟨g4, hT⟩ | ⟨g4, hT⟩ | ⟨⟨g4, g5⟩, hT⟩
  · rw [hT] at hadd hfin
    have HT := Lib.hid hT
    have HP := Lib.hid htop
    have hmm : (least : Int) ≤ 256 := by omega
    clear hT htop g2 h2
    subst g4
    go_enter Try.func9, Try.ntmps9
    go_wp2_with (first | (go_at_call 19; refine hs.mono ?_; rintro e w1 ⟨rfl, hz, h1, hsz⟩; have ha := hadd w1 hz h1 hsz; have hf := fun w2 => hfin w1 w2 h1 hsz; clear hadd hfin) | (go_at_call 20; (with_reducible refine ha.mono ?_); rintro e w2 ⟨rfl, hx⟩))
    go_ret2
    exact hf _ hx
  · rw [hT] at hadd hfin
    have HT := Lib.hid hT
    have HP := Lib.hid htop
    have hmm : (least : Int) ≤ 256 := by omega
    have hml : ¬ m < least := by omega
    clear hT htop g2 h2
    go_enter Try.func9, Try.ntmps9
    go_wp2_with (first | (go_at_call 19; refine hs.mono ?_; rintro e w1 ⟨rfl, hz, h1, hsz⟩; have ha := hadd w1 hz h1 hsz; have hf := fun w2 => hfin w1 w2 h1 hsz; clear hadd hfin) | (go_at_call 20; (with_reducible refine ha.mono ?_); rintro e w2 ⟨rfl, hx⟩))
    go_ret2
    exact hf _ hx
  · rw [hT] at hadd hfin
    have HT := Lib.hid hT
    have HP := Lib.hid htop
    have hmm : (least : Int) ≤ 256 := by omega
    have hml : ¬ m < least := by omega
    have q1 : (m == -1) = false := beq_eq_false_iff_ne.2 (by omega)
    have q2 : (m != -1) = true := by simp only [bne, q1]; rfl
    have q3 : ¬ 256 < m := by omega
    have q4 : ¬ m < -1 := by omega
    clear hT htop g2 h2
    go_enter Try.func9, Try.ntmps9
    go_wp2_with (first | (go_at_call 19; refine hs.mono ?_; rintro e w1 ⟨rfl, hz, h1, hsz⟩; have ha := hadd w1 hz h1 hsz; have hf := fun w2 => hfin w1 w2 h1 hsz; clear hadd hfin) | (go_at_call 20; (with_reducible refine ha.mono ?_); rintro e w2 ⟨rfl, hx⟩))
    go_ret2
    exact hf _ hx
end Go.Proofs.Ytaihmcengecmiaa
