/-
  A memory grows, is written and read, deed by deed, just as the document's own: walked. A contract that the proofs call.
-/
import Derived.Test.YtaihmcengecmiaaMemDoes
import Derived.Test.YtaihmcengecmiaaMemOpen
namespace Go.Proofs.Ytaihmcengecmiaa
open Go.RowKit Go.Maps
set_option linter.unusedVariables false
set_option linter.unusedSimpArgs false
variable {w0 W W' : World} {K : Nat → Prop} {B b b2 n na nb top : Nat} {m : Int} {f fa fb : Nat → UInt8} {O O2 O' : Nat → Prop}

theorem does_is (h : Duo w0 K B b b2 n n top m f f W) (htop : top = topOf m) (hm : -1 ≤ m ∧ m ≤ 9223372036854775807) (kind at' size x : Int) (far : Bool) (s : ByteArray) (h1 : 0 ≤ kind ∧ kind ≤ 255) (h2 : 0 ≤ at' ∧ at' ≤ 18446744073709551615) (h3 : -9223372036854775808 ≤ size ∧ size ≤ 9223372036854775807) (h4 : 0 ≤ x ∧ x ≤ 18446744073709551615) (h5 : s.size < 9223372036854775808) (h6 : kind % 6 = 0 → x ≤ 4) :
    Calls Try.prog 11 #[.pointer (some ⟨b, 0, none⟩), .pointer (some ⟨b2, 0, none⟩), .agg #[.int .u8 kind, .int .u64 at', .bool far, .int .i64 size, .int .u64 x, .string s]] W fun e w' => e = .returned (.bool true) ∧ ∃ n' f', Duo w0 K B b b2 n' n' top m f' f' w' := by
  have hc : kind % 6 = 0 ∨ (kind % 6 = 1 ∨ kind % 6 = 2) ∨ kind % 6 = 3 ∨ kind % 6 = 4 ∨ kind % 6 = 5 := by omega
  rcases hc with e | e | e | e | e
  · exact does_grow h htop hm kind at' size x far s h1 h2 h3 ⟨h4.1, h6 e⟩ e
  · exact does_store h kind at' size x far s h1 h2 h3 h4 e
  · exact does_load h kind at' size x far s h1 h2 h3 e
  · exact does_write h kind at' size x far s h1 h2 h3 h5 e
  · exact does_bytes h kind at' size x far s h1 h2 h3 e
theorem dpages (h : Duo w0 K B b b2 na nb top m fa fb W) : Calls Try.prog 12 #[.pointer (some ⟨b, 0, none⟩)] W fun e w' => e = .returned (.int .i64 na) ∧ W = w' := by
  obtain ⟨O, O2, hM, hR, hd, hK, hF, hB⟩ := h
  exact pages_is hM
theorem drpages (h : Duo w0 K B b b2 na nb top m fa fb W) : Calls Try.prog 13 #[.pointer (some ⟨b2, 0, none⟩)] W fun e w' => e = .returned (.int .i64 nb) ∧ W = w' := by
  obtain ⟨O, O2, hM, hR, hd, hK, hF, hB⟩ := h
  exact rpages_is hR
theorem duo_start {w w1 w2 w3 : World} (h1 : Below w.heap.size w w1) (hM : MemAt O w1.heap.size b n top f w2) (h2 : Below w1.heap.size w1 w2) (hR : RefAt O2 w2.heap.size b2 n m f w3) (h3 : Below w2.heap.size w2 w3) : Duo w (fun k => k < w.heap.size) w1.heap.size b b2 n n top m f f w3 := by
  obtain ⟨g, cap, cur, hR⟩ := hR
  have s1 := h1.size
  have s2 := h2.size
  have s3 := h3.size
  refine ⟨O, O2, hM.below h3, ⟨g, cap, cur, { hR with low := fun k hk => ⟨by have := (hR.low k hk).1; omega, (hR.low k hk).2⟩ }⟩, fun k k1 k2 => ?_, fun k hk => ⟨fun k1 => ?_, fun k2 => ?_⟩, ?_, by omega⟩
  · have := (hM.low k k1).2
    have := (hR.low k k2).1
    omega
  · have := (hM.low k k1).1
    omega
  · have := (hR.low k k2).1
    omega
  · have hb := h1.trans ((h2.mono s1).trans (h3.mono (by omega)))
    exact ⟨hb.os, hb.tape, hb.output, hb.size, fun k hk => ⟨hk, hb.block k hk⟩⟩
theorem Duo.toBelow {w : World} (h : Duo w (fun k => k < w.heap.size) B b b2 na nb top m fa fb W) : Below w.heap.size w W := by
  obtain ⟨hF, _⟩ := h.frame
  exact ⟨hF.os, hF.tape, hF.output, hF.size, fun k hk => (hF.block k hk).2⟩
set_option maxRecDepth 100000 in
set_option maxHeartbeats 8000000 in
theorem memPlays_walk (a0 a1 : Int) (p : Option Addr) (c : Nat) (l : List DeedV) (h0 : -9223372036854775808 ≤ a0 ∧ a0 ≤ 9223372036854775807) (h1 : -9223372036854775808 ≤ a1 ∧ a1 ≤ 9223372036854775807) (w : World) (hS : DeedsAt w p l) (hl : l.length ≤ 140737488355328) (hc : l.length ≤ c) :
    Calls Try.prog 3 #[.int .i64 a0, .int .i64 a1, .slice p l.length c] w fun e w' => e = .returned (.bool true) ∧ Below w.heap.size w w' := by
  have hh := head8
  -- the pages at first
  obtain ⟨L, hL, hLL⟩ : ∃ L : Int, ((6 < a0 ∧ a0 ≤ 256) ∧ a0 % 7 = L ∨ ¬ (6 < a0 ∧ a0 ≤ 256) ∧ a0 = L) ∧ (-9223372036854775808 ≤ L ∧ L ≤ 9223372036854775807) := by
    by_cases g : 6 < a0 ∧ a0 ≤ 256
    · exact ⟨a0 % 7, .inl ⟨g, rfl⟩, by omega⟩
    · exact ⟨a0, .inr ⟨g, rfl⟩, h0⟩
  by_cases hno : L < 0 ∨ a1 < -1 ∨ a1 ≠ -1 ∧ a1 < L
  · have n1 := new_arg L a1 hLL h1 hno
    have n2 := rnew_arg L a1 hLL h1 hno
    have b1 := h0.1
    have b2 := h0.2
    clear hno hS hl h0 h1 hLL
    rcases hL with ⟨⟨g1, g2⟩, g3⟩ | ⟨g1, g3⟩
    · go_enter Try.func3, Try.ntmps3
      go_wp2_with (first
        | (go_at_call 8; (with_reducible refine (hh _).mono ?_); rintro e w1 ⟨rfl, hb1⟩)
        | (go_at_call 9; (with_reducible refine (n1 _).mono ?_); rintro e w' ⟨rfl, rfl⟩)
        | (go_at_call 10; (with_reducible refine (n2 _).mono ?_); rintro e w' ⟨rfl, rfl⟩))
      go_ret
      exact ⟨rfl, hb1⟩
    · subst g3
      by_cases g2 : a0 ≤ 6
      · clear g1
        go_enter Try.func3, Try.ntmps3
        go_wp2_with (first
          | (go_at_call 8; (with_reducible refine (hh _).mono ?_); rintro e w1 ⟨rfl, hb1⟩)
          | (go_at_call 9; (with_reducible refine (n1 _).mono ?_); rintro e w' ⟨rfl, rfl⟩)
          | (go_at_call 10; (with_reducible refine (n2 _).mono ?_); rintro e w' ⟨rfl, rfl⟩))
        go_ret
        exact ⟨rfl, hb1⟩
      · have g4 : 256 < a0 := by omega
        clear g1
        go_enter Try.func3, Try.ntmps3
        go_wp2_with (first
          | (go_at_call 8; (with_reducible refine (hh _).mono ?_); rintro e w1 ⟨rfl, hb1⟩)
          | (go_at_call 9; (with_reducible refine (n1 _).mono ?_); rintro e w' ⟨rfl, rfl⟩)
          | (go_at_call 10; (with_reducible refine (n2 _).mono ?_); rintro e w' ⟨rfl, rfl⟩))
        go_ret
        exact ⟨rfl, hb1⟩
  by_cases hroom : 256 < L
  · have hg : a1 = -1 ∨ 0 ≤ a1 ∧ L ≤ a1 := by omega
    have n1 := new_room L a1 hLL h1 (by omega) hg hroom
    have n2 := rnew_room L a1 hLL h1 (by omega) hg hroom
    obtain ⟨g1, g3⟩ : ¬ (6 < a0 ∧ a0 ≤ 256) ∧ a0 = L := by omega
    subst g3
    clear hno hS hl h0 h1 hLL hL g1 hg
    go_enter Try.func3, Try.ntmps3
    go_wp2_with (first
      | (go_at_call 8; (with_reducible refine (hh _).mono ?_); rintro e w1 ⟨rfl, hb1⟩)
      | (go_at_call 9; (with_reducible refine (n1 _).mono ?_); rintro e w' ⟨rfl, rfl⟩)
      | (go_at_call 10; (with_reducible refine (n2 _).mono ?_); rintro e w' ⟨rfl, rfl⟩))
    go_ret
    exact ⟨rfl, hb1⟩
  -- a memory
  obtain ⟨n, rfl⟩ : ∃ n : Nat, L = n := ⟨L.toNat, by omega⟩
  have hn6 : n ≤ 6 := by omega
  have hg : a1 = -1 ∨ 0 ≤ a1 ∧ (n : Int) ≤ a1 := by omega
  have n1 := new_is n a1 h1 hg (by omega)
  have n2 := rnew_is n a1 h1 hg hn6
  have hm1 : -1 ≤ a1 ∧ a1 ≤ 9223372036854775807 := by omega
  obtain ⟨top, htop⟩ : ∃ t, t = topOf a1 := ⟨_, rfl⟩
  rw [← htop] at n1
  have b1 := h0.1
  have b2 := h0.2
  have b3 := h1.1
  have b4 := h1.2
  have HT := Lib.hid htop
  have HM := Lib.hid hm1
  clear hno hroom hLL h0 h1 htop hm1 hg
  have hloop : True := trivial
  rcases hL with ⟨⟨g1, g2⟩, g3⟩ | ⟨g1, g3⟩
  · go_enter Try.func3, Try.ntmps3
    go_wp2_with (first
      | (go_at_call 8; (with_reducible refine (hh _).mono ?_); rintro e w1 ⟨rfl, hb1⟩)
      | (go_at_call 9; (with_reducible refine (n1 _).mono ?_); rintro e w2 ⟨b, O, rfl, hM, hb2⟩)
      | (go_at_call 10; (with_reducible refine (n2 _).mono ?_); rintro e w3 ⟨bb, OO, rfl, hR, hb3⟩))
    have hD := duo_start hb1 hM hb2 hR hb3
    clear hM hR n1 n2 hh g3
    go_loopw [12] (fun i wr => ∃ j : Nat, j ≤ l.length ∧ j ≤ 40 ∧ i = .int .i64 j ∧ ∃ n' f', Duo w (fun k => k < w.heap.size) w1.heap.size b bb n' n' top a1 f' f' wr) (fun i _ => (40 - (intOf i).toNat))
    case atStart => exact ⟨0, Nat.zero_le _, by decide, rfl, n, _, hD⟩
    case round =>
      obtain ⟨j, hj, hj40, rfl, n', f', hr⟩ := hrel
      by_cases hlt : j < l.length ∧ j < 40
      · obtain ⟨hlt, hlt40⟩ := hlt
        have hu := hS.2 _ (List.getElem_mem hlt)
        obtain ⟨rb, ro, rfl, hrb⟩ := hS.1.start hlt (r := _) rfl
        have hrow := fun i v hv => (hr.cell (k := rb) hrb (ro + j * 6 + i)).trans (hS.1.cell hlt i (v := v) hv)
        obtain ⟨u, hul⟩ : ∃ u, l[j] = u := ⟨_, rfl⟩
        rw [hul] at hu hrow
        obtain ⟨kind, at', far, size, x, s⟩ := u
        have x0 := hrow 0 (.int .u8 kind) rfl
        have x1 := hrow 1 (.int .u64 at') rfl
        have x2 := hrow 2 (.bool far) rfl
        have x3 := hrow 3 (.int .i64 size) rfl
        have x4 := hrow 4 (.int .u64 x) rfl
        have x5 := hrow 5 (.string s) rfl
        simp only [Nat.add_zero] at x0
        obtain ⟨⟨u1, u2⟩, ⟨u3, u4⟩, ⟨u5, u6⟩, ⟨u7, u8⟩, u9⟩ := hu
        simp only at u1 u2 u3 u4 u5 u6 u7 u8 u9
        have hd := fun x' (hx : (0 ≤ x' ∧ x' ≤ 18446744073709551615) ∧ (kind % 6 = 0 → x' ≤ 4)) o => does_is (hr.below ((Below.refl _ _).alloc (Nat.le_refl _) o)) HT.out HM.out kind at' size x' far s ⟨u1, by omega⟩ ⟨u3, u4⟩ ⟨u5, u6⟩ hx.1 (by unfold maxLen at u9; omega) hx.2
        clear hrow hul hS
        by_cases hk : kind % 6 = 0
        · have hd1 := hd (x % 5) ⟨by omega, fun _ => by omega⟩
          clear hd
          go_wp2_with (first
            | (go_at_call 11; (with_reducible refine (hd1 _).mono ?_); rintro e w4 ⟨rfl, n4, f4, hr4⟩; have hp1 := dpages hr4; have hp2 := drpages hr4)
            | (go_at_call 12; (with_reducible refine hp1.mono ?_); rintro e w' ⟨rfl, rfl⟩)
            | (go_at_call 13; (with_reducible refine hp2.mono ?_); rintro e w' ⟨rfl, rfl⟩))
          go_roundw
          case rel => exact ⟨j + 1, by omega, by omega, by go_num, n4, f4, hr4⟩
          case measure => simp [intOf]; omega
        · have hd1 := hd x ⟨⟨u7, u8⟩, fun e => absurd e hk⟩
          have hkb : (kind % 6 == 0) = false := beq_eq_false_iff_ne.2 hk
          clear hd
          go_wp2_with (first
            | (go_at_call 11; (with_reducible refine (hd1 _).mono ?_); rintro e w4 ⟨rfl, n4, f4, hr4⟩; have hp1 := dpages hr4; have hp2 := drpages hr4)
            | (go_at_call 12; (with_reducible refine hp1.mono ?_); rintro e w' ⟨rfl, rfl⟩)
            | (go_at_call 13; (with_reducible refine hp2.mono ?_); rintro e w' ⟨rfl, rfl⟩))
          go_roundw
          case rel => exact ⟨j + 1, by omega, by omega, by go_num, n4, f4, hr4⟩
          case measure => simp [intOf]; omega
      · have hex : ¬ (j < l.length) ∨ (j < l.length ∧ ¬ j < 40) := by omega
        clear hlt hS
        rcases hex with e | ⟨e, e2⟩
        · go_wp2
          go_ret
          exact ⟨rfl, hr.toBelow⟩
        · go_wp2
          go_ret
          exact ⟨rfl, hr.toBelow⟩
  · subst g3
    have g2 : ¬ 6 < (n : Int) := by omega
    go_enter Try.func3, Try.ntmps3
    go_wp2_with (first
      | (go_at_call 8; (with_reducible refine (hh _).mono ?_); rintro e w1 ⟨rfl, hb1⟩)
      | (go_at_call 9; (with_reducible refine (n1 _).mono ?_); rintro e w2 ⟨b, O, rfl, hM, hb2⟩)
      | (go_at_call 10; (with_reducible refine (n2 _).mono ?_); rintro e w3 ⟨bb, OO, rfl, hR, hb3⟩))
    have hD := duo_start hb1 hM hb2 hR hb3
    clear hM hR n1 n2 hh g1
    go_loopw [12] (fun i wr => ∃ j : Nat, j ≤ l.length ∧ j ≤ 40 ∧ i = .int .i64 j ∧ ∃ n' f', Duo w (fun k => k < w.heap.size) w1.heap.size b bb n' n' top a1 f' f' wr) (fun i _ => (40 - (intOf i).toNat))
    case atStart => exact ⟨0, Nat.zero_le _, by decide, rfl, n, _, hD⟩
    case round =>
      obtain ⟨j, hj, hj40, rfl, n', f', hr⟩ := hrel
      by_cases hlt : j < l.length ∧ j < 40
      · obtain ⟨hlt, hlt40⟩ := hlt
        have hu := hS.2 _ (List.getElem_mem hlt)
        obtain ⟨rb, ro, rfl, hrb⟩ := hS.1.start hlt (r := _) rfl
        have hrow := fun i v hv => (hr.cell (k := rb) hrb (ro + j * 6 + i)).trans (hS.1.cell hlt i (v := v) hv)
        obtain ⟨u, hul⟩ : ∃ u, l[j] = u := ⟨_, rfl⟩
        rw [hul] at hu hrow
        obtain ⟨kind, at', far, size, x, s⟩ := u
        have x0 := hrow 0 (.int .u8 kind) rfl
        have x1 := hrow 1 (.int .u64 at') rfl
        have x2 := hrow 2 (.bool far) rfl
        have x3 := hrow 3 (.int .i64 size) rfl
        have x4 := hrow 4 (.int .u64 x) rfl
        have x5 := hrow 5 (.string s) rfl
        simp only [Nat.add_zero] at x0
        obtain ⟨⟨u1, u2⟩, ⟨u3, u4⟩, ⟨u5, u6⟩, ⟨u7, u8⟩, u9⟩ := hu
        simp only at u1 u2 u3 u4 u5 u6 u7 u8 u9
        have hd := fun x' (hx : (0 ≤ x' ∧ x' ≤ 18446744073709551615) ∧ (kind % 6 = 0 → x' ≤ 4)) o => does_is (hr.below ((Below.refl _ _).alloc (Nat.le_refl _) o)) HT.out HM.out kind at' size x' far s ⟨u1, by omega⟩ ⟨u3, u4⟩ ⟨u5, u6⟩ hx.1 (by unfold maxLen at u9; omega) hx.2
        clear hrow hul hS
        by_cases hk : kind % 6 = 0
        · have hd1 := hd (x % 5) ⟨by omega, fun _ => by omega⟩
          clear hd
          go_wp2_with (first
            | (go_at_call 11; (with_reducible refine (hd1 _).mono ?_); rintro e w4 ⟨rfl, n4, f4, hr4⟩; have hp1 := dpages hr4; have hp2 := drpages hr4)
            | (go_at_call 12; (with_reducible refine hp1.mono ?_); rintro e w' ⟨rfl, rfl⟩)
            | (go_at_call 13; (with_reducible refine hp2.mono ?_); rintro e w' ⟨rfl, rfl⟩))
          go_roundw
          case rel => exact ⟨j + 1, by omega, by omega, by go_num, n4, f4, hr4⟩
          case measure => simp [intOf]; omega
        · have hd1 := hd x ⟨⟨u7, u8⟩, fun e => absurd e hk⟩
          have hkb : (kind % 6 == 0) = false := beq_eq_false_iff_ne.2 hk
          clear hd
          go_wp2_with (first
            | (go_at_call 11; (with_reducible refine (hd1 _).mono ?_); rintro e w4 ⟨rfl, n4, f4, hr4⟩; have hp1 := dpages hr4; have hp2 := drpages hr4)
            | (go_at_call 12; (with_reducible refine hp1.mono ?_); rintro e w' ⟨rfl, rfl⟩)
            | (go_at_call 13; (with_reducible refine hp2.mono ?_); rintro e w' ⟨rfl, rfl⟩))
          go_roundw
          case rel => exact ⟨j + 1, by omega, by omega, by go_num, n4, f4, hr4⟩
          case measure => simp [intOf]; omega
      · have hex : ¬ (j < l.length) ∨ (j < l.length ∧ ¬ j < 40) := by omega
        clear hlt hS
        rcases hex with e | ⟨e, e2⟩
        · go_wp2
          go_ret
          exact ⟨rfl, hr.toBelow⟩
        · go_wp2
          go_ret
          exact ⟨rfl, hr.toBelow⟩
end Go.Proofs.Ytaihmcengecmiaa
