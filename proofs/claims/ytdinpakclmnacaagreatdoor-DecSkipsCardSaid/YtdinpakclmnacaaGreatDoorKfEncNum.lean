/-
  Facts and contracts that the proof calls.
-/
import Derived.Test.YtdinpakclmnacaaGreatDoorKfEncOwn
import Derived.Test.YtdinpakclmnacaaGreatDoorKfEncSpec
namespace Go.Proofs.YtdinpakclmnacaaGreatDoor
set_option maxRecDepth 100000
set_option maxHeartbeats 16000000
open Go.RowKit
set_option linter.unusedVariables false
theorem number_grown (base : Nat) (v : Value) (d : List UInt8) (n : Int) (w : World) (hown : Own w base 5 v d) (hb : base ≤ w.heap.size) (hd : d.length ≤ 100000000000) (h0 : 0 ≤ n) (h1 : n ≤ 9223372036854775807) :
    Calls Tryz.prog 137 #[v, .int .i64 n] w fun e w' => ∃ v', e = .returned v' ∧ GrewAt base w v (numC d n) w' v' := by
  obtain ⟨i0, hi, hz0, hz1, hz2⟩ := info_parts Tryz.info5
  have c := put_u n h0 (by omega) w
  have hl := putU_len10 h0 (by omega : n ≤ 18446744073709551615)
  go_enter Tryz.func137, Tryz.ntmps137
  go_wp2_with (first
    | (go_at_call 22; (with_reducible refine c.mono ?_); rintro e w1 ⟨rfl, hb1⟩; have hown1 := hown.below hb1; have hs1 := hb1.size)
    | (at_builtin; refine wpl_string rfl (.tmp 5) (.tmp 8) 24 9 rfl base 5 i0 Tryz.underlying24 Tryz.underlying9 hi hz0 hz1 hz2 _ _ rfl hown1 (putU n) rfl (by omega) (by omega) ?_; intro v' w2 h2 hg ha; have HG := (GrewAt.of h2 hg ha).after hb1))
  go_ret
  exact ⟨_, rfl, HG⟩
theorem number_of (base : Nat) (v : Value) (d : List UInt8) (n : Int) (w : World) (hown : Own w base 5 v d) (hb : base ≤ w.heap.size) (hd : d.length ≤ 100000000000) (h0 : 0 ≤ n) (h1 : n ≤ 9223372036854775807) :
    Calls Tryz.prog 137 #[v, .int .i64 n] w (Adds5 w base (numC d n)) :=
  (number_grown base v d n w hown hb hd h0 h1).mono fun e w' ⟨v', he, hg⟩ => ⟨v', he, hg.own, hg.near hown⟩
theorem number64_grown (base : Nat) (v : Value) (d : List UInt8) (n : Int) (w : World) (hown : Own w base 5 v d) (hb : base ≤ w.heap.size) (hd : d.length ≤ 100000000000) (h0 : 0 ≤ n) (h1 : n ≤ 9223372036854775807) :
    Calls Tryz.prog 164 #[v, .int .i64 n] w fun e w' => ∃ v', e = .returned v' ∧ GrewAt base w v (numC d n) w' v' := by
  obtain ⟨i0, hi, hz0, hz1, hz2⟩ := info_parts Tryz.info5
  have c := put_u n h0 (by omega) w
  have hl := putU_len10 h0 (by omega : n ≤ 18446744073709551615)
  go_enter Tryz.func164, Tryz.ntmps164
  go_wp2_with (first
    | (go_at_call 22; (with_reducible refine c.mono ?_); rintro e w1 ⟨rfl, hb1⟩; have hown1 := hown.below hb1; have hs1 := hb1.size)
    | (at_builtin; refine wpl_string rfl (.tmp 5) (.tmp 8) 24 9 rfl base 5 i0 Tryz.underlying24 Tryz.underlying9 hi hz0 hz1 hz2 _ _ rfl hown1 (putU n) rfl (by omega) (by omega) ?_; intro v' w2 h2 hg ha; have HG := (GrewAt.of h2 hg ha).after hb1))
  go_ret
  exact ⟨_, rfl, HG⟩
theorem number64_of (base : Nat) (v : Value) (d : List UInt8) (n : Int) (w : World) (hown : Own w base 5 v d) (hb : base ≤ w.heap.size) (hd : d.length ≤ 100000000000) (h0 : 0 ≤ n) (h1 : n ≤ 9223372036854775807) :
    Calls Tryz.prog 164 #[v, .int .i64 n] w (Adds5 w base (numC d n)) :=
  (number64_grown base v d n w hown hb hd h0 h1).mono fun e w' ⟨v', he, hg⟩ => ⟨v', he, hg.own, hg.near hown⟩
theorem text_grown (base : Nat) (v : Value) (d : List UInt8) (s : ByteArray) (w : World) (hown : Own w base 5 v d) (hb : base ≤ w.heap.size) (hd : d.length ≤ 10000000000) (hs : s.size ≤ 9223372036854775807) :
    Calls Tryz.prog 197 #[v, .string s] w fun e w' => ∃ v', e = .returned v' ∧ GrewAt base w v (textC d s.data.toList) w' v' := by
  obtain ⟨i0, hi, hz0, hz1, hz2⟩ := info_parts Tryz.info5
  have hl := putU_len10 (by omega : (0 : Int) ≤ s.size) (by omega)
  have c := fun W hW hB => number_grown base v d s.size W hW hB (by omega) (by omega) (by omega)
  obtain ⟨vp, vc, rfl⟩ := hown.any
  have hd0 := hown.drew
  have hb' : base ≤ w.drew.heap.size := hb
  have hnl : (numC d s.size).length = d.length + (putU s.size).length := by unfold numC; rw [List.length_append]
  by_cases hm : (1048577 : Int) < s.size
  case neg =>
    have hm1 : (0 : Int) ≤ s.size := by omega
    have hm2 : (s.size : Int) ≤ s.size := by omega
    have hm3 : ((1048577 : Int) < s.size) = False := eq_false hm
    have hq : textC d s.data.toList = numC d s.size ++ s.data.toList := by
      unfold textC numC
      rw [show s.data.toList.length = s.size from Array.length_toList, List.take_of_length_le (by rw [show s.data.toList.length = s.size from Array.length_toList]; omega)]
    have HQ := Lib.hid hq
    have HN := Lib.hid hnl
    clear hq hnl
    go_enter Tryz.func197, Tryz.ntmps197
    go_wp2
    go_region_held3 (fun _ => True) (trivial)
    (first
      | (go_at_call 137; (with_reducible refine (c _ hd0 hb').mono ?_); rintro e w1 ⟨v1, rfl, A1⟩; have h1 := A1.own; have hb1 := Nat.le_trans hb' A1.grown.size)
      | (refine step_string rfl (.tmp 8) (.tmp 13) 24 9 rfl base 5 i0 Tryz.underlying24 Tryz.underlying9 hi hz0 hz1 hz2 _ _ rfl h1 (s) rfl (by rw [HN.out]; omega) hb1 ?_; intro v2 w2 h2 g2 a2))
    all_goals
      go_wp2
      go_ret
      exact ⟨_, rfl, by rw [HQ.out]; exact (A1.trans (GrewAt.of h2 g2 a2)).after (Below.refl _ _).drew⟩
  case pos =>
    have hm3 : (1048577 : Int) ≤ s.size := by omega
    have hz : (s.extract 0 1048577).size = 1048577 := by rw [ByteArray.size_extract]; omega
    have hq : textC d s.data.toList = numC d s.size ++ (s.extract 0 1048577).data.toList := by
      unfold textC numC
      rw [show s.data.toList.length = s.size from Array.length_toList, ByteArray.data_extract, Array.toList_extract, List.extract_eq_take_drop]
      simp
    have HQ := Lib.hid hq
    have HN := Lib.hid hnl
    have HZ := Lib.hid hz
    clear hq hnl hz
    go_enter Tryz.func197, Tryz.ntmps197
    go_wp2
    go_region_held3 (fun _ => True) (trivial)
    (first
      | (go_at_call 137; (with_reducible refine (c _ hd0 hb').mono ?_); rintro e w1 ⟨v1, rfl, A1⟩; have h1 := A1.own; have hb1 := Nat.le_trans hb' A1.grown.size)
      | (refine step_string rfl (.tmp 8) (.tmp 13) 24 9 rfl base 5 i0 Tryz.underlying24 Tryz.underlying9 hi hz0 hz1 hz2 _ _ rfl h1 (s.extract 0 1048577) rfl (by rw [HN.out, HZ.out]; omega) hb1 ?_; intro v2 w2 h2 g2 a2))
    all_goals
      go_wp2
      go_ret
      exact ⟨_, rfl, by rw [HQ.out]; exact (A1.trans (GrewAt.of h2 g2 a2)).after (Below.refl _ _).drew⟩
theorem text_of (base : Nat) (v : Value) (d : List UInt8) (s : ByteArray) (w : World) (hown : Own w base 5 v d) (hb : base ≤ w.heap.size) (hd : d.length ≤ 10000000000) (hs : s.size ≤ 9223372036854775807) :
    Calls Tryz.prog 197 #[v, .string s] w (Adds5 w base (textC d s.data.toList)) :=
  (text_grown base v d s w hown hb hd hs).mono fun e w' ⟨v', he, hg⟩ => ⟨v', he, hg.own, hg.near hown⟩
theorem Own.some {w : World} {base e : Nat} {v : Value} {d : List UInt8} (h : Own w base e v d) (hd : 0 < d.length) : ∃ g cap, v = .slice (some ⟨g, 0, none⟩) d.length cap ∧ d.length ≤ cap ∧ base ≤ g := by
  rcases h.2 with ⟨rfl, h0⟩ | ⟨g, cap, cur, rfl, hb, _, hc, _⟩
  · omega
  · exact ⟨g, cap, rfl, hc, hb⟩
theorem Own.on {w w' : World} {base e g : Nat} {y : Value} {l : List UInt8} {row : Option Nat} (h : Own w base e y l) (hg : w.grownBy w' row) (hn : ∀ g, y.ownBlock = .some g → row ≠ .some g) : Own w' base e y l := by
  refine World.ownsRow.kept h hg ?_
  cases hv : y.ownBlock with
  | none => exact .inl rfl
  | some b => exact .inr fun e => hn b hv e.symm
theorem text_bytes (base : Nat) (v : Value) (d : List UInt8) (b2 : Nat) (y : Value) (l : List UInt8) (w : World) (hown : Own w base 5 v d) (hb : base ≤ w.heap.size) (hd : d.length ≤ 10000000000) (hy : Own w b2 5 y l) (hl0 : 0 < l.length) (hl1 : l.length ≤ 10000000000) (hne : ∀ g, y.ownBlock = some g → v.ownBlock ≠ some g) :
    Calls Tryz.prog 148 #[v, y] w (Adds5 w base (textC d l)) := by
  obtain ⟨i0, hi, hz0, hz1, hz2⟩ := info_parts Tryz.info5
  have hl := putU_len10 (by omega : (0 : Int) ≤ l.length) (by omega)
  have c := fun W hW hB => number_grown base v d l.length W hW hB (by omega) (by omega) (by omega)
  have hd0 := hown.drew
  have hy0 := hy.drew
  obtain ⟨g, cap, rfl, hcap, hg2⟩ := hy.some hl0
  have hb' : base ≤ w.drew.heap.size := hb
  have HY : ∀ w1 : World, w.drew.grownBy w1 v.ownBlock → ∀ j b, l[j]? = some b → w1.cell? ((⟨g, 0, none⟩ : Addr).add j) = some (.int .u8 (b.toNat : Int)) := fun w1 hg1 j b hj =>
    World.ownsRow.cells (hy0.on (g := 0) hg1 hne) (g := g) rfl j _ (by simp [hj])
  have HT : ∀ (k : Nat) (w1 : World), w.drew.grownBy w1 v.ownBlock → ∀ j b, (l.take k)[j]? = some b → w1.cell? ((⟨g, 0, none⟩ : Addr).add j) = some (.int .u8 (b.toNat : Int)) := fun k w1 hg1 j b hj => by
    rw [List.getElem?_take] at hj
    split at hj
    · exact HY w1 hg1 j b hj
    · cases hj
  have hnl : (numC d l.length).length = d.length + (putU l.length).length := by unfold numC; rw [List.length_append]
  have hm1 : (0 : Int) ≤ l.length := by omega
  have hm2 : (l.length : Int) ≤ cap := by omega
  obtain ⟨n, hn⟩ : ∃ n, l.length = n := ⟨_, rfl⟩
  by_cases hm : (1048577 : Int) < l.length
  case neg =>
    have hm3 : ((1048577 : Int) < n) = False := by rw [← hn]; exact eq_false hm
    have hq : textC d l = numC d n ++ l := by
      rw [← hn]; unfold textC numC
      rw [List.take_of_length_le (by omega)]
    have HQ := Lib.hid hq
    have HN := Lib.hid hnl
    have HL := Lib.hid hn
    rw [hn] at c hm1 hm2 hl hl1 hnl ⊢
    clear hq hnl hm hy hy0 hown hn HT
    go_enter Tryz.func148, Tryz.ntmps148
    go_wp2
    go_region_held3 (fun _ => True) (trivial)
    (first
      | (go_at_call 137; (with_reducible refine (c _ hd0 hb').mono ?_); rintro e w1 ⟨v1, rfl, A1⟩; have h1 := A1.own; have g1 := A1.grown; have hb1 := Nat.le_trans hb' g1.size; have h5 := HY w1 g1)
      | (refine step_bytes rfl (.tmp 8) (.tmp 13) 24 rfl base 5 i0 Tryz.underlying24 hi hz0 hz1 hz2 _ _ rfl h1 ⟨g, 0, none⟩ n cap l rfl HL.out h5 (by have := HN.out; rw [HL.out] at this; omega) hb1 ?_; intro v2 w2 h2 g2 _))
    all_goals
      go_wp2
      go_ret
      exact ⟨_, rfl, by rw [HQ.out]; exact h2, (((Near.refl base w).drew.trans (Near.of_grown hd0 g1))).grew h1 g2⟩
  case pos =>
    have hm4 : (1048577 : Int) < n := by omega
    have hm5 : (1048577 : Int) ≤ cap := by omega
    have hm6 : 1048577 ≤ cap := by omega
    have hq : textC d l = numC d n ++ l.take 1048577 := by
      rw [← hn]; rfl
    have hz : (l.take 1048577).length = 1048577 := by rw [List.length_take]; omega
    have HQ := Lib.hid hq
    have HN := Lib.hid hnl
    have HZ := Lib.hid hz
    have HL := Lib.hid hn
    rw [hn] at c hm1 hm2 hl hl1 hnl ⊢
    clear hq hnl hm hy hy0 hown hn hz HY
    go_enter Tryz.func148, Tryz.ntmps148
    go_wp2
    go_region_held3 (fun _ => True) (trivial)
    (first
      | (go_at_call 137; (with_reducible refine (c _ hd0 hb').mono ?_); rintro e w1 ⟨v1, rfl, A1⟩; have h1 := A1.own; have g1 := A1.grown; have hb1 := Nat.le_trans hb' g1.size; have h5 := HT 1048577 w1 g1)
      | (refine step_bytes rfl (.tmp 8) (.tmp 13) 24 rfl base 5 i0 Tryz.underlying24 hi hz0 hz1 hz2 _ _ rfl h1 ⟨g, 0, none⟩ 1048577 cap (l.take 1048577) rfl HZ.out h5 (by have := HN.out; rw [HL.out] at this; omega) hb1 ?_; intro v2 w2 h2 g2 _))
    all_goals
      go_wp2
      go_ret
      exact ⟨_, rfl, by rw [HQ.out]; exact h2, (((Near.refl base w).drew.trans (Near.of_grown hd0 g1))).grew h1 g2⟩
end Go.Proofs.YtdinpakclmnacaaGreatDoor
