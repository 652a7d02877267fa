/-
  Package enc: a number, a text, put behind bytes; walked. Contracts that the proofs call; no statement is proved here.
-/
import Derived.Test.YthfipknfdnfalaaGreatDoorKcEncOwn
import Derived.Test.YthfipknfdnfalaaGreatDoorKcEncSpec
namespace Go.Proofs.YthfipknfdnfalaaGreatDoor
set_option maxRecDepth 100000
set_option maxHeartbeats 16000000
open Go.RowKit
set_option linter.unusedVariables false
theorem number_grown (base : Nat) (v : Value) (d : List UInt8) (n : Int) (w : World) (hown : Own w base 5 v d) (hb : base ≤ w.heap.size) (hd : d.length ≤ 100000000000) (h0 : 0 ≤ n) (h1 : n ≤ 9223372036854775807) :
    Calls Tryz.prog 160 #[v, .int .i64 n] w fun e w' => ∃ v', e = .returned v' ∧ GrewAt base w v (numC d n) w' v' := by
  obtain ⟨i0, hi, hz0, hz1, hz2⟩ := info_parts Tryz.info5
  have c := put_u n h0 (by omega) w
  have hl := putU_len10 h0 (by omega : n ≤ 18446744073709551615)
  go_enter Tryz.func160, Tryz.ntmps160
  go_wp2_with (first
    | (go_at_call 28; (with_reducible refine c.mono ?_); rintro e w1 ⟨rfl, hb1⟩; have hown1 := hown.below hb1; have hs1 := hb1.size)
    | (at_builtin; refine wpl_string rfl (.tmp 5) (.tmp 8) 24 9 rfl base 5 i0 Tryz.underlying24 Tryz.underlying9 hi hz0 hz1 hz2 _ _ rfl hown1 (putU n) rfl (by omega) (by omega) ?_; intro v' w2 h2 hg ha; have HG := (GrewAt.of h2 hg ha).after hb1))
  go_ret
  exact ⟨_, rfl, HG⟩
theorem number_of (base : Nat) (v : Value) (d : List UInt8) (n : Int) (w : World) (hown : Own w base 5 v d) (hb : base ≤ w.heap.size) (hd : d.length ≤ 100000000000) (h0 : 0 ≤ n) (h1 : n ≤ 9223372036854775807) :
    Calls Tryz.prog 160 #[v, .int .i64 n] w (Adds5 w base (numC d n)) :=
  (number_grown base v d n w hown hb hd h0 h1).mono fun e w' ⟨v', he, hg⟩ => ⟨v', he, hg.own, hg.near hown⟩
theorem number64_grown (base : Nat) (v : Value) (d : List UInt8) (n : Int) (w : World) (hown : Own w base 5 v d) (hb : base ≤ w.heap.size) (hd : d.length ≤ 100000000000) (h0 : 0 ≤ n) (h1 : n ≤ 9223372036854775807) :
    Calls Tryz.prog 187 #[v, .int .i64 n] w fun e w' => ∃ v', e = .returned v' ∧ GrewAt base w v (numC d n) w' v' := by
  obtain ⟨i0, hi, hz0, hz1, hz2⟩ := info_parts Tryz.info5
  have c := put_u n h0 (by omega) w
  have hl := putU_len10 h0 (by omega : n ≤ 18446744073709551615)
  go_enter Tryz.func187, Tryz.ntmps187
  go_wp2_with (first
    | (go_at_call 28; (with_reducible refine c.mono ?_); rintro e w1 ⟨rfl, hb1⟩; have hown1 := hown.below hb1; have hs1 := hb1.size)
    | (at_builtin; refine wpl_string rfl (.tmp 5) (.tmp 8) 24 9 rfl base 5 i0 Tryz.underlying24 Tryz.underlying9 hi hz0 hz1 hz2 _ _ rfl hown1 (putU n) rfl (by omega) (by omega) ?_; intro v' w2 h2 hg ha; have HG := (GrewAt.of h2 hg ha).after hb1))
  go_ret
  exact ⟨_, rfl, HG⟩
theorem number64_of (base : Nat) (v : Value) (d : List UInt8) (n : Int) (w : World) (hown : Own w base 5 v d) (hb : base ≤ w.heap.size) (hd : d.length ≤ 100000000000) (h0 : 0 ≤ n) (h1 : n ≤ 9223372036854775807) :
    Calls Tryz.prog 187 #[v, .int .i64 n] w (Adds5 w base (numC d n)) :=
  (number64_grown base v d n w hown hb hd h0 h1).mono fun e w' ⟨v', he, hg⟩ => ⟨v', he, hg.own, hg.near hown⟩
theorem Own.some {w : World} {base e : Nat} {v : Value} {d : List UInt8} (h : Own w base e v d) (hd : 0 < d.length) : ∃ g cap, v = .slice (some ⟨g, 0, none⟩) d.length cap ∧ d.length ≤ cap ∧ base ≤ g := by
  rcases h.2 with ⟨rfl, h0⟩ | ⟨g, cap, cur, rfl, hb, _, hc, _⟩
  · omega
  · exact ⟨g, cap, rfl, hc, hb⟩
theorem Own.on {w w' : World} {base e g : Nat} {y : Value} {l : List UInt8} {row : Option Nat} (h : Own w base e y l) (hg : w.grownBy w' row) (hn : ∀ g, y.ownBlock = .some g → row ≠ .some g) : Own w' base e y l := by
  refine World.ownsRow.kept h hg ?_
  cases hv : y.ownBlock with
  | none => exact .inl rfl
  | some b => exact .inr fun e => hn b hv e.symm
end Go.Proofs.YthfipknfdnfalaaGreatDoor
