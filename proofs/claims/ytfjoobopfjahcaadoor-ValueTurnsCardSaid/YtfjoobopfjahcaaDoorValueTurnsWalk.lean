/-
  ValueTurns, walked: sums, products, comparisons of numbers of two scales, turned; and a sum less its one part is the other.
-/
import Derived.Test.YtfjoobopfjahcaaDoorVuBox
import Derived.Test.YtfjoobopfjahcaaDoorVuTurnMath
namespace Go.Proofs.YtfjoobopfjahcaaDoor
set_option linter.unusedVariables false
open Go.RowKit

set_option maxRecDepth 100000 in
set_option maxHeartbeats 16000000 in
theorem turns_bad (a b s u p q M : Int) (hr : room a = true) (hrb : room b = true) (hs : 0 ≤ s ∧ s ≤ 255) (hu : 0 ≤ u ∧ u ≤ 255) (hp : s % 10 = p) (hq : u % 10 = q) (hM : max p q = M) (k1 : arV 43 false a ⟨#[]⟩ false b ⟨#[]⟩ (kindOf p) p (kindOf q) q = (false, 0, 11)) (k2 : arV 43 false b ⟨#[]⟩ false a ⟨#[]⟩ (kindOf q) q (kindOf p) p = (false, 0, 11)) (w : World) (hL : Laid w) :
    Calls Tryd.prog 4 #[.int .i64 a, .int .i64 b, .int .u8 s, .int .u8 u] w fun e w' => e = .returned (.bool true) ∧ Below w.heap.size w w' := by
  have hh := fun (_ : Unit) => head_value w hL
  have hp0 : 0 ≤ p ∧ p ≤ 9 := by omega
  have hq0 : 0 ≤ q ∧ q ≤ 9 := by omega
  obtain ⟨R, er, k3, k4⟩ := times_two a b hp0 hq0
  obtain ⟨c, k5, k6, hc⟩ := cmp_two a b hp0 hq0
  have n1 := fun w => law_number s p hs.1 hs.2 hp w
  have n2 := fun w => law_number u q hu.1 hu.2 hq w
  have d1 := fun w hL => arith_call (by omega) hr hrb k1 w hL
  have d2 := fun w hL => arith_call (by omega) hrb hr k2 w hL
  have d3 := fun w hL => arith_call (by omega) hr hrb k3 w hL
  have d4 := fun w hL => arith_call (by omega) hrb hr k4 w hL
  have d5 := fun w hL => cmp_call hr hrb k5 w hL
  have d6 := fun w hL => cmp_call hrb hr k6 w hL
  clear k1 k2 k3 k4 k5 k6 hr hrb hp hq hs hu hp0 hq0 hM
  go_enter Tryd.func4, Tryd.ntmps4
  go_wp2_with (first
    | (go_at_call 10; (with_reducible refine (hh ()).mono ?_); rintro e v1 ⟨rfl, hb⟩; have hB1 := hb; clear hb)
    | (go_at_call 19; with_reducible refine (n1 _).mono ?_; rintro e v2 ⟨rfl, hb⟩; have hB2 := bt (bt hB1 b0) hb; clear hb hB1)
    | (go_at_call 19; with_reducible refine (n2 _).mono ?_; rintro e v3 ⟨rfl, hb⟩; have Kt := ((TB.new (kindOf p) p v2).on b0).on hb; have hB3 := bt (bt hB2 b1) hb; clear hb hB2; obtain ⟨t0, t1, tl⟩ := id Kt; have tl1 : v2.heap.size < v3.heap.size + 1 := Nat.lt_succ_of_lt tl; have tl2 : v2.heap.size < v3.heap.size + 1 + 1 := Nat.lt_succ_of_lt tl1)
    | (go_at_call 20; with_reducible refine (d1 _ (hL.below (bt hB3 b3))).mono ?_; rintro e v4 ⟨rfl, hb⟩; replace Kt := (Kt.on b3).on hb; have Ku := ((TB.new (kindOf q) q v3).on b2).on hb; have Kx := ((VB.new1 false a v3 (.cells #[.int .i64 (kindOf q), .int .i64 q] 23)).on b1).on hb; have Ky := ((VB.new2 false b v3 (.cells #[.int .i64 (kindOf q), .int .i64 q] 23) (.cells #[.bool false, .int .i64 a, .string ⟨#[]⟩] 25)).on b0).on hb; have hB4 := bt (bt hB3 b3) hb; clear hb hB3; clear t0 t1 tl; obtain ⟨t0, t1, tl⟩ := id Kt; obtain ⟨u0, u1, ul⟩ := id Ku; obtain ⟨x0, x1, x2, xl⟩ := id Kx; obtain ⟨y0, y1, y2, yl⟩ := id Ky)
    | (go_at_call 20; with_reducible refine (d2 _ (hL.below (bt hB4 b1))).mono ?_; rintro e v5 ⟨rfl, hb⟩; replace Kt := (Kt.on b1).on hb; replace Ku := (Ku.on b1).on hb; replace Kx := (Kx.on b1).on hb; replace Ky := (Ky.on b1).on hb; have Kf := ((VB.new false 0 v4).on b0).on hb; have hB5 := bt (bt hB4 b1) hb; clear hb hB4; clear t0 t1 tl u0 u1 ul x0 x1 x2 xl y0 y1 y2 yl; obtain ⟨t0, t1, tl⟩ := id Kt; obtain ⟨u0, u1, ul⟩ := id Ku; obtain ⟨x0, x1, x2, xl⟩ := id Kx; obtain ⟨y0, y1, y2, yl⟩ := id Ky; obtain ⟨f0, f1, f2, fl⟩ := id Kf)
    | (go_at_call 20; with_reducible refine (d3 _ (hL.below (bt hB5 b1))).mono ?_; rintro e v6 ⟨rfl, hb⟩; replace Kt := (Kt.on b1).on hb; replace Ku := (Ku.on b1).on hb; replace Kx := (Kx.on b1).on hb; replace Ky := (Ky.on b1).on hb; replace Kf := (Kf.on b1).on hb; have Kg := ((VB.new false 0 v5).on b0).on hb; have hB6 := bt (bt hB5 b1) hb; clear hb hB5; clear t0 t1 tl u0 u1 ul x0 x1 x2 xl y0 y1 y2 yl f0 f1 f2 fl; obtain ⟨t0, t1, tl⟩ := id Kt; obtain ⟨u0, u1, ul⟩ := id Ku; obtain ⟨x0, x1, x2, xl⟩ := id Kx; obtain ⟨y0, y1, y2, yl⟩ := id Ky; obtain ⟨f0, f1, f2, fl⟩ := id Kf; obtain ⟨g0, g1, g2, gl⟩ := id Kg)
    | (go_at_call 20; with_reducible refine (d4 _ (hL.below (bt hB6 b1))).mono ?_; rintro e v7 ⟨rfl, hb⟩; replace Kt := (Kt.on b1).on hb; replace Ku := (Ku.on b1).on hb; replace Kx := (Kx.on b1).on hb; replace Ky := (Ky.on b1).on hb; replace Kf := (Kf.on b1).on hb; replace Kg := (Kg.on b1).on hb; have Kh := ((VB.new false R v6).on b0).on hb; have hB7 := bt (bt hB6 b1) hb; clear hb hB6; clear t0 t1 tl u0 u1 ul x0 x1 x2 xl y0 y1 y2 yl f0 f1 f2 fl g0 g1 g2 gl; obtain ⟨t0, t1, tl⟩ := id Kt; obtain ⟨u0, u1, ul⟩ := id Ku; obtain ⟨x0, x1, x2, xl⟩ := id Kx; obtain ⟨y0, y1, y2, yl⟩ := id Ky; obtain ⟨f0, f1, f2, fl⟩ := id Kf; obtain ⟨g0, g1, g2, gl⟩ := id Kg; obtain ⟨h0, h1, h2, hl⟩ := id Kh)
    | (go_at_call 21; with_reducible refine (d5 _ (hL.below (bt hB7 b1))).mono ?_; rintro e v8 ⟨rfl, hb⟩; replace Kt := (Kt.on b1).on hb; replace Ku := (Ku.on b1).on hb; replace Kx := (Kx.on b1).on hb; replace Ky := (Ky.on b1).on hb; replace Kf := (Kf.on b1).on hb; replace Kg := (Kg.on b1).on hb; replace Kh := (Kh.on b1).on hb; have Kj := ((VB.new false R v7).on b0).on hb; have hB8 := bt (bt hB7 b1) hb; clear hb hB7; clear t0 t1 tl u0 u1 ul x0 x1 x2 xl y0 y1 y2 yl f0 f1 f2 fl g0 g1 g2 gl h0 h1 h2 hl; obtain ⟨t0, t1, tl⟩ := id Kt; obtain ⟨u0, u1, ul⟩ := id Ku; obtain ⟨x0, x1, x2, xl⟩ := id Kx; obtain ⟨y0, y1, y2, yl⟩ := id Ky; obtain ⟨f0, f1, f2, fl⟩ := id Kf; obtain ⟨g0, g1, g2, gl⟩ := id Kg; obtain ⟨h0, h1, h2, hl⟩ := id Kh; obtain ⟨j0, j1, j2, jl⟩ := id Kj)
    | (go_at_call 21; with_reducible refine (d6 _ (hL.below (bt hB8 b0))).mono ?_; rintro e v9 ⟨rfl, hb⟩; replace Kt := (Kt.on b0).on hb; replace Ku := (Ku.on b0).on hb; replace Kx := (Kx.on b0).on hb; replace Ky := (Ky.on b0).on hb; replace Kf := (Kf.on b0).on hb; replace Kg := (Kg.on b0).on hb; replace Kh := (Kh.on b0).on hb; replace Kj := (Kj.on b0).on hb; have hB9 := bt (bt hB8 b0) hb; clear hb hB8; clear t0 t1 tl u0 u1 ul x0 x1 x2 xl y0 y1 y2 yl f0 f1 f2 fl g0 g1 g2 gl h0 h1 h2 hl j0 j1 j2 jl; obtain ⟨t0, t1, tl⟩ := id Kt; obtain ⟨u0, u1, ul⟩ := id Ku; obtain ⟨x0, x1, x2, xl⟩ := id Kx; obtain ⟨y0, y1, y2, yl⟩ := id Ky; obtain ⟨f0, f1, f2, fl⟩ := id Kf; obtain ⟨g0, g1, g2, gl⟩ := id Kg; obtain ⟨h0, h1, h2, hl⟩ := id Kh; obtain ⟨j0, j1, j2, jl⟩ := id Kj))
  go_ret
  first
    | exact ⟨rfl, hB9⟩
    | exact ⟨rfl, bt hB9 b1⟩

set_option maxRecDepth 100000 in
set_option maxHeartbeats 16000000 in
theorem turns_good (a b s u p q M : Int) (hr : room a = true) (hrb : room b = true) (hs : 0 ≤ s ∧ s ≤ 255) (hu : 0 ≤ u ∧ u ≤ 255) (hp : s % 10 = p) (hq : u % 10 = q) (hM : max p q = M) (S V : Int) (k1 : arV 43 false a ⟨#[]⟩ false b ⟨#[]⟩ (kindOf p) p (kindOf q) q = (false, S, 0)) (k2 : arV 43 false b ⟨#[]⟩ false a ⟨#[]⟩ (kindOf q) q (kindOf p) p = (false, S, 0)) (hS : room S = true) (hV : room V = true) (k8 : arV 45 false S ⟨#[]⟩ false b ⟨#[]⟩ (kindOf M) M (kindOf q) q = (false, V, 0)) (k9 : cmpV false V ⟨#[]⟩ false a ⟨#[]⟩ (kindOf M) M (kindOf p) p = (0, true)) (w : World) (hL : Laid w) :
    Calls Tryd.prog 4 #[.int .i64 a, .int .i64 b, .int .u8 s, .int .u8 u] w fun e w' => e = .returned (.bool true) ∧ Below w.heap.size w w' := by
  have hh := fun (_ : Unit) => head_value w hL
  have hp0 : 0 ≤ p ∧ p ≤ 9 := by omega
  have hq0 : 0 ≤ q ∧ q ≤ 9 := by omega
  obtain ⟨R, er, k3, k4⟩ := times_two a b hp0 hq0
  obtain ⟨c, k5, k6, hc⟩ := cmp_two a b hp0 hq0
  have n1 := fun w => law_number s p hs.1 hs.2 hp w
  have n2 := fun w => law_number u q hu.1 hu.2 hq w
  have d1 := fun w hL => arith_call (by omega) hr hrb k1 w hL
  have d2 := fun w hL => arith_call (by omega) hrb hr k2 w hL
  have d3 := fun w hL => arith_call (by omega) hr hrb k3 w hL
  have d4 := fun w hL => arith_call (by omega) hrb hr k4 w hL
  have d5 := fun w hL => cmp_call hr hrb k5 w hL
  have d6 := fun w hL => cmp_call hrb hr k6 w hL
  have d7 := fun w => arT_call (by omega) (arT_sum hp0 hq0 hM) w
  have d8 := fun w hL => arith_call (by omega) hS hrb k8 w hL
  have d9 := fun w hL => cmp_call hV hr k9 w hL
  clear k8 k9 hS hV
  clear k1 k2 k3 k4 k5 k6 hr hrb hp hq hs hu hp0 hq0 hM
  go_enter Tryd.func4, Tryd.ntmps4
  go_wp2_with (first
    | (go_at_call 10; (with_reducible refine (hh ()).mono ?_); rintro e v1 ⟨rfl, hb⟩; have hB1 := hb; clear hb)
    | (go_at_call 19; with_reducible refine (n1 _).mono ?_; rintro e v2 ⟨rfl, hb⟩; have hB2 := bt (bt hB1 b0) hb; clear hb hB1)
    | (go_at_call 19; with_reducible refine (n2 _).mono ?_; rintro e v3 ⟨rfl, hb⟩; have Kt := ((TB.new (kindOf p) p v2).on b0).on hb; have hB3 := bt (bt hB2 b1) hb; clear hb hB2; obtain ⟨t0, t1, tl⟩ := id Kt; have tl1 : v2.heap.size < v3.heap.size + 1 := Nat.lt_succ_of_lt tl; have tl2 : v2.heap.size < v3.heap.size + 1 + 1 := Nat.lt_succ_of_lt tl1)
    | (go_at_call 20; with_reducible refine (d1 _ (hL.below (bt hB3 b3))).mono ?_; rintro e v4 ⟨rfl, hb⟩; replace Kt := (Kt.on b3).on hb; have Ku := ((TB.new (kindOf q) q v3).on b2).on hb; have Kx := ((VB.new1 false a v3 (.cells #[.int .i64 (kindOf q), .int .i64 q] 23)).on b1).on hb; have Ky := ((VB.new2 false b v3 (.cells #[.int .i64 (kindOf q), .int .i64 q] 23) (.cells #[.bool false, .int .i64 a, .string ⟨#[]⟩] 25)).on b0).on hb; have hB4 := bt (bt hB3 b3) hb; clear hb hB3; clear t0 t1 tl; obtain ⟨t0, t1, tl⟩ := id Kt; obtain ⟨u0, u1, ul⟩ := id Ku; obtain ⟨x0, x1, x2, xl⟩ := id Kx; obtain ⟨y0, y1, y2, yl⟩ := id Ky)
    | (go_at_call 20; with_reducible refine (d2 _ (hL.below (bt hB4 b1))).mono ?_; rintro e v5 ⟨rfl, hb⟩; replace Kt := (Kt.on b1).on hb; replace Ku := (Ku.on b1).on hb; replace Kx := (Kx.on b1).on hb; replace Ky := (Ky.on b1).on hb; have Kf := ((VB.new false S v4).on b0).on hb; have hB5 := bt (bt hB4 b1) hb; clear hb hB4; clear t0 t1 tl u0 u1 ul x0 x1 x2 xl y0 y1 y2 yl; obtain ⟨t0, t1, tl⟩ := id Kt; obtain ⟨u0, u1, ul⟩ := id Ku; obtain ⟨x0, x1, x2, xl⟩ := id Kx; obtain ⟨y0, y1, y2, yl⟩ := id Ky; obtain ⟨f0, f1, f2, fl⟩ := id Kf)
    | (go_at_call 20; with_reducible refine (d3 _ (hL.below (bt hB5 b1))).mono ?_; rintro e v6 ⟨rfl, hb⟩; replace Kt := (Kt.on b1).on hb; replace Ku := (Ku.on b1).on hb; replace Kx := (Kx.on b1).on hb; replace Ky := (Ky.on b1).on hb; replace Kf := (Kf.on b1).on hb; have Kg := ((VB.new false S v5).on b0).on hb; have hB6 := bt (bt hB5 b1) hb; clear hb hB5; clear t0 t1 tl u0 u1 ul x0 x1 x2 xl y0 y1 y2 yl f0 f1 f2 fl; obtain ⟨t0, t1, tl⟩ := id Kt; obtain ⟨u0, u1, ul⟩ := id Ku; obtain ⟨x0, x1, x2, xl⟩ := id Kx; obtain ⟨y0, y1, y2, yl⟩ := id Ky; obtain ⟨f0, f1, f2, fl⟩ := id Kf; obtain ⟨g0, g1, g2, gl⟩ := id Kg)
    | (go_at_call 20; with_reducible refine (d4 _ (hL.below (bt hB6 b1))).mono ?_; rintro e v7 ⟨rfl, hb⟩; replace Kt := (Kt.on b1).on hb; replace Ku := (Ku.on b1).on hb; replace Kx := (Kx.on b1).on hb; replace Ky := (Ky.on b1).on hb; replace Kf := (Kf.on b1).on hb; replace Kg := (Kg.on b1).on hb; have Kh := ((VB.new false R v6).on b0).on hb; have hB7 := bt (bt hB6 b1) hb; clear hb hB6; clear t0 t1 tl u0 u1 ul x0 x1 x2 xl y0 y1 y2 yl f0 f1 f2 fl g0 g1 g2 gl; obtain ⟨t0, t1, tl⟩ := id Kt; obtain ⟨u0, u1, ul⟩ := id Ku; obtain ⟨x0, x1, x2, xl⟩ := id Kx; obtain ⟨y0, y1, y2, yl⟩ := id Ky; obtain ⟨f0, f1, f2, fl⟩ := id Kf; obtain ⟨g0, g1, g2, gl⟩ := id Kg; obtain ⟨h0, h1, h2, hl⟩ := id Kh)
    | (go_at_call 21; with_reducible refine (d5 _ (hL.below (bt hB7 b1))).mono ?_; rintro e v8 ⟨rfl, hb⟩; replace Kt := (Kt.on b1).on hb; replace Ku := (Ku.on b1).on hb; replace Kx := (Kx.on b1).on hb; replace Ky := (Ky.on b1).on hb; replace Kf := (Kf.on b1).on hb; replace Kg := (Kg.on b1).on hb; replace Kh := (Kh.on b1).on hb; have Kj := ((VB.new false R v7).on b0).on hb; have hB8 := bt (bt hB7 b1) hb; clear hb hB7; clear t0 t1 tl u0 u1 ul x0 x1 x2 xl y0 y1 y2 yl f0 f1 f2 fl g0 g1 g2 gl h0 h1 h2 hl; obtain ⟨t0, t1, tl⟩ := id Kt; obtain ⟨u0, u1, ul⟩ := id Ku; obtain ⟨x0, x1, x2, xl⟩ := id Kx; obtain ⟨y0, y1, y2, yl⟩ := id Ky; obtain ⟨f0, f1, f2, fl⟩ := id Kf; obtain ⟨g0, g1, g2, gl⟩ := id Kg; obtain ⟨h0, h1, h2, hl⟩ := id Kh; obtain ⟨j0, j1, j2, jl⟩ := id Kj)
    | (go_at_call 21; with_reducible refine (d6 _ (hL.below (bt hB8 b0))).mono ?_; rintro e v9 ⟨rfl, hb⟩; replace Kt := (Kt.on b0).on hb; replace Ku := (Ku.on b0).on hb; replace Kx := (Kx.on b0).on hb; replace Ky := (Ky.on b0).on hb; replace Kf := (Kf.on b0).on hb; replace Kg := (Kg.on b0).on hb; replace Kh := (Kh.on b0).on hb; replace Kj := (Kj.on b0).on hb; have hB9 := bt (bt hB8 b0) hb; clear hb hB8; clear t0 t1 tl u0 u1 ul x0 x1 x2 xl y0 y1 y2 yl f0 f1 f2 fl g0 g1 g2 gl h0 h1 h2 hl j0 j1 j2 jl; obtain ⟨t0, t1, tl⟩ := id Kt; obtain ⟨u0, u1, ul⟩ := id Ku; obtain ⟨x0, x1, x2, xl⟩ := id Kx; obtain ⟨y0, y1, y2, yl⟩ := id Ky; obtain ⟨f0, f1, f2, fl⟩ := id Kf; obtain ⟨g0, g1, g2, gl⟩ := id Kg; obtain ⟨h0, h1, h2, hl⟩ := id Kh; obtain ⟨j0, j1, j2, jl⟩ := id Kj)
    | (go_at_call 11; with_reducible refine (d7 _).mono ?_; rintro e v10 ⟨rfl, hb⟩; replace Kt := (Kt.on b0).on hb; replace Ku := (Ku.on b0).on hb; replace Kx := (Kx.on b0).on hb; replace Ky := (Ky.on b0).on hb; replace Kf := (Kf.on b0).on hb; replace Kg := (Kg.on b0).on hb; replace Kh := (Kh.on b0).on hb; replace Kj := (Kj.on b0).on hb; have hB10 := bt (bt hB9 b0) hb; clear hb hB9; clear t0 t1 tl u0 u1 ul x0 x1 x2 xl y0 y1 y2 yl f0 f1 f2 fl g0 g1 g2 gl h0 h1 h2 hl j0 j1 j2 jl; obtain ⟨t0, t1, tl⟩ := id Kt; obtain ⟨u0, u1, ul⟩ := id Ku; obtain ⟨x0, x1, x2, xl⟩ := id Kx; obtain ⟨y0, y1, y2, yl⟩ := id Ky; obtain ⟨f0, f1, f2, fl⟩ := id Kf; obtain ⟨g0, g1, g2, gl⟩ := id Kg; obtain ⟨h0, h1, h2, hl⟩ := id Kh; obtain ⟨j0, j1, j2, jl⟩ := id Kj)
    | (go_at_call 20; with_reducible refine (d8 _ (hL.below (bt hB10 b1))).mono ?_; rintro e v11 ⟨rfl, hb⟩; replace Kt := (Kt.on b1).on hb; replace Ku := (Ku.on b1).on hb; replace Kx := (Kx.on b1).on hb; replace Ky := (Ky.on b1).on hb; replace Kf := (Kf.on b1).on hb; replace Kg := (Kg.on b1).on hb; replace Kh := (Kh.on b1).on hb; replace Kj := (Kj.on b1).on hb; have Kk := ((TB.new (kindOf M) M v10).on b0).on hb; have hB11 := bt (bt hB10 b1) hb; clear hb hB10; clear t0 t1 tl u0 u1 ul x0 x1 x2 xl y0 y1 y2 yl f0 f1 f2 fl g0 g1 g2 gl h0 h1 h2 hl j0 j1 j2 jl; obtain ⟨t0, t1, tl⟩ := id Kt; obtain ⟨u0, u1, ul⟩ := id Ku; obtain ⟨x0, x1, x2, xl⟩ := id Kx; obtain ⟨y0, y1, y2, yl⟩ := id Ky; obtain ⟨f0, f1, f2, fl⟩ := id Kf; obtain ⟨g0, g1, g2, gl⟩ := id Kg; obtain ⟨h0, h1, h2, hl⟩ := id Kh; obtain ⟨j0, j1, j2, jl⟩ := id Kj; obtain ⟨k0, k1, kl⟩ := id Kk)
    | (go_at_call 21; with_reducible refine (d9 _ (hL.below (bt hB11 b1))).mono ?_; rintro e v12 ⟨rfl, hb⟩; replace Kt := (Kt.on b1).on hb; replace Ku := (Ku.on b1).on hb; replace Kx := (Kx.on b1).on hb; replace Ky := (Ky.on b1).on hb; replace Kf := (Kf.on b1).on hb; replace Kg := (Kg.on b1).on hb; replace Kh := (Kh.on b1).on hb; replace Kj := (Kj.on b1).on hb; replace Kk := (Kk.on b1).on hb; have Kl := ((VB.new false V v11).on b0).on hb; have hB12 := bt (bt hB11 b1) hb; clear hb hB11; clear t0 t1 tl u0 u1 ul x0 x1 x2 xl y0 y1 y2 yl f0 f1 f2 fl g0 g1 g2 gl h0 h1 h2 hl j0 j1 j2 jl k0 k1 kl; obtain ⟨t0, t1, tl⟩ := id Kt; obtain ⟨u0, u1, ul⟩ := id Ku; obtain ⟨x0, x1, x2, xl⟩ := id Kx; obtain ⟨y0, y1, y2, yl⟩ := id Ky; obtain ⟨f0, f1, f2, fl⟩ := id Kf; obtain ⟨g0, g1, g2, gl⟩ := id Kg; obtain ⟨h0, h1, h2, hl⟩ := id Kh; obtain ⟨j0, j1, j2, jl⟩ := id Kj; obtain ⟨k0, k1, kl⟩ := id Kk; obtain ⟨l0, l1, l2, ll⟩ := id Kl))
  go_ret
  first
    | exact ⟨rfl, hB12⟩
    | exact ⟨rfl, bt hB12 b1⟩

theorem valueTurns_walk (a b s u : Int) (ha : -9223372036854775808 ≤ a ∧ a ≤ 9223372036854775807) (hb : -9223372036854775808 ≤ b ∧ b ≤ 9223372036854775807) (hs : 0 ≤ s ∧ s ≤ 255) (hu : 0 ≤ u ∧ u ≤ 255) (w : World) (hL : Laid w) :
    Calls Tryd.prog 4 #[.int .i64 a, .int .i64 b, .int .u8 s, .int .u8 u] w fun e w' => e = .returned (.bool true) ∧ Below w.heap.size w w' := by
  have hp0 : 0 ≤ s % 10 ∧ s % 10 ≤ 9 := by omega
  have hq0 : 0 ≤ u % 10 ∧ u % 10 ≤ 9 := by omega
  rcases plus_two a b hp0 hq0 rfl with ⟨S, V, k1, k2, hS, hV, k8, k9⟩ | ⟨k1, k2⟩
  · exact turns_good a b s u _ _ _ (room_true.2 ha) (room_true.2 hb) hs hu rfl rfl rfl S V k1 k2 hS hV k8 k9 w hL
  · exact turns_bad a b s u _ _ _ (room_true.2 ha) (room_true.2 hb) hs hu rfl rfl rfl k1 k2 w hL
end Go.Proofs.YtfjoobopfjahcaaDoor
