/-
  ValueOrders over byte strings: walked. No statement is proved here.
-/
import Derived.Test.YtfjoobopfjahcaaDoorVuFitC
namespace Go.Proofs.YtfjoobopfjahcaaDoor
set_option linter.unusedVariables false
open Go.RowKit

set_option maxRecDepth 100000 in
set_option maxHeartbeats 32000000 in
theorem ordT_eqf (na : Int) (za : ByteArray) (nb : Int) (zb : ByteArray) (uc : Bool) (nc : Int) (zc : ByteArray) (g p : Int) (hg : 0 ≤ g ∧ g ≤ 255) (hp : g % 10 = p) (x z : ByteArray) (xw : Int) 
    (f1 : ∀ tb w, w.cell? ⟨tb, 0, none⟩ = some (.bool true) → Calls Tryd.prog 25 #[.agg #[.bool false, .int .i64 na, .string za], .pointer (some ⟨tb, 0, none⟩)] w fun e w' => e = .returned (.agg #[.bool false, .int .i64 0, .string x]) ∧ Below w.heap.size w w')
    (f2 : ∀ tb w, w.cell? ⟨tb, 0, none⟩ = some (.bool true) → Calls Tryd.prog 25 #[.agg #[.bool false, .int .i64 nb, .string zb], .pointer (some ⟨tb, 0, none⟩)] w fun e w' => e = .returned (.agg #[.bool false, .int .i64 0, .string x]) ∧ Below w.heap.size w w')
    (f3 : ∀ tb w, w.cell? ⟨tb, 0, none⟩ = some (.bool true) → Calls Tryd.prog 25 #[.agg #[.bool uc, .int .i64 nc, .string zc], .pointer (some ⟨tb, 0, none⟩)] w fun e w' => e = .returned (.agg #[.bool uc, .int .i64 0, .string z]) ∧ Below w.heap.size w w')
    (o1 : ∀ w, Laid w → Calls Tryd.prog 26 #[.agg #[.bool false, .int .i64 0, .string x], .agg #[.bool false, .int .i64 0, .string x], .agg #[.int .i64 3, .int .i64 0]] w fun e w' => e = .returned (.int .i64 0) ∧ Below w.heap.size w w')
    (o2 : ∀ w, Laid w → Calls Tryd.prog 26 #[.agg #[.bool false, .int .i64 0, .string x], .agg #[.bool uc, .int .i64 0, .string z], .agg #[.int .i64 3, .int .i64 0]] w fun e w' => e = .returned (.int .i64 xw) ∧ Below w.heap.size w w')
    (w : World) (hL : Laid w) :
    Calls Tryd.prog 7 #[.agg #[.bool false, .int .i64 na, .string za], .agg #[.bool false, .int .i64 nb, .string zb], .agg #[.bool uc, .int .i64 nc, .string zc], .int .u8 g, .bool true] w fun e w' => e = .returned (.bool true) ∧ Below w.heap.size w w' := by
  have L0 : ∀ A B C D, Laid ((((w.alloc A).alloc B).alloc C).alloc D) := fun A B C D => (((hL.alloc A).alloc B).alloc C).alloc D
  have hh := fun A B C D => head_value _ (L0 A B C D)
  have n1 := fun w => law_number g p hg.1 hg.2 hp w
  clear hg hp
  go_enter Tryd.func7, Tryd.ntmps7
  go_wp2_with (first
    | (go_at_call 26; (with_reducible refine (o1 _ (hL.below hB9)).mono ?_); rintro e v10 ⟨rfl, hb⟩; have hB10 := bt hB9 hb; replace Kt := Kt.on hb; replace Kx := Kx.on hb; replace Ky := Ky.on hb; replace Kz := Kz.on hb; clear hb t0 t1 tl x0 x1 x2 xl y0 y1 y2 yl z0 z1 z2 zl; obtain ⟨t0, t1, tl⟩ := id Kt; obtain ⟨x0, x1, x2, xl⟩ := id Kx; obtain ⟨y0, y1, y2, yl⟩ := id Ky; obtain ⟨z0, z1, z2, zl⟩ := id Kz)
    | (go_at_call 26; (with_reducible refine (o1 _ (hL.below hB8)).mono ?_); rintro e v9 ⟨rfl, hb⟩; have hB9 := bt hB8 hb; replace Kt := Kt.on hb; replace Kx := Kx.on hb; replace Ky := Ky.on hb; replace Kz := Kz.on hb; clear hb t0 t1 tl x0 x1 x2 xl y0 y1 y2 yl z0 z1 z2 zl; obtain ⟨t0, t1, tl⟩ := id Kt; obtain ⟨x0, x1, x2, xl⟩ := id Kx; obtain ⟨y0, y1, y2, yl⟩ := id Ky; obtain ⟨z0, z1, z2, zl⟩ := id Kz)
    | (go_at_call 26; (with_reducible refine (o2 _ (hL.below hB7)).mono ?_); rintro e v8 ⟨rfl, hb⟩; have hB8 := bt hB7 hb; replace Kt := Kt.on hb; replace Kx := Kx.on hb; replace Ky := Ky.on hb; replace Kz := Kz.on hb; clear hb t0 t1 tl x0 x1 x2 xl y0 y1 y2 yl z0 z1 z2 zl; obtain ⟨t0, t1, tl⟩ := id Kt; obtain ⟨x0, x1, x2, xl⟩ := id Kx; obtain ⟨y0, y1, y2, yl⟩ := id Ky; obtain ⟨z0, z1, z2, zl⟩ := id Kz)
    | (go_at_call 26; (with_reducible refine (o2 _ (hL.below hB6)).mono ?_); rintro e v7 ⟨rfl, hb⟩; have hB7 := bt hB6 hb; replace Kt := Kt.on hb; replace Kx := Kx.on hb; replace Ky := Ky.on hb; replace Kz := Kz.on hb; clear hb t0 t1 tl x0 x1 x2 xl y0 y1 y2 yl z0 z1 z2 zl; obtain ⟨t0, t1, tl⟩ := id Kt; obtain ⟨x0, x1, x2, xl⟩ := id Kx; obtain ⟨y0, y1, y2, yl⟩ := id Ky; obtain ⟨z0, z1, z2, zl⟩ := id Kz)
    | (go_at_call 26; (with_reducible refine (o1 _ (hL.below (bt hB5 b1))).mono ?_); rintro e v6 ⟨rfl, hb⟩; have hB6 := bt (bt hB5 b1) hb; replace Kt := (Kt.on b1).on hb; replace Kx := (Kx.on b1).on hb; replace Ky := (Ky.on b1).on hb; have Kz := (OB.new uc 0 z v5).on hb; clear hb t0 t1 tl x0 x1 x2 xl y0 y1 y2 yl; obtain ⟨t0, t1, tl⟩ := id Kt; obtain ⟨x0, x1, x2, xl⟩ := id Kx; obtain ⟨y0, y1, y2, yl⟩ := id Ky; obtain ⟨z0, z1, z2, zl⟩ := id Kz)
    | (go_at_call 25; (with_reducible refine (f3 _ _ (K.on b1).t).mono ?_); rintro e v5 ⟨rfl, hb⟩; have hB5 := bt (bt hB4 b1) hb; replace Kt := (Kt.on b1).on hb; replace Kx := (Kx.on b1).on hb; have Ky := (OB.new false 0 x v4).on hb; clear hb; clear a0 a1 a2 al e0 e1 e2 el g0 g1 g2 gl k0 kl; clear t0 t1 tl x0 x1 x2 xl K; obtain ⟨t0, t1, tl⟩ := id Kt; obtain ⟨x0, x1, x2, xl⟩ := id Kx; obtain ⟨y0, y1, y2, yl⟩ := id Ky)
    | (go_at_call 25; (with_reducible refine (f2 _ _ (K.on b1).t).mono ?_); rintro e v4 ⟨rfl, hb⟩; have hB4 := bt (bt hB3 b1) hb; replace K := (K.on b1).on hb; replace Kt := (Kt.on b1).on hb; have Kx := (OB.new false 0 x v3).on hb; clear hb; clear a0 a1 a2 al e0 e1 e2 el g0 g1 g2 gl k0 kl; clear t0 t1 tl; obtain ⟨⟨a0, a1, a2, al⟩, ⟨e0, e1, e2, el⟩, ⟨g0, g1, g2, gl⟩, k0, kl⟩ := id K; obtain ⟨t0, t1, tl⟩ := id Kt; obtain ⟨x0, x1, x2, xl⟩ := id Kx)
    | (go_at_call 25; (with_reducible refine (f1 _ _ (K.on b1).t).mono ?_); rintro e v3 ⟨rfl, hb⟩; have hB3 := bt (bt hB2 b1) hb; replace K := (K.on b1).on hb; have Kt := (TB.new 3 0 v2).on hb; clear hb; clear a0 a1 a2 al e0 e1 e2 el g0 g1 g2 gl k0 kl; obtain ⟨⟨a0, a1, a2, al⟩, ⟨e0, e1, e2, el⟩, ⟨g0, g1, g2, gl⟩, k0, kl⟩ := id K; obtain ⟨t0, t1, tl⟩ := id Kt)
    | (go_at_call 19; (with_reducible refine (n1 _).mono ?_); rintro e v2 ⟨rfl, hb⟩; have hB2 := bt hB1 hb; replace K := K.on hb; clear hb; obtain ⟨⟨a0, a1, a2, al⟩, ⟨e0, e1, e2, el⟩, ⟨g0, g1, g2, gl⟩, k0, kl⟩ := id K)
    | (go_at_call 10; (with_reducible refine (hh _ _ _ _).mono ?_); rintro e v1 ⟨rfl, hb⟩; have hB1 := bt b4 hb; have K := (O4.new false na za false nb zb uc nc zc true w).on hb; clear hb))
  all_goals
    go_ret
    exact ⟨by first | rfl | (refine ret_true ?_; simp; done) | (refine ret_true ?_; simp; omega), by assumption⟩

set_option maxRecDepth 100000 in
set_option maxHeartbeats 32000000 in
theorem ordT_eqt (na : Int) (za : ByteArray) (nb : Int) (zb : ByteArray) (uc : Bool) (nc : Int) (zc : ByteArray) (g p : Int) (hg : 0 ≤ g ∧ g ≤ 255) (hp : g % 10 = p) (x z : ByteArray) (xw : Int) 
    (f1 : ∀ tb w, w.cell? ⟨tb, 0, none⟩ = some (.bool true) → Calls Tryd.prog 25 #[.agg #[.bool true, .int .i64 na, .string za], .pointer (some ⟨tb, 0, none⟩)] w fun e w' => e = .returned (.agg #[.bool true, .int .i64 0, .string x]) ∧ Below w.heap.size w w')
    (f2 : ∀ tb w, w.cell? ⟨tb, 0, none⟩ = some (.bool true) → Calls Tryd.prog 25 #[.agg #[.bool true, .int .i64 nb, .string zb], .pointer (some ⟨tb, 0, none⟩)] w fun e w' => e = .returned (.agg #[.bool true, .int .i64 0, .string x]) ∧ Below w.heap.size w w')
    (f3 : ∀ tb w, w.cell? ⟨tb, 0, none⟩ = some (.bool true) → Calls Tryd.prog 25 #[.agg #[.bool uc, .int .i64 nc, .string zc], .pointer (some ⟨tb, 0, none⟩)] w fun e w' => e = .returned (.agg #[.bool uc, .int .i64 0, .string z]) ∧ Below w.heap.size w w')
    (o1 : ∀ w, Laid w → Calls Tryd.prog 26 #[.agg #[.bool true, .int .i64 0, .string x], .agg #[.bool true, .int .i64 0, .string x], .agg #[.int .i64 3, .int .i64 0]] w fun e w' => e = .returned (.int .i64 0) ∧ Below w.heap.size w w')
    (o2 : ∀ w, Laid w → Calls Tryd.prog 26 #[.agg #[.bool true, .int .i64 0, .string x], .agg #[.bool uc, .int .i64 0, .string z], .agg #[.int .i64 3, .int .i64 0]] w fun e w' => e = .returned (.int .i64 xw) ∧ Below w.heap.size w w')
    (w : World) (hL : Laid w) :
    Calls Tryd.prog 7 #[.agg #[.bool true, .int .i64 na, .string za], .agg #[.bool true, .int .i64 nb, .string zb], .agg #[.bool uc, .int .i64 nc, .string zc], .int .u8 g, .bool true] w fun e w' => e = .returned (.bool true) ∧ Below w.heap.size w w' := by
  have L0 : ∀ A B C D, Laid ((((w.alloc A).alloc B).alloc C).alloc D) := fun A B C D => (((hL.alloc A).alloc B).alloc C).alloc D
  have hh := fun A B C D => head_value _ (L0 A B C D)
  have n1 := fun w => law_number g p hg.1 hg.2 hp w
  clear hg hp
  go_enter Tryd.func7, Tryd.ntmps7
  go_wp2_with (first
    | (go_at_call 26; (with_reducible refine (o1 _ (hL.below hB9)).mono ?_); rintro e v10 ⟨rfl, hb⟩; have hB10 := bt hB9 hb; replace Kt := Kt.on hb; replace Kx := Kx.on hb; replace Ky := Ky.on hb; replace Kz := Kz.on hb; clear hb t0 t1 tl x0 x1 x2 xl y0 y1 y2 yl z0 z1 z2 zl; obtain ⟨t0, t1, tl⟩ := id Kt; obtain ⟨x0, x1, x2, xl⟩ := id Kx; obtain ⟨y0, y1, y2, yl⟩ := id Ky; obtain ⟨z0, z1, z2, zl⟩ := id Kz)
    | (go_at_call 26; (with_reducible refine (o1 _ (hL.below hB8)).mono ?_); rintro e v9 ⟨rfl, hb⟩; have hB9 := bt hB8 hb; replace Kt := Kt.on hb; replace Kx := Kx.on hb; replace Ky := Ky.on hb; replace Kz := Kz.on hb; clear hb t0 t1 tl x0 x1 x2 xl y0 y1 y2 yl z0 z1 z2 zl; obtain ⟨t0, t1, tl⟩ := id Kt; obtain ⟨x0, x1, x2, xl⟩ := id Kx; obtain ⟨y0, y1, y2, yl⟩ := id Ky; obtain ⟨z0, z1, z2, zl⟩ := id Kz)
    | (go_at_call 26; (with_reducible refine (o2 _ (hL.below hB7)).mono ?_); rintro e v8 ⟨rfl, hb⟩; have hB8 := bt hB7 hb; replace Kt := Kt.on hb; replace Kx := Kx.on hb; replace Ky := Ky.on hb; replace Kz := Kz.on hb; clear hb t0 t1 tl x0 x1 x2 xl y0 y1 y2 yl z0 z1 z2 zl; obtain ⟨t0, t1, tl⟩ := id Kt; obtain ⟨x0, x1, x2, xl⟩ := id Kx; obtain ⟨y0, y1, y2, yl⟩ := id Ky; obtain ⟨z0, z1, z2, zl⟩ := id Kz)
    | (go_at_call 26; (with_reducible refine (o2 _ (hL.below hB6)).mono ?_); rintro e v7 ⟨rfl, hb⟩; have hB7 := bt hB6 hb; replace Kt := Kt.on hb; replace Kx := Kx.on hb; replace Ky := Ky.on hb; replace Kz := Kz.on hb; clear hb t0 t1 tl x0 x1 x2 xl y0 y1 y2 yl z0 z1 z2 zl; obtain ⟨t0, t1, tl⟩ := id Kt; obtain ⟨x0, x1, x2, xl⟩ := id Kx; obtain ⟨y0, y1, y2, yl⟩ := id Ky; obtain ⟨z0, z1, z2, zl⟩ := id Kz)
    | (go_at_call 26; (with_reducible refine (o1 _ (hL.below (bt hB5 b1))).mono ?_); rintro e v6 ⟨rfl, hb⟩; have hB6 := bt (bt hB5 b1) hb; replace Kt := (Kt.on b1).on hb; replace Kx := (Kx.on b1).on hb; replace Ky := (Ky.on b1).on hb; have Kz := (OB.new uc 0 z v5).on hb; clear hb t0 t1 tl x0 x1 x2 xl y0 y1 y2 yl; obtain ⟨t0, t1, tl⟩ := id Kt; obtain ⟨x0, x1, x2, xl⟩ := id Kx; obtain ⟨y0, y1, y2, yl⟩ := id Ky; obtain ⟨z0, z1, z2, zl⟩ := id Kz)
    | (go_at_call 25; (with_reducible refine (f3 _ _ (K.on b1).t).mono ?_); rintro e v5 ⟨rfl, hb⟩; have hB5 := bt (bt hB4 b1) hb; replace Kt := (Kt.on b1).on hb; replace Kx := (Kx.on b1).on hb; have Ky := (OB.new true 0 x v4).on hb; clear hb; clear a0 a1 a2 al e0 e1 e2 el g0 g1 g2 gl k0 kl; clear t0 t1 tl x0 x1 x2 xl K; obtain ⟨t0, t1, tl⟩ := id Kt; obtain ⟨x0, x1, x2, xl⟩ := id Kx; obtain ⟨y0, y1, y2, yl⟩ := id Ky)
    | (go_at_call 25; (with_reducible refine (f2 _ _ (K.on b1).t).mono ?_); rintro e v4 ⟨rfl, hb⟩; have hB4 := bt (bt hB3 b1) hb; replace K := (K.on b1).on hb; replace Kt := (Kt.on b1).on hb; have Kx := (OB.new true 0 x v3).on hb; clear hb; clear a0 a1 a2 al e0 e1 e2 el g0 g1 g2 gl k0 kl; clear t0 t1 tl; obtain ⟨⟨a0, a1, a2, al⟩, ⟨e0, e1, e2, el⟩, ⟨g0, g1, g2, gl⟩, k0, kl⟩ := id K; obtain ⟨t0, t1, tl⟩ := id Kt; obtain ⟨x0, x1, x2, xl⟩ := id Kx)
    | (go_at_call 25; (with_reducible refine (f1 _ _ (K.on b1).t).mono ?_); rintro e v3 ⟨rfl, hb⟩; have hB3 := bt (bt hB2 b1) hb; replace K := (K.on b1).on hb; have Kt := (TB.new 3 0 v2).on hb; clear hb; clear a0 a1 a2 al e0 e1 e2 el g0 g1 g2 gl k0 kl; obtain ⟨⟨a0, a1, a2, al⟩, ⟨e0, e1, e2, el⟩, ⟨g0, g1, g2, gl⟩, k0, kl⟩ := id K; obtain ⟨t0, t1, tl⟩ := id Kt)
    | (go_at_call 19; (with_reducible refine (n1 _).mono ?_); rintro e v2 ⟨rfl, hb⟩; have hB2 := bt hB1 hb; replace K := K.on hb; clear hb; obtain ⟨⟨a0, a1, a2, al⟩, ⟨e0, e1, e2, el⟩, ⟨g0, g1, g2, gl⟩, k0, kl⟩ := id K)
    | (go_at_call 10; (with_reducible refine (hh _ _ _ _).mono ?_); rintro e v1 ⟨rfl, hb⟩; have hB1 := bt b4 hb; have K := (O4.new true na za true nb zb uc nc zc true w).on hb; clear hb))
  all_goals
    go_ret
    exact ⟨by first | rfl | (refine ret_true ?_; simp; done) | (refine ret_true ?_; simp; omega), by assumption⟩

set_option maxRecDepth 100000 in
set_option maxHeartbeats 32000000 in
theorem ordT_ft (na : Int) (za : ByteArray) (nb : Int) (zb : ByteArray) (uc : Bool) (nc : Int) (zc : ByteArray) (g p : Int) (hg : 0 ≤ g ∧ g ≤ 255) (hp : g % 10 = p) (x y z : ByteArray) (yw xw : Int) 
    (f1 : ∀ tb w, w.cell? ⟨tb, 0, none⟩ = some (.bool true) → Calls Tryd.prog 25 #[.agg #[.bool false, .int .i64 na, .string za], .pointer (some ⟨tb, 0, none⟩)] w fun e w' => e = .returned (.agg #[.bool false, .int .i64 0, .string x]) ∧ Below w.heap.size w w')
    (f2 : ∀ tb w, w.cell? ⟨tb, 0, none⟩ = some (.bool true) → Calls Tryd.prog 25 #[.agg #[.bool true, .int .i64 nb, .string zb], .pointer (some ⟨tb, 0, none⟩)] w fun e w' => e = .returned (.agg #[.bool true, .int .i64 0, .string y]) ∧ Below w.heap.size w w')
    (f3 : ∀ tb w, w.cell? ⟨tb, 0, none⟩ = some (.bool true) → Calls Tryd.prog 25 #[.agg #[.bool uc, .int .i64 nc, .string zc], .pointer (some ⟨tb, 0, none⟩)] w fun e w' => e = .returned (.agg #[.bool uc, .int .i64 0, .string z]) ∧ Below w.heap.size w w')
    (o1 : ∀ w, Laid w → Calls Tryd.prog 26 #[.agg #[.bool false, .int .i64 0, .string x], .agg #[.bool true, .int .i64 0, .string y], .agg #[.int .i64 3, .int .i64 0]] w fun e w' => e = .returned (.int .i64 1) ∧ Below w.heap.size w w')
    (o2 : ∀ w, Laid w → Calls Tryd.prog 26 #[.agg #[.bool true, .int .i64 0, .string y], .agg #[.bool uc, .int .i64 0, .string z], .agg #[.int .i64 3, .int .i64 0]] w fun e w' => e = .returned (.int .i64 yw) ∧ Below w.heap.size w w')
    (o3 : ∀ w, Laid w → Calls Tryd.prog 26 #[.agg #[.bool false, .int .i64 0, .string x], .agg #[.bool uc, .int .i64 0, .string z], .agg #[.int .i64 3, .int .i64 0]] w fun e w' => e = .returned (.int .i64 xw) ∧ Below w.heap.size w w')
    (o4 : ∀ w, Laid w → Calls Tryd.prog 26 #[.agg #[.bool true, .int .i64 0, .string y], .agg #[.bool false, .int .i64 0, .string x], .agg #[.int .i64 3, .int .i64 0]] w fun e w' => e = .returned (.int .i64 (-1)) ∧ Below w.heap.size w w')
    (o5 : ∀ w, Laid w → Calls Tryd.prog 26 #[.agg #[.bool false, .int .i64 0, .string x], .agg #[.bool false, .int .i64 0, .string x], .agg #[.int .i64 3, .int .i64 0]] w fun e w' => e = .returned (.int .i64 0) ∧ Below w.heap.size w w')
    (w : World) (hL : Laid w) :
    Calls Tryd.prog 7 #[.agg #[.bool false, .int .i64 na, .string za], .agg #[.bool true, .int .i64 nb, .string zb], .agg #[.bool uc, .int .i64 nc, .string zc], .int .u8 g, .bool true] w fun e w' => e = .returned (.bool true) ∧ Below w.heap.size w w' := by
  have L0 : ∀ A B C D, Laid ((((w.alloc A).alloc B).alloc C).alloc D) := fun A B C D => (((hL.alloc A).alloc B).alloc C).alloc D
  have hh := fun A B C D => head_value _ (L0 A B C D)
  have n1 := fun w => law_number g p hg.1 hg.2 hp w
  clear hg hp
  go_enter Tryd.func7, Tryd.ntmps7
  go_wp2_with (first
    | (go_at_call 26; (with_reducible refine (o5 _ (hL.below hB9)).mono ?_); rintro e v10 ⟨rfl, hb⟩; have hB10 := bt hB9 hb; replace Kt := Kt.on hb; replace Kx := Kx.on hb; replace Ky := Ky.on hb; replace Kz := Kz.on hb; clear hb t0 t1 tl x0 x1 x2 xl y0 y1 y2 yl z0 z1 z2 zl; obtain ⟨t0, t1, tl⟩ := id Kt; obtain ⟨x0, x1, x2, xl⟩ := id Kx; obtain ⟨y0, y1, y2, yl⟩ := id Ky; obtain ⟨z0, z1, z2, zl⟩ := id Kz)
    | (go_at_call 26; (with_reducible refine (o4 _ (hL.below hB8)).mono ?_); rintro e v9 ⟨rfl, hb⟩; have hB9 := bt hB8 hb; replace Kt := Kt.on hb; replace Kx := Kx.on hb; replace Ky := Ky.on hb; replace Kz := Kz.on hb; clear hb t0 t1 tl x0 x1 x2 xl y0 y1 y2 yl z0 z1 z2 zl; obtain ⟨t0, t1, tl⟩ := id Kt; obtain ⟨x0, x1, x2, xl⟩ := id Kx; obtain ⟨y0, y1, y2, yl⟩ := id Ky; obtain ⟨z0, z1, z2, zl⟩ := id Kz)
    | (go_at_call 26; (with_reducible refine (o3 _ (hL.below hB7)).mono ?_); rintro e v8 ⟨rfl, hb⟩; have hB8 := bt hB7 hb; replace Kt := Kt.on hb; replace Kx := Kx.on hb; replace Ky := Ky.on hb; replace Kz := Kz.on hb; clear hb t0 t1 tl x0 x1 x2 xl y0 y1 y2 yl z0 z1 z2 zl; obtain ⟨t0, t1, tl⟩ := id Kt; obtain ⟨x0, x1, x2, xl⟩ := id Kx; obtain ⟨y0, y1, y2, yl⟩ := id Ky; obtain ⟨z0, z1, z2, zl⟩ := id Kz)
    | (go_at_call 26; (with_reducible refine (o2 _ (hL.below hB6)).mono ?_); rintro e v7 ⟨rfl, hb⟩; have hB7 := bt hB6 hb; replace Kt := Kt.on hb; replace Kx := Kx.on hb; replace Ky := Ky.on hb; replace Kz := Kz.on hb; clear hb t0 t1 tl x0 x1 x2 xl y0 y1 y2 yl z0 z1 z2 zl; obtain ⟨t0, t1, tl⟩ := id Kt; obtain ⟨x0, x1, x2, xl⟩ := id Kx; obtain ⟨y0, y1, y2, yl⟩ := id Ky; obtain ⟨z0, z1, z2, zl⟩ := id Kz)
    | (go_at_call 26; (with_reducible refine (o1 _ (hL.below (bt hB5 b1))).mono ?_); rintro e v6 ⟨rfl, hb⟩; have hB6 := bt (bt hB5 b1) hb; replace Kt := (Kt.on b1).on hb; replace Kx := (Kx.on b1).on hb; replace Ky := (Ky.on b1).on hb; have Kz := (OB.new uc 0 z v5).on hb; clear hb t0 t1 tl x0 x1 x2 xl y0 y1 y2 yl; obtain ⟨t0, t1, tl⟩ := id Kt; obtain ⟨x0, x1, x2, xl⟩ := id Kx; obtain ⟨y0, y1, y2, yl⟩ := id Ky; obtain ⟨z0, z1, z2, zl⟩ := id Kz)
    | (go_at_call 25; (with_reducible refine (f3 _ _ (K.on b1).t).mono ?_); rintro e v5 ⟨rfl, hb⟩; have hB5 := bt (bt hB4 b1) hb; replace Kt := (Kt.on b1).on hb; replace Kx := (Kx.on b1).on hb; have Ky := (OB.new true 0 y v4).on hb; clear hb; clear a0 a1 a2 al e0 e1 e2 el g0 g1 g2 gl k0 kl; clear t0 t1 tl x0 x1 x2 xl K; obtain ⟨t0, t1, tl⟩ := id Kt; obtain ⟨x0, x1, x2, xl⟩ := id Kx; obtain ⟨y0, y1, y2, yl⟩ := id Ky)
    | (go_at_call 25; (with_reducible refine (f2 _ _ (K.on b1).t).mono ?_); rintro e v4 ⟨rfl, hb⟩; have hB4 := bt (bt hB3 b1) hb; replace K := (K.on b1).on hb; replace Kt := (Kt.on b1).on hb; have Kx := (OB.new false 0 x v3).on hb; clear hb; clear a0 a1 a2 al e0 e1 e2 el g0 g1 g2 gl k0 kl; clear t0 t1 tl; obtain ⟨⟨a0, a1, a2, al⟩, ⟨e0, e1, e2, el⟩, ⟨g0, g1, g2, gl⟩, k0, kl⟩ := id K; obtain ⟨t0, t1, tl⟩ := id Kt; obtain ⟨x0, x1, x2, xl⟩ := id Kx)
    | (go_at_call 25; (with_reducible refine (f1 _ _ (K.on b1).t).mono ?_); rintro e v3 ⟨rfl, hb⟩; have hB3 := bt (bt hB2 b1) hb; replace K := (K.on b1).on hb; have Kt := (TB.new 3 0 v2).on hb; clear hb; clear a0 a1 a2 al e0 e1 e2 el g0 g1 g2 gl k0 kl; obtain ⟨⟨a0, a1, a2, al⟩, ⟨e0, e1, e2, el⟩, ⟨g0, g1, g2, gl⟩, k0, kl⟩ := id K; obtain ⟨t0, t1, tl⟩ := id Kt)
    | (go_at_call 19; (with_reducible refine (n1 _).mono ?_); rintro e v2 ⟨rfl, hb⟩; have hB2 := bt hB1 hb; replace K := K.on hb; clear hb; obtain ⟨⟨a0, a1, a2, al⟩, ⟨e0, e1, e2, el⟩, ⟨g0, g1, g2, gl⟩, k0, kl⟩ := id K)
    | (go_at_call 10; (with_reducible refine (hh _ _ _ _).mono ?_); rintro e v1 ⟨rfl, hb⟩; have hB1 := bt b4 hb; have K := (O4.new false na za true nb zb uc nc zc true w).on hb; clear hb))
  all_goals
    go_ret
    exact ⟨by first | rfl | (refine ret_true ?_; simp; done) | (refine ret_true ?_; simp; omega), by assumption⟩

set_option maxRecDepth 100000 in
set_option maxHeartbeats 32000000 in
theorem ordT_tf (na : Int) (za : ByteArray) (nb : Int) (zb : ByteArray) (uc : Bool) (nc : Int) (zc : ByteArray) (g p : Int) (hg : 0 ≤ g ∧ g ≤ 255) (hp : g % 10 = p) (x y z : ByteArray) (yw xw : Int) (h2 : 0 < yw ∨ xw ≤ 0) 
    (f1 : ∀ tb w, w.cell? ⟨tb, 0, none⟩ = some (.bool true) → Calls Tryd.prog 25 #[.agg #[.bool true, .int .i64 na, .string za], .pointer (some ⟨tb, 0, none⟩)] w fun e w' => e = .returned (.agg #[.bool true, .int .i64 0, .string x]) ∧ Below w.heap.size w w')
    (f2 : ∀ tb w, w.cell? ⟨tb, 0, none⟩ = some (.bool true) → Calls Tryd.prog 25 #[.agg #[.bool false, .int .i64 nb, .string zb], .pointer (some ⟨tb, 0, none⟩)] w fun e w' => e = .returned (.agg #[.bool false, .int .i64 0, .string y]) ∧ Below w.heap.size w w')
    (f3 : ∀ tb w, w.cell? ⟨tb, 0, none⟩ = some (.bool true) → Calls Tryd.prog 25 #[.agg #[.bool uc, .int .i64 nc, .string zc], .pointer (some ⟨tb, 0, none⟩)] w fun e w' => e = .returned (.agg #[.bool uc, .int .i64 0, .string z]) ∧ Below w.heap.size w w')
    (o1 : ∀ w, Laid w → Calls Tryd.prog 26 #[.agg #[.bool true, .int .i64 0, .string x], .agg #[.bool false, .int .i64 0, .string y], .agg #[.int .i64 3, .int .i64 0]] w fun e w' => e = .returned (.int .i64 (-1)) ∧ Below w.heap.size w w')
    (o2 : ∀ w, Laid w → Calls Tryd.prog 26 #[.agg #[.bool false, .int .i64 0, .string y], .agg #[.bool uc, .int .i64 0, .string z], .agg #[.int .i64 3, .int .i64 0]] w fun e w' => e = .returned (.int .i64 yw) ∧ Below w.heap.size w w')
    (o3 : ∀ w, Laid w → Calls Tryd.prog 26 #[.agg #[.bool true, .int .i64 0, .string x], .agg #[.bool uc, .int .i64 0, .string z], .agg #[.int .i64 3, .int .i64 0]] w fun e w' => e = .returned (.int .i64 xw) ∧ Below w.heap.size w w')
    (o4 : ∀ w, Laid w → Calls Tryd.prog 26 #[.agg #[.bool false, .int .i64 0, .string y], .agg #[.bool true, .int .i64 0, .string x], .agg #[.int .i64 3, .int .i64 0]] w fun e w' => e = .returned (.int .i64 1) ∧ Below w.heap.size w w')
    (o5 : ∀ w, Laid w → Calls Tryd.prog 26 #[.agg #[.bool true, .int .i64 0, .string x], .agg #[.bool true, .int .i64 0, .string x], .agg #[.int .i64 3, .int .i64 0]] w fun e w' => e = .returned (.int .i64 0) ∧ Below w.heap.size w w')
    (w : World) (hL : Laid w) :
    Calls Tryd.prog 7 #[.agg #[.bool true, .int .i64 na, .string za], .agg #[.bool false, .int .i64 nb, .string zb], .agg #[.bool uc, .int .i64 nc, .string zc], .int .u8 g, .bool true] w fun e w' => e = .returned (.bool true) ∧ Below w.heap.size w w' := by
  have L0 : ∀ A B C D, Laid ((((w.alloc A).alloc B).alloc C).alloc D) := fun A B C D => (((hL.alloc A).alloc B).alloc C).alloc D
  have hh := fun A B C D => head_value _ (L0 A B C D)
  have n1 := fun w => law_number g p hg.1 hg.2 hp w
  clear hg hp
  go_enter Tryd.func7, Tryd.ntmps7
  go_wp2_with (first
    | (go_at_call 26; (with_reducible refine (o5 _ (hL.below hB9)).mono ?_); rintro e v10 ⟨rfl, hb⟩; have hB10 := bt hB9 hb; replace Kt := Kt.on hb; replace Kx := Kx.on hb; replace Ky := Ky.on hb; replace Kz := Kz.on hb; clear hb t0 t1 tl x0 x1 x2 xl y0 y1 y2 yl z0 z1 z2 zl; obtain ⟨t0, t1, tl⟩ := id Kt; obtain ⟨x0, x1, x2, xl⟩ := id Kx; obtain ⟨y0, y1, y2, yl⟩ := id Ky; obtain ⟨z0, z1, z2, zl⟩ := id Kz)
    | (go_at_call 26; (with_reducible refine (o4 _ (hL.below hB8)).mono ?_); rintro e v9 ⟨rfl, hb⟩; have hB9 := bt hB8 hb; replace Kt := Kt.on hb; replace Kx := Kx.on hb; replace Ky := Ky.on hb; replace Kz := Kz.on hb; clear hb t0 t1 tl x0 x1 x2 xl y0 y1 y2 yl z0 z1 z2 zl; obtain ⟨t0, t1, tl⟩ := id Kt; obtain ⟨x0, x1, x2, xl⟩ := id Kx; obtain ⟨y0, y1, y2, yl⟩ := id Ky; obtain ⟨z0, z1, z2, zl⟩ := id Kz)
    | (go_at_call 26; (with_reducible refine (o3 _ (hL.below hB7)).mono ?_); rintro e v8 ⟨rfl, hb⟩; have hB8 := bt hB7 hb; replace Kt := Kt.on hb; replace Kx := Kx.on hb; replace Ky := Ky.on hb; replace Kz := Kz.on hb; clear hb t0 t1 tl x0 x1 x2 xl y0 y1 y2 yl z0 z1 z2 zl; obtain ⟨t0, t1, tl⟩ := id Kt; obtain ⟨x0, x1, x2, xl⟩ := id Kx; obtain ⟨y0, y1, y2, yl⟩ := id Ky; obtain ⟨z0, z1, z2, zl⟩ := id Kz)
    | (go_at_call 26; (with_reducible refine (o2 _ (hL.below hB6)).mono ?_); rintro e v7 ⟨rfl, hb⟩; have hB7 := bt hB6 hb; replace Kt := Kt.on hb; replace Kx := Kx.on hb; replace Ky := Ky.on hb; replace Kz := Kz.on hb; clear hb t0 t1 tl x0 x1 x2 xl y0 y1 y2 yl z0 z1 z2 zl; obtain ⟨t0, t1, tl⟩ := id Kt; obtain ⟨x0, x1, x2, xl⟩ := id Kx; obtain ⟨y0, y1, y2, yl⟩ := id Ky; obtain ⟨z0, z1, z2, zl⟩ := id Kz)
    | (go_at_call 26; (with_reducible refine (o1 _ (hL.below (bt hB5 b1))).mono ?_); rintro e v6 ⟨rfl, hb⟩; have hB6 := bt (bt hB5 b1) hb; replace Kt := (Kt.on b1).on hb; replace Kx := (Kx.on b1).on hb; replace Ky := (Ky.on b1).on hb; have Kz := (OB.new uc 0 z v5).on hb; clear hb t0 t1 tl x0 x1 x2 xl y0 y1 y2 yl; obtain ⟨t0, t1, tl⟩ := id Kt; obtain ⟨x0, x1, x2, xl⟩ := id Kx; obtain ⟨y0, y1, y2, yl⟩ := id Ky; obtain ⟨z0, z1, z2, zl⟩ := id Kz)
    | (go_at_call 25; (with_reducible refine (f3 _ _ (K.on b1).t).mono ?_); rintro e v5 ⟨rfl, hb⟩; have hB5 := bt (bt hB4 b1) hb; replace Kt := (Kt.on b1).on hb; replace Kx := (Kx.on b1).on hb; have Ky := (OB.new false 0 y v4).on hb; clear hb; clear a0 a1 a2 al e0 e1 e2 el g0 g1 g2 gl k0 kl; clear t0 t1 tl x0 x1 x2 xl K; obtain ⟨t0, t1, tl⟩ := id Kt; obtain ⟨x0, x1, x2, xl⟩ := id Kx; obtain ⟨y0, y1, y2, yl⟩ := id Ky)
    | (go_at_call 25; (with_reducible refine (f2 _ _ (K.on b1).t).mono ?_); rintro e v4 ⟨rfl, hb⟩; have hB4 := bt (bt hB3 b1) hb; replace K := (K.on b1).on hb; replace Kt := (Kt.on b1).on hb; have Kx := (OB.new true 0 x v3).on hb; clear hb; clear a0 a1 a2 al e0 e1 e2 el g0 g1 g2 gl k0 kl; clear t0 t1 tl; obtain ⟨⟨a0, a1, a2, al⟩, ⟨e0, e1, e2, el⟩, ⟨g0, g1, g2, gl⟩, k0, kl⟩ := id K; obtain ⟨t0, t1, tl⟩ := id Kt; obtain ⟨x0, x1, x2, xl⟩ := id Kx)
    | (go_at_call 25; (with_reducible refine (f1 _ _ (K.on b1).t).mono ?_); rintro e v3 ⟨rfl, hb⟩; have hB3 := bt (bt hB2 b1) hb; replace K := (K.on b1).on hb; have Kt := (TB.new 3 0 v2).on hb; clear hb; clear a0 a1 a2 al e0 e1 e2 el g0 g1 g2 gl k0 kl; obtain ⟨⟨a0, a1, a2, al⟩, ⟨e0, e1, e2, el⟩, ⟨g0, g1, g2, gl⟩, k0, kl⟩ := id K; obtain ⟨t0, t1, tl⟩ := id Kt)
    | (go_at_call 19; (with_reducible refine (n1 _).mono ?_); rintro e v2 ⟨rfl, hb⟩; have hB2 := bt hB1 hb; replace K := K.on hb; clear hb; obtain ⟨⟨a0, a1, a2, al⟩, ⟨e0, e1, e2, el⟩, ⟨g0, g1, g2, gl⟩, k0, kl⟩ := id K)
    | (go_at_call 10; (with_reducible refine (hh _ _ _ _).mono ?_); rintro e v1 ⟨rfl, hb⟩; have hB1 := bt b4 hb; have K := (O4.new true na za false nb zb uc nc zc true w).on hb; clear hb))
  all_goals
    go_ret
    exact ⟨by first | rfl | (refine ret_true ?_; simp; done) | (refine ret_true ?_; simp; omega), by assumption⟩

set_option maxRecDepth 100000 in
set_option maxHeartbeats 32000000 in
theorem ordT_up (na : Int) (za : ByteArray) (nb : Int) (zb : ByteArray) (uc : Bool) (nc : Int) (zc : ByteArray) (g p : Int) (hg : 0 ≤ g ∧ g ≤ 255) (hp : g % 10 = p) (x y z : ByteArray) (yw xw : Int) (hne : (x.toList == y.toList) = false) 
    (f1 : ∀ tb w, w.cell? ⟨tb, 0, none⟩ = some (.bool true) → Calls Tryd.prog 25 #[.agg #[.bool false, .int .i64 na, .string za], .pointer (some ⟨tb, 0, none⟩)] w fun e w' => e = .returned (.agg #[.bool false, .int .i64 0, .string x]) ∧ Below w.heap.size w w')
    (f2 : ∀ tb w, w.cell? ⟨tb, 0, none⟩ = some (.bool true) → Calls Tryd.prog 25 #[.agg #[.bool false, .int .i64 nb, .string zb], .pointer (some ⟨tb, 0, none⟩)] w fun e w' => e = .returned (.agg #[.bool false, .int .i64 0, .string y]) ∧ Below w.heap.size w w')
    (f3 : ∀ tb w, w.cell? ⟨tb, 0, none⟩ = some (.bool true) → Calls Tryd.prog 25 #[.agg #[.bool uc, .int .i64 nc, .string zc], .pointer (some ⟨tb, 0, none⟩)] w fun e w' => e = .returned (.agg #[.bool uc, .int .i64 0, .string z]) ∧ Below w.heap.size w w')
    (o1 : ∀ w, Laid w → Calls Tryd.prog 26 #[.agg #[.bool false, .int .i64 0, .string x], .agg #[.bool false, .int .i64 0, .string y], .agg #[.int .i64 3, .int .i64 0]] w fun e w' => e = .returned (.int .i64 1) ∧ Below w.heap.size w w')
    (o2 : ∀ w, Laid w → Calls Tryd.prog 26 #[.agg #[.bool false, .int .i64 0, .string y], .agg #[.bool uc, .int .i64 0, .string z], .agg #[.int .i64 3, .int .i64 0]] w fun e w' => e = .returned (.int .i64 yw) ∧ Below w.heap.size w w')
    (o3 : ∀ w, Laid w → Calls Tryd.prog 26 #[.agg #[.bool false, .int .i64 0, .string x], .agg #[.bool uc, .int .i64 0, .string z], .agg #[.int .i64 3, .int .i64 0]] w fun e w' => e = .returned (.int .i64 xw) ∧ Below w.heap.size w w')
    (o4 : ∀ w, Laid w → Calls Tryd.prog 26 #[.agg #[.bool false, .int .i64 0, .string y], .agg #[.bool false, .int .i64 0, .string x], .agg #[.int .i64 3, .int .i64 0]] w fun e w' => e = .returned (.int .i64 (-1)) ∧ Below w.heap.size w w')
    (o5 : ∀ w, Laid w → Calls Tryd.prog 26 #[.agg #[.bool false, .int .i64 0, .string x], .agg #[.bool false, .int .i64 0, .string x], .agg #[.int .i64 3, .int .i64 0]] w fun e w' => e = .returned (.int .i64 0) ∧ Below w.heap.size w w')
    (w : World) (hL : Laid w) :
    Calls Tryd.prog 7 #[.agg #[.bool false, .int .i64 na, .string za], .agg #[.bool false, .int .i64 nb, .string zb], .agg #[.bool uc, .int .i64 nc, .string zc], .int .u8 g, .bool true] w fun e w' => e = .returned (.bool true) ∧ Below w.heap.size w w' := by
  have L0 : ∀ A B C D, Laid ((((w.alloc A).alloc B).alloc C).alloc D) := fun A B C D => (((hL.alloc A).alloc B).alloc C).alloc D
  have hh := fun A B C D => head_value _ (L0 A B C D)
  have n1 := fun w => law_number g p hg.1 hg.2 hp w
  clear hg hp
  go_enter Tryd.func7, Tryd.ntmps7
  go_wp2_with (first
    | (go_at_call 26; (with_reducible refine (o5 _ (hL.below hB9)).mono ?_); rintro e v10 ⟨rfl, hb⟩; have hB10 := bt hB9 hb; replace Kt := Kt.on hb; replace Kx := Kx.on hb; replace Ky := Ky.on hb; replace Kz := Kz.on hb; clear hb t0 t1 tl x0 x1 x2 xl y0 y1 y2 yl z0 z1 z2 zl; obtain ⟨t0, t1, tl⟩ := id Kt; obtain ⟨x0, x1, x2, xl⟩ := id Kx; obtain ⟨y0, y1, y2, yl⟩ := id Ky; obtain ⟨z0, z1, z2, zl⟩ := id Kz)
    | (go_at_call 26; (with_reducible refine (o4 _ (hL.below hB8)).mono ?_); rintro e v9 ⟨rfl, hb⟩; have hB9 := bt hB8 hb; replace Kt := Kt.on hb; replace Kx := Kx.on hb; replace Ky := Ky.on hb; replace Kz := Kz.on hb; clear hb t0 t1 tl x0 x1 x2 xl y0 y1 y2 yl z0 z1 z2 zl; obtain ⟨t0, t1, tl⟩ := id Kt; obtain ⟨x0, x1, x2, xl⟩ := id Kx; obtain ⟨y0, y1, y2, yl⟩ := id Ky; obtain ⟨z0, z1, z2, zl⟩ := id Kz)
    | (go_at_call 26; (with_reducible refine (o3 _ (hL.below hB7)).mono ?_); rintro e v8 ⟨rfl, hb⟩; have hB8 := bt hB7 hb; replace Kt := Kt.on hb; replace Kx := Kx.on hb; replace Ky := Ky.on hb; replace Kz := Kz.on hb; clear hb t0 t1 tl x0 x1 x2 xl y0 y1 y2 yl z0 z1 z2 zl; obtain ⟨t0, t1, tl⟩ := id Kt; obtain ⟨x0, x1, x2, xl⟩ := id Kx; obtain ⟨y0, y1, y2, yl⟩ := id Ky; obtain ⟨z0, z1, z2, zl⟩ := id Kz)
    | (go_at_call 26; (with_reducible refine (o2 _ (hL.below hB6)).mono ?_); rintro e v7 ⟨rfl, hb⟩; have hB7 := bt hB6 hb; replace Kt := Kt.on hb; replace Kx := Kx.on hb; replace Ky := Ky.on hb; replace Kz := Kz.on hb; clear hb t0 t1 tl x0 x1 x2 xl y0 y1 y2 yl z0 z1 z2 zl; obtain ⟨t0, t1, tl⟩ := id Kt; obtain ⟨x0, x1, x2, xl⟩ := id Kx; obtain ⟨y0, y1, y2, yl⟩ := id Ky; obtain ⟨z0, z1, z2, zl⟩ := id Kz)
    | (go_at_call 26; (with_reducible refine (o1 _ (hL.below (bt hB5 b1))).mono ?_); rintro e v6 ⟨rfl, hb⟩; have hB6 := bt (bt hB5 b1) hb; replace Kt := (Kt.on b1).on hb; replace Kx := (Kx.on b1).on hb; replace Ky := (Ky.on b1).on hb; have Kz := (OB.new uc 0 z v5).on hb; clear hb t0 t1 tl x0 x1 x2 xl y0 y1 y2 yl; obtain ⟨t0, t1, tl⟩ := id Kt; obtain ⟨x0, x1, x2, xl⟩ := id Kx; obtain ⟨y0, y1, y2, yl⟩ := id Ky; obtain ⟨z0, z1, z2, zl⟩ := id Kz)
    | (go_at_call 25; (with_reducible refine (f3 _ _ (K.on b1).t).mono ?_); rintro e v5 ⟨rfl, hb⟩; have hB5 := bt (bt hB4 b1) hb; replace Kt := (Kt.on b1).on hb; replace Kx := (Kx.on b1).on hb; have Ky := (OB.new false 0 y v4).on hb; clear hb; clear a0 a1 a2 al e0 e1 e2 el g0 g1 g2 gl k0 kl; clear t0 t1 tl x0 x1 x2 xl K; obtain ⟨t0, t1, tl⟩ := id Kt; obtain ⟨x0, x1, x2, xl⟩ := id Kx; obtain ⟨y0, y1, y2, yl⟩ := id Ky)
    | (go_at_call 25; (with_reducible refine (f2 _ _ (K.on b1).t).mono ?_); rintro e v4 ⟨rfl, hb⟩; have hB4 := bt (bt hB3 b1) hb; replace K := (K.on b1).on hb; replace Kt := (Kt.on b1).on hb; have Kx := (OB.new false 0 x v3).on hb; clear hb; clear a0 a1 a2 al e0 e1 e2 el g0 g1 g2 gl k0 kl; clear t0 t1 tl; obtain ⟨⟨a0, a1, a2, al⟩, ⟨e0, e1, e2, el⟩, ⟨g0, g1, g2, gl⟩, k0, kl⟩ := id K; obtain ⟨t0, t1, tl⟩ := id Kt; obtain ⟨x0, x1, x2, xl⟩ := id Kx)
    | (go_at_call 25; (with_reducible refine (f1 _ _ (K.on b1).t).mono ?_); rintro e v3 ⟨rfl, hb⟩; have hB3 := bt (bt hB2 b1) hb; replace K := (K.on b1).on hb; have Kt := (TB.new 3 0 v2).on hb; clear hb; clear a0 a1 a2 al e0 e1 e2 el g0 g1 g2 gl k0 kl; obtain ⟨⟨a0, a1, a2, al⟩, ⟨e0, e1, e2, el⟩, ⟨g0, g1, g2, gl⟩, k0, kl⟩ := id K; obtain ⟨t0, t1, tl⟩ := id Kt)
    | (go_at_call 19; (with_reducible refine (n1 _).mono ?_); rintro e v2 ⟨rfl, hb⟩; have hB2 := bt hB1 hb; replace K := K.on hb; clear hb; obtain ⟨⟨a0, a1, a2, al⟩, ⟨e0, e1, e2, el⟩, ⟨g0, g1, g2, gl⟩, k0, kl⟩ := id K)
    | (go_at_call 10; (with_reducible refine (hh _ _ _ _).mono ?_); rintro e v1 ⟨rfl, hb⟩; have hB1 := bt b4 hb; have K := (O4.new false na za false nb zb uc nc zc true w).on hb; clear hb))
  all_goals
    go_ret
    exact ⟨by first | rfl | (refine ret_true ?_; simp; done) | (refine ret_true ?_; simp; omega), by assumption⟩

set_option maxRecDepth 100000 in
set_option maxHeartbeats 32000000 in
theorem ordT_down (na : Int) (za : ByteArray) (nb : Int) (zb : ByteArray) (uc : Bool) (nc : Int) (zc : ByteArray) (g p : Int) (hg : 0 ≤ g ∧ g ≤ 255) (hp : g % 10 = p) (x y z : ByteArray) (yw xw : Int) (h2 : 0 < yw ∨ xw ≤ 0) (hne : (x.toList == y.toList) = false) 
    (f1 : ∀ tb w, w.cell? ⟨tb, 0, none⟩ = some (.bool true) → Calls Tryd.prog 25 #[.agg #[.bool false, .int .i64 na, .string za], .pointer (some ⟨tb, 0, none⟩)] w fun e w' => e = .returned (.agg #[.bool false, .int .i64 0, .string x]) ∧ Below w.heap.size w w')
    (f2 : ∀ tb w, w.cell? ⟨tb, 0, none⟩ = some (.bool true) → Calls Tryd.prog 25 #[.agg #[.bool false, .int .i64 nb, .string zb], .pointer (some ⟨tb, 0, none⟩)] w fun e w' => e = .returned (.agg #[.bool false, .int .i64 0, .string y]) ∧ Below w.heap.size w w')
    (f3 : ∀ tb w, w.cell? ⟨tb, 0, none⟩ = some (.bool true) → Calls Tryd.prog 25 #[.agg #[.bool uc, .int .i64 nc, .string zc], .pointer (some ⟨tb, 0, none⟩)] w fun e w' => e = .returned (.agg #[.bool uc, .int .i64 0, .string z]) ∧ Below w.heap.size w w')
    (o1 : ∀ w, Laid w → Calls Tryd.prog 26 #[.agg #[.bool false, .int .i64 0, .string x], .agg #[.bool false, .int .i64 0, .string y], .agg #[.int .i64 3, .int .i64 0]] w fun e w' => e = .returned (.int .i64 (-1)) ∧ Below w.heap.size w w')
    (o2 : ∀ w, Laid w → Calls Tryd.prog 26 #[.agg #[.bool false, .int .i64 0, .string y], .agg #[.bool uc, .int .i64 0, .string z], .agg #[.int .i64 3, .int .i64 0]] w fun e w' => e = .returned (.int .i64 yw) ∧ Below w.heap.size w w')
    (o3 : ∀ w, Laid w → Calls Tryd.prog 26 #[.agg #[.bool false, .int .i64 0, .string x], .agg #[.bool uc, .int .i64 0, .string z], .agg #[.int .i64 3, .int .i64 0]] w fun e w' => e = .returned (.int .i64 xw) ∧ Below w.heap.size w w')
    (o4 : ∀ w, Laid w → Calls Tryd.prog 26 #[.agg #[.bool false, .int .i64 0, .string y], .agg #[.bool false, .int .i64 0, .string x], .agg #[.int .i64 3, .int .i64 0]] w fun e w' => e = .returned (.int .i64 1) ∧ Below w.heap.size w w')
    (o5 : ∀ w, Laid w → Calls Tryd.prog 26 #[.agg #[.bool false, .int .i64 0, .string x], .agg #[.bool false, .int .i64 0, .string x], .agg #[.int .i64 3, .int .i64 0]] w fun e w' => e = .returned (.int .i64 0) ∧ Below w.heap.size w w')
    (w : World) (hL : Laid w) :
    Calls Tryd.prog 7 #[.agg #[.bool false, .int .i64 na, .string za], .agg #[.bool false, .int .i64 nb, .string zb], .agg #[.bool uc, .int .i64 nc, .string zc], .int .u8 g, .bool true] w fun e w' => e = .returned (.bool true) ∧ Below w.heap.size w w' := by
  have L0 : ∀ A B C D, Laid ((((w.alloc A).alloc B).alloc C).alloc D) := fun A B C D => (((hL.alloc A).alloc B).alloc C).alloc D
  have hh := fun A B C D => head_value _ (L0 A B C D)
  have n1 := fun w => law_number g p hg.1 hg.2 hp w
  clear hg hp
  go_enter Tryd.func7, Tryd.ntmps7
  go_wp2_with (first
    | (go_at_call 26; (with_reducible refine (o5 _ (hL.below hB9)).mono ?_); rintro e v10 ⟨rfl, hb⟩; have hB10 := bt hB9 hb; replace Kt := Kt.on hb; replace Kx := Kx.on hb; replace Ky := Ky.on hb; replace Kz := Kz.on hb; clear hb t0 t1 tl x0 x1 x2 xl y0 y1 y2 yl z0 z1 z2 zl; obtain ⟨t0, t1, tl⟩ := id Kt; obtain ⟨x0, x1, x2, xl⟩ := id Kx; obtain ⟨y0, y1, y2, yl⟩ := id Ky; obtain ⟨z0, z1, z2, zl⟩ := id Kz)
    | (go_at_call 26; (with_reducible refine (o4 _ (hL.below hB8)).mono ?_); rintro e v9 ⟨rfl, hb⟩; have hB9 := bt hB8 hb; replace Kt := Kt.on hb; replace Kx := Kx.on hb; replace Ky := Ky.on hb; replace Kz := Kz.on hb; clear hb t0 t1 tl x0 x1 x2 xl y0 y1 y2 yl z0 z1 z2 zl; obtain ⟨t0, t1, tl⟩ := id Kt; obtain ⟨x0, x1, x2, xl⟩ := id Kx; obtain ⟨y0, y1, y2, yl⟩ := id Ky; obtain ⟨z0, z1, z2, zl⟩ := id Kz)
    | (go_at_call 26; (with_reducible refine (o3 _ (hL.below hB7)).mono ?_); rintro e v8 ⟨rfl, hb⟩; have hB8 := bt hB7 hb; replace Kt := Kt.on hb; replace Kx := Kx.on hb; replace Ky := Ky.on hb; replace Kz := Kz.on hb; clear hb t0 t1 tl x0 x1 x2 xl y0 y1 y2 yl z0 z1 z2 zl; obtain ⟨t0, t1, tl⟩ := id Kt; obtain ⟨x0, x1, x2, xl⟩ := id Kx; obtain ⟨y0, y1, y2, yl⟩ := id Ky; obtain ⟨z0, z1, z2, zl⟩ := id Kz)
    | (go_at_call 26; (with_reducible refine (o2 _ (hL.below hB6)).mono ?_); rintro e v7 ⟨rfl, hb⟩; have hB7 := bt hB6 hb; replace Kt := Kt.on hb; replace Kx := Kx.on hb; replace Ky := Ky.on hb; replace Kz := Kz.on hb; clear hb t0 t1 tl x0 x1 x2 xl y0 y1 y2 yl z0 z1 z2 zl; obtain ⟨t0, t1, tl⟩ := id Kt; obtain ⟨x0, x1, x2, xl⟩ := id Kx; obtain ⟨y0, y1, y2, yl⟩ := id Ky; obtain ⟨z0, z1, z2, zl⟩ := id Kz)
    | (go_at_call 26; (with_reducible refine (o1 _ (hL.below (bt hB5 b1))).mono ?_); rintro e v6 ⟨rfl, hb⟩; have hB6 := bt (bt hB5 b1) hb; replace Kt := (Kt.on b1).on hb; replace Kx := (Kx.on b1).on hb; replace Ky := (Ky.on b1).on hb; have Kz := (OB.new uc 0 z v5).on hb; clear hb t0 t1 tl x0 x1 x2 xl y0 y1 y2 yl; obtain ⟨t0, t1, tl⟩ := id Kt; obtain ⟨x0, x1, x2, xl⟩ := id Kx; obtain ⟨y0, y1, y2, yl⟩ := id Ky; obtain ⟨z0, z1, z2, zl⟩ := id Kz)
    | (go_at_call 25; (with_reducible refine (f3 _ _ (K.on b1).t).mono ?_); rintro e v5 ⟨rfl, hb⟩; have hB5 := bt (bt hB4 b1) hb; replace Kt := (Kt.on b1).on hb; replace Kx := (Kx.on b1).on hb; have Ky := (OB.new false 0 y v4).on hb; clear hb; clear a0 a1 a2 al e0 e1 e2 el g0 g1 g2 gl k0 kl; clear t0 t1 tl x0 x1 x2 xl K; obtain ⟨t0, t1, tl⟩ := id Kt; obtain ⟨x0, x1, x2, xl⟩ := id Kx; obtain ⟨y0, y1, y2, yl⟩ := id Ky)
    | (go_at_call 25; (with_reducible refine (f2 _ _ (K.on b1).t).mono ?_); rintro e v4 ⟨rfl, hb⟩; have hB4 := bt (bt hB3 b1) hb; replace K := (K.on b1).on hb; replace Kt := (Kt.on b1).on hb; have Kx := (OB.new false 0 x v3).on hb; clear hb; clear a0 a1 a2 al e0 e1 e2 el g0 g1 g2 gl k0 kl; clear t0 t1 tl; obtain ⟨⟨a0, a1, a2, al⟩, ⟨e0, e1, e2, el⟩, ⟨g0, g1, g2, gl⟩, k0, kl⟩ := id K; obtain ⟨t0, t1, tl⟩ := id Kt; obtain ⟨x0, x1, x2, xl⟩ := id Kx)
    | (go_at_call 25; (with_reducible refine (f1 _ _ (K.on b1).t).mono ?_); rintro e v3 ⟨rfl, hb⟩; have hB3 := bt (bt hB2 b1) hb; replace K := (K.on b1).on hb; have Kt := (TB.new 3 0 v2).on hb; clear hb; clear a0 a1 a2 al e0 e1 e2 el g0 g1 g2 gl k0 kl; obtain ⟨⟨a0, a1, a2, al⟩, ⟨e0, e1, e2, el⟩, ⟨g0, g1, g2, gl⟩, k0, kl⟩ := id K; obtain ⟨t0, t1, tl⟩ := id Kt)
    | (go_at_call 19; (with_reducible refine (n1 _).mono ?_); rintro e v2 ⟨rfl, hb⟩; have hB2 := bt hB1 hb; replace K := K.on hb; clear hb; obtain ⟨⟨a0, a1, a2, al⟩, ⟨e0, e1, e2, el⟩, ⟨g0, g1, g2, gl⟩, k0, kl⟩ := id K)
    | (go_at_call 10; (with_reducible refine (hh _ _ _ _).mono ?_); rintro e v1 ⟨rfl, hb⟩; have hB1 := bt b4 hb; have K := (O4.new false na za false nb zb uc nc zc true w).on hb; clear hb))
  all_goals
    go_ret
    exact ⟨by first | rfl | (refine ret_true ?_; simp; done) | (refine ret_true ?_; simp; omega), by assumption⟩

end Go.Proofs.YtfjoobopfjahcaaDoor
