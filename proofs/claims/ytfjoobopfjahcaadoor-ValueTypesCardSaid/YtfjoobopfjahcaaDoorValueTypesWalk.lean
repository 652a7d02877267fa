/-
  ValueTypes, walked: whether a type is right, whether a value fits, what an operator makes, scaling: as the document's own answer.
-/
import Derived.Test.YtfjoobopfjahcaaDoorVuBox
import Derived.Test.YtfjoobopfjahcaaDoorVuFits
import Derived.Test.YtfjoobopfjahcaaDoorVuRefB
import Derived.Test.YtfjoobopfjahcaaDoorVuRefC
namespace Go.Proofs.YtfjoobopfjahcaaDoor
set_option linter.unusedVariables false
open Go.RowKit

structure SB (b : Nat) (u : Bool) (n : Int) (z : ByteArray) (X : World) : Prop where
  c0 : X.cell? ⟨b, 0, none⟩ = some (.bool u)
  c1 : X.cell? ⟨b, 1, none⟩ = some (.int .i64 n)
  c2 : X.cell? ⟨b, 2, none⟩ = some (.string z)
  lt : b < X.heap.size
theorem SB.on {b : Nat} {u : Bool} {n : Int} {z : ByteArray} {X Y : World} (h : SB b u n z X) (hb : Below X.heap.size X Y) : SB b u n z Y :=
  ⟨stay_on hb h.c0, stay_on hb h.c1, stay_on hb h.c2, Nat.lt_of_lt_of_le h.lt hb.size⟩
theorem SB.new2 (u : Bool) (n : Int) (z : ByteArray) (X : World) (o o' : Obj) : SB (X.heap.size + 1 + 1) u n z (((X.alloc o).alloc o').alloc (.cells #[.bool u, .int .i64 n, .string z] 25)) :=
  ⟨by go_simp, by go_simp, by go_simp, by simp⟩
theorem TB.new1 (k s : Int) (X : World) (o : Obj) : TB (X.heap.size + 1) k s ((X.alloc o).alloc (.cells #[.int .i64 k, .int .i64 s] 23)) :=
  ⟨by go_simp, by go_simp, by simp⟩
def TyS (B : Nat) (k s : Int) (u : Bool) (n : Int) (z : ByteArray) (p : Nat) (ak sk : Int) (q : Nat) (X : World) : Prop :=
  X.cell? ⟨B, 0, none⟩ = some (.int .i64 k) ∧ X.cell? ⟨B, 1, none⟩ = some (.int .i64 s) ∧
  X.cell? ⟨B + 1 + 1, 0, none⟩ = some (.bool u) ∧ X.cell? ⟨B + 1 + 1, 1, none⟩ = some (.int .i64 n) ∧ X.cell? ⟨B + 1 + 1, 2, none⟩ = some (.string z) ∧
  X.cell? ⟨p, 0, none⟩ = some (.int .i64 ak) ∧ X.cell? ⟨p, 1, none⟩ = some (.int .i64 sk) ∧ X.cell? ⟨q, 0, none⟩ = some (.int .i64 ak) ∧ X.cell? ⟨q, 1, none⟩ = some (.int .i64 sk)
theorem TyS.on {B : Nat} {k s : Int} {u : Bool} {n : Int} {z : ByteArray} {p : Nat} {ak sk : Int} {q : Nat} {X Y : World} (h : TyS B k s u n z p ak sk q X) (hb : Below X.heap.size X Y) : TyS B k s u n z p ak sk q Y := by
  obtain ⟨h0, h1, h2, h3, h4, h5, h6, h7, h8⟩ := h
  exact ⟨stay_on hb h0, stay_on hb h1, stay_on hb h2, stay_on hb h3, stay_on hb h4, stay_on hb h5, stay_on hb h6, stay_on hb h7, stay_on hb h8⟩

set_option maxRecDepth 100000 in
set_option maxHeartbeats 16000000 in
theorem valueTypes_walk (k s k' s' : Int) (null : Bool) (u : Bool) (n : Int) (z : ByteArray) (op f t : Int) (hn : -9223372036854775808 ≤ n ∧ n ≤ 9223372036854775807) (hz : z.size ≤ maxLen) (hop : 0 ≤ op ∧ op ≤ 255) (w : World) (hL : Laid w) :
    Calls Tryd.prog 3 #[.agg #[.int .i64 k, .int .i64 s], .agg #[.int .i64 k', .int .i64 s'], .bool null, .agg #[.bool u, .int .i64 n, .string z], .int .u8 op, .int .i64 f, .int .i64 t] w fun e w' => e = .returned (.bool true) ∧ Below w.heap.size w w' := by
  have L0 : ∀ A B C, Laid (((w.alloc A).alloc B).alloc C) := fun A B C => ((hL.alloc A).alloc B).alloc C
  have hh := fun A B C => head_value _ (L0 A B C)
  have c1 := fun w => val_arT op k s k' s' hop.1 hop.2 w
  have c2 := fun w => ref_arT op k s k' s' w
  have c3 := fun w => val_scale n f t hn w
  have c4 := fun w => ref_scale n f t hn w
  have c5 := fun w => val_ty k s w
  have c6 := fun w => ref_ty k s w
  have c7 := fun w hT => val_fits k s null u n z hz w hT
  have c8 := fun w => ref_fits k s null u n z hz w
  generalize (scaleV n f t).1 = m1 at c3 c4
  generalize (scaleV n f t).2 = m2 at c3 c4
  generalize (arT op k s k' s').1 = ak at c1 c2
  generalize (arT op k s k' s').2.1 = sk at c1 c2
  generalize (arT op k s k' s').2.2 = ok at c1 c2
  generalize tyR k s = tr at c5 c6
  generalize fitV k s null u n z = fr at c7 c8
  clear hn hz hop
  go_enter Tryd.func3, Tryd.ntmps3
  go_wp2_with (first
    | (go_at_call 10; (with_reducible refine (hh _ _ _).mono ?_); rintro e v1 ⟨rfl, hb⟩; have hB1 := bt b3 hb
       have Kt := ((TB.new k s w).on b2).on hb; have Ku := ((TB.new1 k' s' w _).on b1).on hb; have Kv := (SB.new2 u n z w _ _).on hb; clear hb; obtain ⟨t0, t1, tl⟩ := id Kt; obtain ⟨u0, u1, ul⟩ := id Ku; obtain ⟨x0, x1, x2, xl⟩ := id Kv)
    | (go_at_call 11; (with_reducible refine (c1 _).mono ?_); rintro e v2 ⟨rfl, hb⟩; have hB2 := bt hB1 hb; replace Kt := Kt.on hb; replace Ku := Ku.on hb; replace Kv := Kv.on hb; clear hb t0 t1 tl u0 u1 ul x0 x1 x2 xl hB1; obtain ⟨t0, t1, tl⟩ := id Kt; obtain ⟨u0, u1, ul⟩ := id Ku; obtain ⟨x0, x1, x2, xl⟩ := id Kv)
    | (go_at_call 12; (with_reducible refine (c2 _).mono ?_); rintro e v3 ⟨rfl, hb⟩; have hB3 := bt (bt hB2 b1) hb; replace Kt := (Kt.on b1).on hb; replace Ku := (Ku.on b1).on hb; replace Kv := (Kv.on b1).on hb; have Ka := (TB.new ak sk v2).on hb; clear hb t0 t1 tl u0 u1 ul x0 x1 x2 xl hB2; obtain ⟨t0, t1, tl⟩ := id Kt; obtain ⟨u0, u1, ul⟩ := id Ku; obtain ⟨x0, x1, x2, xl⟩ := id Kv)
    | (go_at_call 13; (with_reducible refine (c3 _).mono ?_); rintro e v4 ⟨rfl, hb⟩; have hB4 := bt (bt hB3 b1) hb; replace Kt := (Kt.on b1).on hb; replace Kv := (Kv.on b1).on hb; replace Ka := (Ka.on b1).on hb; have Kb := (TB.new ak sk v3).on hb; clear hb t0 t1 tl u0 u1 ul x0 x1 x2 xl hB3; obtain ⟨x0, x1, x2, xl⟩ := id Kv)
    | (go_at_call 14; (with_reducible refine (c4 _).mono ?_); rintro e v5 ⟨rfl, rfl⟩))
  have K : TyS w.heap.size k s u n z v2.heap.size ak sk v3.heap.size v4 := ⟨Kt.c0, Kt.c1, Kv.c0, Kv.c1, Kv.c2, Ka.c0, Ka.c1, Kb.c0, Kb.c1⟩
  replace K := K.on (Below.refl _ _).drew
  have hT := (hL.below hB4).drew.tru
  have hB := hB4.drew
  clear Kt Kv Ka Kb x0 x1 x2 xl hB4 hh L0
  go_region_held3 (fun X => X.cell? ⟨w.heap.size, 0, none⟩ = some (.int .i64 k) ∧ X.cell? ⟨w.heap.size, 1, none⟩ = some (.int .i64 s) ∧ X.cell? ⟨w.heap.size + 1 + 1, 0, none⟩ = some (.bool u) ∧ X.cell? ⟨w.heap.size + 1 + 1, 1, none⟩ = some (.int .i64 n) ∧ X.cell? ⟨w.heap.size + 1 + 1, 2, none⟩ = some (.string z) ∧ X.cell? ⟨v2.heap.size, 0, none⟩ = some (.int .i64 ak) ∧ X.cell? ⟨v2.heap.size, 1, none⟩ = some (.int .i64 sk) ∧ X.cell? ⟨v3.heap.size, 0, none⟩ = some (.int .i64 ak) ∧ X.cell? ⟨v3.heap.size, 1, none⟩ = some (.int .i64 sk))
    (exact K)
    (first
      | (go_at_call 15; (with_reducible refine (c5 _).mono ?_); rintro e w2 ⟨rfl, hb⟩; replace hT := hT.below hb (Nat.le_refl _); replace hB := bt hB hb; replace K := K.on hb; clear hb)
      | (go_at_call 16; (with_reducible refine (c6 _).mono ?_); rintro e w2 ⟨rfl, hb⟩; replace hT := hT.below hb (Nat.le_refl _); replace hB := bt hB hb; replace K := K.on hb; clear hb)
      | (go_at_call 17; (with_reducible refine (c7 _ hT).mono ?_); rintro e w2 ⟨rfl, hb⟩; replace hT := hT.below hb (Nat.le_refl _); replace hB := bt hB hb; replace K := K.on hb; clear hb)
      | (go_at_call 18; (with_reducible refine (c8 _).mono ?_); rintro e w2 ⟨rfl, hb⟩; replace hT := hT.below hb (Nat.le_refl _); replace hB := bt hB hb; replace K := K.on hb; clear hb))
  go_wp2
  go_ret
  exact ⟨by first | rfl | (refine ret_true ?_; simp), hB⟩
end Go.Proofs.YtfjoobopfjahcaaDoor
