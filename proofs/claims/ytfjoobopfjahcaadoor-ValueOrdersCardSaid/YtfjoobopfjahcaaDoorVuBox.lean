/-
  A box of a value, a box of a type: what lies there, carried from world to world; the contracts of Arith, ArithType, Compare by their answers. No statement is proved here.
-/
import Derived.Test.YtfjoobopfjahcaaDoorVuLawNum
import Derived.Test.YtfjoobopfjahcaaDoorVuCmp
import Derived.Test.YtfjoobopfjahcaaDoorVuArT
namespace Go.Proofs.YtfjoobopfjahcaaDoor
set_option linter.unusedVariables false
open Go.RowKit

structure VB (b : Nat) (u : Bool) (n : Int) (X : World) : Prop where
  c0 : X.cell? ⟨b, 0, none⟩ = some (.bool u)
  c1 : X.cell? ⟨b, 1, none⟩ = some (.int .i64 n)
  c2 : X.cell? ⟨b, 2, none⟩ = some (.string ⟨#[]⟩)
  lt : b < X.heap.size
structure TB (b : Nat) (k s : Int) (X : World) : Prop where
  c0 : X.cell? ⟨b, 0, none⟩ = some (.int .i64 k)
  c1 : X.cell? ⟨b, 1, none⟩ = some (.int .i64 s)
  lt : b < X.heap.size
theorem VB.on {b : Nat} {u : Bool} {n : Int} {X Y : World} (h : VB b u n X) (hb : Below X.heap.size X Y) : VB b u n Y :=
  ⟨stay_on hb h.c0, stay_on hb h.c1, stay_on hb h.c2, Nat.lt_of_lt_of_le h.lt hb.size⟩
theorem TB.on {b : Nat} {k s : Int} {X Y : World} (h : TB b k s X) (hb : Below X.heap.size X Y) : TB b k s Y :=
  ⟨stay_on hb h.c0, stay_on hb h.c1, Nat.lt_of_lt_of_le h.lt hb.size⟩
theorem VB.new (u : Bool) (n : Int) (X : World) : VB X.heap.size u n (X.alloc (.cells #[.bool u, .int .i64 n, .string ⟨#[]⟩] 25)) :=
  ⟨by go_simp, by go_simp, by go_simp, by simp⟩
theorem TB.new (k s : Int) (X : World) : TB X.heap.size k s (X.alloc (.cells #[.int .i64 k, .int .i64 s] 23)) :=
  ⟨by go_simp, by go_simp, by simp⟩
theorem VB.new1 (u : Bool) (n : Int) (X : World) (o : Obj) : VB (X.heap.size + 1) u n ((X.alloc o).alloc (.cells #[.bool u, .int .i64 n, .string ⟨#[]⟩] 25)) := by
  have := VB.new u n (X.alloc o)
  rwa [show (X.alloc o).heap.size = X.heap.size + 1 by simp] at this
theorem VB.new2 (u : Bool) (n : Int) (X : World) (o o' : Obj) : VB (X.heap.size + 1 + 1) u n (((X.alloc o).alloc o').alloc (.cells #[.bool u, .int .i64 n, .string ⟨#[]⟩] 25)) := by
  have := VB.new u n ((X.alloc o).alloc o')
  rwa [show ((X.alloc o).alloc o').heap.size = X.heap.size + 1 + 1 by simp] at this
theorem b0 {w : World} : Below w.heap.size w w := Below.refl _ _

theorem arith_call {op a b r e : Int} {p kp q kq : Int} (h0 : 0 ≤ op ∧ op ≤ 255) (ha : room a = true) (hb : room b = true) (h : arV op false a ⟨#[]⟩ false b ⟨#[]⟩ kp p kq q = (false, r, e)) (w : World) (hL : Laid w) :
    Calls Tryd.prog 20 #[.int .u8 op, .agg #[.bool false, .int .i64 a, .string ⟨#[]⟩], .agg #[.bool false, .int .i64 b, .string ⟨#[]⟩], .agg #[.int .i64 kp, .int .i64 p], .agg #[.int .i64 kq, .int .i64 q]] w fun ee w' => ee = .returned (.tuple #[.agg #[.bool false, .int .i64 r, .string ⟨#[]⟩], .int .i64 e]) ∧ Below w.heap.size w w' := by
  have := val_arith op false a ⟨#[]⟩ false b ⟨#[]⟩ kp p kq q h0.1 h0.2 (room_true.1 ha) (room_true.1 hb) (by decide) (by decide) w hL
  rw [h] at this
  exact this
theorem cmp_call {a b c p kp q kq : Int} {ok : Bool} (ha : room a = true) (hb : room b = true) (h : cmpV false a ⟨#[]⟩ false b ⟨#[]⟩ kp p kq q = (c, ok)) (w : World) (hL : Laid w) :
    Calls Tryd.prog 21 #[.agg #[.bool false, .int .i64 a, .string ⟨#[]⟩], .agg #[.bool false, .int .i64 b, .string ⟨#[]⟩], .agg #[.int .i64 kp, .int .i64 p], .agg #[.int .i64 kq, .int .i64 q]] w fun e w' =>
      e = .returned (.tuple #[.int .i64 c, .bool ok]) ∧ Below w.heap.size w w' := by
  have := val_compare false a ⟨#[]⟩ false b ⟨#[]⟩ kp p kq q (room_true.1 ha) (room_true.1 hb) (by decide) (by decide) w hL.tru
  rw [h] at this
  exact this
theorem arT_call {op kp p kq q k s : Int} {ok : Bool} (h0 : 0 ≤ op ∧ op ≤ 255) (h : arT op kp p kq q = (k, s, ok)) (w : World) :
    Calls Tryd.prog 11 #[.int .u8 op, .agg #[.int .i64 kp, .int .i64 p], .agg #[.int .i64 kq, .int .i64 q]] w fun e w' => e = .returned (.tuple #[.agg #[.int .i64 k, .int .i64 s], .bool ok]) ∧ Below w.heap.size w w' := by
  have := val_arT op kp p kq q h0.1 h0.2 w
  rw [h] at this
  exact this
end Go.Proofs.YtfjoobopfjahcaaDoor
