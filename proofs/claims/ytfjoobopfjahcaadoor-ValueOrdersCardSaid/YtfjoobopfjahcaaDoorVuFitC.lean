/-
  What ValueOrders makes of a value: its closure, walked; and how Order ranks what it makes. Contracts that the proofs call; no statement is proved here.
-/
import Derived.Test.YtfjoobopfjahcaaDoorVuBox
import Derived.Test.YtfjoobopfjahcaaDoorVuOrdMath
import Derived.Test.YtfjoobopfjahcaaDoorVuOrder
import Derived.Test.YtfjoobopfjahcaaDoorVuText
import Derived.Test.YtfjoobopfjahcaaDoorVuHead
namespace Go.Proofs.YtfjoobopfjahcaaDoor
set_option linter.unusedVariables false
open Go.RowKit

/-- The number, the text of what is made. -/
def fitNum (text u : Bool) (n : Int) : Int := if u then 0 else if text then 0 else n
def fitTxt (text u : Bool) (z : ByteArray) : ByteArray := if u then ⟨#[]⟩ else if text then z.extract 0 (min (z.size : Int) 200).toNat else ⟨#[]⟩

set_option maxRecDepth 100000 in
set_option maxHeartbeats 4000000 in
theorem fit_call (text u : Bool) (n : Int) (z : ByteArray) (hz : z.size ≤ maxLen) (tb : Nat) (w : World) (ht : w.cell? ⟨tb, 0, none⟩ = some (.bool text)) :
    Calls Tryd.prog 25 #[.agg #[.bool u, .int .i64 n, .string z], .pointer (some ⟨tb, 0, none⟩)] w fun e w' => e = .returned (.agg #[.bool u, .int .i64 (fitNum text u n), .string (fitTxt text u z)]) ∧ Below w.heap.size w w' := by
  unfold maxLen at hz
  have hlt : tb < w.heap.size := World.block_lt_of_cell? w _ ht
  have hlt1 : tb < w.heap.size + 1 := Nat.lt_succ_of_lt hlt
  unfold fitNum fitTxt
  cases u <;> cases text
  all_goals
    go_enter Tryd.func25, Tryd.ntmps25
    go_wp2
    refine bodyPost_ret (v := .agg #[.bool _, .int .i64 _, .string _]) ?_ rfl ⟨rfl, ?_⟩
    · rw [results_cell rfl]; go_simp
    · repeat (refine Below.setCell ?_ (by first | (simp; done) | (simp; omega)) _)
      exact b2

structure OB (b : Nat) (u : Bool) (n : Int) (z : ByteArray) (X : World) : Prop where
  c0 : X.cell? ⟨b, 0, none⟩ = some (.bool u)
  c1 : X.cell? ⟨b, 1, none⟩ = some (.int .i64 n)
  c2 : X.cell? ⟨b, 2, none⟩ = some (.string z)
  lt : b < X.heap.size
theorem OB.on {b : Nat} {u : Bool} {n : Int} {z : ByteArray} {X Y : World} (h : OB b u n z X) (hb : Below X.heap.size X Y) : OB b u n z Y :=
  ⟨stay_on hb h.c0, stay_on hb h.c1, stay_on hb h.c2, Nat.lt_of_lt_of_le h.lt hb.size⟩
theorem OB.new (u : Bool) (n : Int) (z : ByteArray) (X : World) : OB X.heap.size u n z (X.alloc (.cells #[.bool u, .int .i64 n, .string z] 25)) :=
  ⟨by go_simp, by go_simp, by go_simp, by simp⟩
/-- The four boxes of the call. -/
structure O4 (b : Nat) (ua : Bool) (na : Int) (za : ByteArray) (ub : Bool) (nb : Int) (zb : ByteArray) (uc : Bool) (nc : Int) (zc : ByteArray) (text : Bool) (X : World) : Prop where
  oa : OB b ua na za X
  ob : OB (b + 1) ub nb zb X
  oc : OB (b + 1 + 1) uc nc zc X
  t : X.cell? ⟨b + 1 + 1 + 1, 0, none⟩ = some (.bool text)
  lt : b + 1 + 1 + 1 < X.heap.size
theorem O4.on {b : Nat} {ua : Bool} {na : Int} {za : ByteArray} {ub : Bool} {nb : Int} {zb : ByteArray} {uc : Bool} {nc : Int} {zc : ByteArray} {text : Bool} {X Y : World} (h : O4 b ua na za ub nb zb uc nc zc text X) (hb : Below X.heap.size X Y) : O4 b ua na za ub nb zb uc nc zc text Y :=
  ⟨h.oa.on hb, h.ob.on hb, h.oc.on hb, stay_on hb h.t, Nat.lt_of_lt_of_le h.lt hb.size⟩
theorem O4.new (ua : Bool) (na : Int) (za : ByteArray) (ub : Bool) (nb : Int) (zb : ByteArray) (uc : Bool) (nc : Int) (zc : ByteArray) (text : Bool) (X : World) :
    O4 X.heap.size ua na za ub nb zb uc nc zc text ((((X.alloc (.cells #[.bool ua, .int .i64 na, .string za] 25)).alloc (.cells #[.bool ub, .int .i64 nb, .string zb] 25)).alloc (.cells #[.bool uc, .int .i64 nc, .string zc] 25)).alloc (.cells #[.bool text] 4)) :=
  ⟨⟨by go_simp, by go_simp, by go_simp, by simp <;> omega⟩, ⟨by go_simp, by go_simp, by go_simp, by simp <;> omega⟩, ⟨by go_simp, by go_simp, by go_simp, by simp <;> omega⟩, by go_simp, by simp <;> omega⟩

theorem ordV_text (ua : Bool) (na : Int) (za : ByteArray) (ub : Bool) (nb : Int) (zb : ByteArray) : ordV ua (fitNum true ua na) (fitTxt true ua za) ub (fitNum true ub nb) (fitTxt true ub zb) 3 0 = ordO cmpB ua (fitTxt true ua za) ub (fitTxt true ub zb) := by
  unfold ordV ordO
  cases ua <;> cases ub <;> simp only [Bool.and_true, Bool.and_false, Bool.false_eq_true, if_false, if_true, Bool.and_self]
  have hf : ∀ z : ByteArray, fitV 3 0 false false (fitNum true false na) (fitTxt true false z) = true ∧ fitV 3 0 false false (fitNum true false nb) (fitTxt true false z) = true := fun z => by
    unfold fitV fitNum fitTxt
    simp [tyR]
    omega
  unfold cmpV
  rw [(hf za).1, (hf zb).2]
  rfl
theorem ordV_num (ua : Bool) (na : Int) (za : ByteArray) (ub : Bool) (nb : Int) (zb : ByteArray) {p : Int} (hp : 0 ≤ p ∧ p ≤ 9) : ordV ua (fitNum false ua na) (fitTxt false ua za) ub (fitNum false ub nb) (fitTxt false ub zb) (kindOf p) p = ordO cmpI ua (fitNum false ua na) ub (fitNum false ub nb) := by
  unfold ordV ordO
  cases ua <;> cases ub <;> simp only [Bool.and_true, Bool.and_false, Bool.false_eq_true, if_false, if_true, Bool.and_self]
  have e : ∀ z : ByteArray, fitTxt false false z = ⟨#[]⟩ := fun z => rfl
  rw [e, e, cmpV_nums _ _ hp hp, cmpI_mul _ _ _ (ten_pos _)]
theorem order_call {ua : Bool} {na : Int} {za : ByteArray} {ub : Bool} {nb : Int} {zb : ByteArray} {k s r : Int} (ha : room na = true) (hb : room nb = true) (hza : za.size ≤ maxLen) (hzb : zb.size ≤ maxLen) (h : ordV ua na za ub nb zb k s = r) (w : World) (hL : Laid w) :
    Calls Tryd.prog 26 #[.agg #[.bool ua, .int .i64 na, .string za], .agg #[.bool ub, .int .i64 nb, .string zb], .agg #[.int .i64 k, .int .i64 s]] w fun e w' => e = .returned (.int .i64 r) ∧ Below w.heap.size w w' := by
  have := val_order ua na za ub nb zb k s (room_true.1 ha) (room_true.1 hb) hza hzb w hL.tru
  rw [h] at this
  exact this
end Go.Proofs.YtfjoobopfjahcaaDoor
