/-
  ValueOrders, walked: an order of values: turned it is the other way round, goes on from one to the next, and is 0 just between the same.
-/
import Derived.Test.YtfjoobopfjahcaaDoorVuOrdT
import Derived.Test.YtfjoobopfjahcaaDoorVuOrdN
namespace Go.Proofs.YtfjoobopfjahcaaDoor
set_option linter.unusedVariables false
open Go.RowKit

theorem fitNum_text (u : Bool) (n : Int) : fitNum true u n = 0 := by cases u <;> rfl
theorem fitTxt_num (u : Bool) (z : ByteArray) : fitTxt false u z = ⟨#[]⟩ := by cases u <;> rfl
theorem fitTxt_size (u : Bool) (z : ByteArray) : (fitTxt true u z).size ≤ maxLen := by
  unfold fitTxt maxLen
  cases u
  · simp only [Bool.false_eq_true, if_false, if_true, ByteArray.size_extract]; omega
  · rw [if_pos rfl]; decide
theorem fitNum_room (u : Bool) {n : Int} (h : room n = true) : room (fitNum false u n) = true := by cases u; exact h; rfl
theorem fit_T (u : Bool) (n : Int) (z : ByteArray) (hz : z.size ≤ maxLen) (tb : Nat) (w : World) (ht : w.cell? ⟨tb, 0, none⟩ = some (.bool true)) :
    Calls Tryd.prog 25 #[.agg #[.bool u, .int .i64 n, .string z], .pointer (some ⟨tb, 0, none⟩)] w fun e w' => e = .returned (.agg #[.bool u, .int .i64 0, .string (fitTxt true u z)]) ∧ Below w.heap.size w w' := by
  have := fit_call true u n z hz tb w ht
  rwa [fitNum_text] at this
theorem fit_N (u : Bool) (n : Int) (z : ByteArray) (hz : z.size ≤ maxLen) (tb : Nat) (w : World) (ht : w.cell? ⟨tb, 0, none⟩ = some (.bool false)) :
    Calls Tryd.prog 25 #[.agg #[.bool u, .int .i64 n, .string z], .pointer (some ⟨tb, 0, none⟩)] w fun e w' => e = .returned (.agg #[.bool u, .int .i64 (fitNum false u n), .string ⟨#[]⟩]) ∧ Below w.heap.size w w' := by
  have := fit_call false u n z hz tb w ht
  rwa [fitTxt_num] at this
theorem call_T {u v : Bool} {za zb : ByteArray} {r : Int} (h : ordO cmpB u (fitTxt true u za) v (fitTxt true v zb) = r) (w : World) (hL : Laid w) :
    Calls Tryd.prog 26 #[.agg #[.bool u, .int .i64 0, .string (fitTxt true u za)], .agg #[.bool v, .int .i64 0, .string (fitTxt true v zb)], .agg #[.int .i64 3, .int .i64 0]] w fun e w' => e = .returned (.int .i64 r) ∧ Below w.heap.size w w' := by
  refine order_call rfl rfl (fitTxt_size u za) (fitTxt_size v zb) ?_ w hL
  have := ordV_text u 0 za v 0 zb
  rw [fitNum_text, fitNum_text] at this
  exact this.trans h
theorem call_N {u v : Bool} {na nb p : Int} {r : Int} (hp : 0 ≤ p ∧ p ≤ 9) (ha : room na = true) (hb : room nb = true) (h : ordO cmpI u (fitNum false u na) v (fitNum false v nb) = r) (w : World) (hL : Laid w) :
    Calls Tryd.prog 26 #[.agg #[.bool u, .int .i64 (fitNum false u na), .string ⟨#[]⟩], .agg #[.bool v, .int .i64 (fitNum false v nb), .string ⟨#[]⟩], .agg #[.int .i64 (kindOf p), .int .i64 p]] w fun e w' => e = .returned (.int .i64 r) ∧ Below w.heap.size w w' := by
  refine order_call (fitNum_room u ha) (fitNum_room v hb) (by decide) (by decide) ?_ w hL
  have := ordV_num u na ⟨#[]⟩ v nb ⟨#[]⟩ hp
  rw [fitTxt_num, fitTxt_num] at this
  exact this.trans h

theorem orders_T (ua : Bool) (na : Int) (za : ByteArray) (ub : Bool) (nb : Int) (zb : ByteArray) (uc : Bool) (nc : Int) (zc : ByteArray) (g p : Int) (hg : 0 ≤ g ∧ g ≤ 255) (hp : g % 10 = p) (ra : room na = true) (rb : room nb = true) (rc : room nc = true) (hza : za.size ≤ maxLen) (hzb : zb.size ≤ maxLen) (hzc : zc.size ≤ maxLen) (w : World) (hL : Laid w) :
    Calls Tryd.prog 7 #[.agg #[.bool ua, .int .i64 na, .string za], .agg #[.bool ub, .int .i64 nb, .string zb], .agg #[.bool uc, .int .i64 nc, .string zc], .int .u8 g, .bool true] w fun e w' => e = .returned (.bool true) ∧ Below w.heap.size w w' := by
  obtain ⟨hr, h2, h3, h4, h5, h6, hyw, hxw⟩ := ordO_facts cmp_bytes ua ub uc (fitTxt true ua za) (fitTxt true ub zb) (fitTxt true uc zc) (by rintro rfl rfl; rfl)
  by_cases hxy : ordO cmpB ua (fitTxt true ua za) ub (fitTxt true ub zb) = 0
  · obtain ⟨hu, hx⟩ := h4.1 hxy
    subst hu
    have f2 := fun tb w h => fit_T ua nb zb hzb tb w h
    rw [← hx] at f2
    cases ua
    · exact ordT_eqf na za nb zb uc nc zc g p hg hp _ _ _ (fun tb w h => fit_T false na za hza tb w h) f2 (fun tb w h => fit_T uc nc zc hzc tb w h) (fun w hL => call_T h6 w hL) (fun w hL => call_T rfl w hL) w hL
    · exact ordT_eqt na za nb zb uc nc zc g p hg hp _ _ _ (fun tb w h => fit_T true na za hza tb w h) f2 (fun tb w h => fit_T uc nc zc hzc tb w h) (fun w hL => call_T h6 w hL) (fun w hL => call_T rfl w hL) w hL
  · cases ua <;> cases ub
    · have hne : ((fitTxt true false za).toList == (fitTxt true false zb).toList) = false := by
        rw [beq_eq_false_iff_ne]
        intro e
        exact hxy (h4.2 ⟨rfl, Go.WideShapes.bytes_inj (by rw [← Lib.toList_data, ← Lib.toList_data]; exact e)⟩)
      rcases (show ordO cmpB false (fitTxt true false za) false (fitTxt true false zb) = 1 ∨ ordO cmpB false (fitTxt true false za) false (fitTxt true false zb) = -1 by omega) with hq | hq
      · exact ordT_up na za nb zb uc nc zc g p hg hp _ _ _ _ _ hne (fun tb w h => fit_T false na za hza tb w h) (fun tb w h => fit_T false nb zb hzb tb w h) (fun tb w h => fit_T uc nc zc hzc tb w h) (fun w hL => call_T hq w hL) (fun w hL => call_T rfl w hL) (fun w hL => call_T rfl w hL) (fun w hL => call_T (h2.trans (by rw [hq]; try rfl)) w hL) (fun w hL => call_T h6 w hL) w hL
      · exact ordT_down na za nb zb uc nc zc g p hg hp _ _ _ _ _ (by omega) hne (fun tb w h => fit_T false na za hza tb w h) (fun tb w h => fit_T false nb zb hzb tb w h) (fun tb w h => fit_T uc nc zc hzc tb w h) (fun w hL => call_T hq w hL) (fun w hL => call_T rfl w hL) (fun w hL => call_T rfl w hL) (fun w hL => call_T (h2.trans (by rw [hq]; try rfl)) w hL) (fun w hL => call_T h6 w hL) w hL
    · have hq : ordO cmpB false (fitTxt true false za) true (fitTxt true true zb) = 1 := rfl
      exact ordT_ft na za nb zb uc nc zc g p hg hp _ _ _ _ _  (fun tb w h => fit_T false na za hza tb w h) (fun tb w h => fit_T true nb zb hzb tb w h) (fun tb w h => fit_T uc nc zc hzc tb w h) (fun w hL => call_T hq w hL) (fun w hL => call_T rfl w hL) (fun w hL => call_T rfl w hL) (fun w hL => call_T (h2.trans (by rw [hq]; try rfl)) w hL) (fun w hL => call_T h6 w hL) w hL
    · have hq : ordO cmpB true (fitTxt true true za) false (fitTxt true false zb) = -1 := rfl
      exact ordT_tf na za nb zb uc nc zc g p hg hp _ _ _ _ _ (by omega) (fun tb w h => fit_T true na za hza tb w h) (fun tb w h => fit_T false nb zb hzb tb w h) (fun tb w h => fit_T uc nc zc hzc tb w h) (fun w hL => call_T hq w hL) (fun w hL => call_T rfl w hL) (fun w hL => call_T rfl w hL) (fun w hL => call_T (h2.trans (by rw [hq]; try rfl)) w hL) (fun w hL => call_T h6 w hL) w hL
    · exact absurd rfl hxy

theorem orders_N (ua : Bool) (na : Int) (za : ByteArray) (ub : Bool) (nb : Int) (zb : ByteArray) (uc : Bool) (nc : Int) (zc : ByteArray) (g p : Int) (hg : 0 ≤ g ∧ g ≤ 255) (hp : g % 10 = p) (ra : room na = true) (rb : room nb = true) (rc : room nc = true) (hza : za.size ≤ maxLen) (hzb : zb.size ≤ maxLen) (hzc : zc.size ≤ maxLen) (w : World) (hL : Laid w) :
    Calls Tryd.prog 7 #[.agg #[.bool ua, .int .i64 na, .string za], .agg #[.bool ub, .int .i64 nb, .string zb], .agg #[.bool uc, .int .i64 nc, .string zc], .int .u8 g, .bool false] w fun e w' => e = .returned (.bool true) ∧ Below w.heap.size w w' := by
  obtain ⟨hr, h2, h3, h4, h5, h6, hyw, hxw⟩ := ordO_facts cmp_ints ua ub uc (fitNum false ua na) (fitNum false ub nb) (fitNum false uc nc) (by rintro rfl rfl; rfl)
  by_cases hxy : ordO cmpI ua (fitNum false ua na) ub (fitNum false ub nb) = 0
  · obtain ⟨hu, hx⟩ := h4.1 hxy
    subst hu
    have f2 := fun tb w h => fit_N ua nb zb hzb tb w h
    rw [← hx] at f2
    cases ua
    · exact ordN_eqf na za nb zb uc nc zc g p hg hp _ _ _ (fun tb w h => fit_N false na za hza tb w h) f2 (fun tb w h => fit_N uc nc zc hzc tb w h) (fun w hL => call_N (p := p) (by omega) ra ra h6 w hL) (fun w hL => call_N (p := p) (by omega) ra rc rfl w hL) w hL
    · exact ordN_eqt na za nb zb uc nc zc g p hg hp _ _ _ (fun tb w h => fit_N true na za hza tb w h) f2 (fun tb w h => fit_N uc nc zc hzc tb w h) (fun w hL => call_N (p := p) (by omega) ra ra h6 w hL) (fun w hL => call_N (p := p) (by omega) ra rc rfl w hL) w hL
  · cases ua <;> cases ub
    · have hne : ((fitNum false false na) == (fitNum false false nb)) = false := by
        rw [beq_eq_false_iff_ne]
        intro e
        exact hxy (h4.2 ⟨rfl, e⟩)
      rcases (show ordO cmpI false (fitNum false false na) false (fitNum false false nb) = 1 ∨ ordO cmpI false (fitNum false false na) false (fitNum false false nb) = -1 by omega) with hq | hq
      · exact ordN_up na za nb zb uc nc zc g p hg hp _ _ _ _ _ hne (fun tb w h => fit_N false na za hza tb w h) (fun tb w h => fit_N false nb zb hzb tb w h) (fun tb w h => fit_N uc nc zc hzc tb w h) (fun w hL => call_N (p := p) (by omega) ra rb hq w hL) (fun w hL => call_N (p := p) (by omega) rb rc rfl w hL) (fun w hL => call_N (p := p) (by omega) ra rc rfl w hL) (fun w hL => call_N (p := p) (by omega) rb ra (h2.trans (by rw [hq]; try rfl)) w hL) (fun w hL => call_N (p := p) (by omega) ra ra h6 w hL) w hL
      · exact ordN_down na za nb zb uc nc zc g p hg hp _ _ _ _ _ (by omega) hne (fun tb w h => fit_N false na za hza tb w h) (fun tb w h => fit_N false nb zb hzb tb w h) (fun tb w h => fit_N uc nc zc hzc tb w h) (fun w hL => call_N (p := p) (by omega) ra rb hq w hL) (fun w hL => call_N (p := p) (by omega) rb rc rfl w hL) (fun w hL => call_N (p := p) (by omega) ra rc rfl w hL) (fun w hL => call_N (p := p) (by omega) rb ra (h2.trans (by rw [hq]; try rfl)) w hL) (fun w hL => call_N (p := p) (by omega) ra ra h6 w hL) w hL
    · have hq : ordO cmpI false (fitNum false false na) true (fitNum false true nb) = 1 := rfl
      exact ordN_ft na za nb zb uc nc zc g p hg hp _ _ _ _ _  (fun tb w h => fit_N false na za hza tb w h) (fun tb w h => fit_N true nb zb hzb tb w h) (fun tb w h => fit_N uc nc zc hzc tb w h) (fun w hL => call_N (p := p) (by omega) ra rb hq w hL) (fun w hL => call_N (p := p) (by omega) rb rc rfl w hL) (fun w hL => call_N (p := p) (by omega) ra rc rfl w hL) (fun w hL => call_N (p := p) (by omega) rb ra (h2.trans (by rw [hq]; try rfl)) w hL) (fun w hL => call_N (p := p) (by omega) ra ra h6 w hL) w hL
    · have hq : ordO cmpI true (fitNum false true na) false (fitNum false false nb) = -1 := rfl
      exact ordN_tf na za nb zb uc nc zc g p hg hp _ _ _ _ _ (by omega) (fun tb w h => fit_N true na za hza tb w h) (fun tb w h => fit_N false nb zb hzb tb w h) (fun tb w h => fit_N uc nc zc hzc tb w h) (fun w hL => call_N (p := p) (by omega) ra rb hq w hL) (fun w hL => call_N (p := p) (by omega) rb rc rfl w hL) (fun w hL => call_N (p := p) (by omega) ra rc rfl w hL) (fun w hL => call_N (p := p) (by omega) rb ra (h2.trans (by rw [hq]; try rfl)) w hL) (fun w hL => call_N (p := p) (by omega) ra ra h6 w hL) w hL
    · exact absurd rfl hxy

theorem valueOrders_walk (ua : Bool) (na : Int) (za : ByteArray) (ub : Bool) (nb : Int) (zb : ByteArray) (uc : Bool) (nc : Int) (zc : ByteArray) (g : Int) (text : Bool) (ha : -9223372036854775808 ≤ na ∧ na ≤ 9223372036854775807) (hza : za.size ≤ maxLen) (hb : -9223372036854775808 ≤ nb ∧ nb ≤ 9223372036854775807) (hzb : zb.size ≤ maxLen) (hc : -9223372036854775808 ≤ nc ∧ nc ≤ 9223372036854775807) (hzc : zc.size ≤ maxLen) (hg : 0 ≤ g ∧ g ≤ 255) (w : World) (hL : Laid w) :
    Calls Tryd.prog 7 #[.agg #[.bool ua, .int .i64 na, .string za], .agg #[.bool ub, .int .i64 nb, .string zb], .agg #[.bool uc, .int .i64 nc, .string zc], .int .u8 g, .bool text] w fun e w' => e = .returned (.bool true) ∧ Below w.heap.size w w' := by
  cases text
  · exact orders_N ua na za ub nb zb uc nc zc g _ hg rfl (room_true.2 ha) (room_true.2 hb) (room_true.2 hc) hza hzb hzc w hL
  · exact orders_T ua na za ub nb zb uc nc zc g _ hg rfl (room_true.2 ha) (room_true.2 hb) (room_true.2 hc) hza hzb hzc w hL
end Go.Proofs.YtfjoobopfjahcaaDoor
