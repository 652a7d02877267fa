/-
  ValueTexts, walked: two numbers of a scale, two byte strings, that are told the same are the same; where the point stands.
-/
import Derived.Test.YtfjoobopfjahcaaDoorVuBox
import Derived.Test.YtfjoobopfjahcaaDoorVuTextMath
import Derived.Test.YtfjoobopfjahcaaDoorVuText
namespace Go.Proofs.YtfjoobopfjahcaaDoor
set_option linter.unusedVariables false
open Go.RowKit

theorem text_call {u : Bool} {n k s : Int} {z X : ByteArray} {ok : Bool} (hn : room n = true) (hz : z.size ≤ maxLen) (h : txtV u n z k s = (X, ok)) (w : World) (hL : Laid w) :
    Calls Tryd.prog 27 #[.agg #[.bool u, .int .i64 n, .string z], .agg #[.int .i64 k, .int .i64 s]] w fun e w' => e = .returned (.tuple #[.string X, .bool ok]) ∧ Below w.heap.size w w' := by
  have := val_text u n z k s (room_true.1 hn) hz w hL
  rw [h] at this
  exact this
theorem cut60 (s : ByteArray) : (s.extract 0 (min (s.size : Int) 60).toNat).size ≤ 60 := by rw [ByteArray.size_extract]; omega
theorem told_eq {a b : Int} {p : Nat} {X Y : ByteArray} (hX : X = ⟨(spellN a p).toArray⟩) (hY : Y = ⟨(spellN b p).toArray⟩) : (X.toList == Y.toList) = (a == b) := by
  have h1 : X.toList = spellN a p := by rw [Lib.toList_data, hX]
  have h2 : Y.toList = spellN b p := by rw [Lib.toList_data, hY]
  rw [h1, h2, Bool.eq_iff_iff, beq_iff_eq, beq_iff_eq]
  exact ⟨spell_inj, fun h => by rw [h]⟩
theorem quoted_eq {s t P Q : ByteArray} (hP : P = ⟨(quoted s.data.toList).toArray⟩) (hQ : Q = ⟨(quoted t.data.toList).toArray⟩) : (P.toList == Q.toList) = (s.toList == t.toList) := by
  have h1 : P.toList = quoted s.toList := by rw [Lib.toList_data, Lib.toList_data, hP]
  have h2 : Q.toList = quoted t.toList := by rw [Lib.toList_data, Lib.toList_data, hQ]
  rw [h1, h2, Bool.eq_iff_iff, beq_iff_eq, beq_iff_eq]
  exact ⟨quoted_inj, fun h => by rw [h]⟩

set_option maxRecDepth 100000 in
set_option maxHeartbeats 8000000 in
theorem valueTexts_walk (a b : Int) (s t : ByteArray) (k : Int) (ha : -9223372036854775808 ≤ a ∧ a ≤ 9223372036854775807) (hb : -9223372036854775808 ≤ b ∧ b ≤ 9223372036854775807) (hs : s.size ≤ 9223372036854775807) (ht : t.size ≤ 9223372036854775807) (hk : 0 ≤ k ∧ k ≤ 255) (w : World) (hL : Laid w) :
    Calls Tryd.prog 8 #[.int .i64 a, .int .i64 b, .string s, .string t, .int .u8 k] w fun e w' => e = .returned (.bool true) ∧ Below w.heap.size w w' := by
  have hh := fun (_ : Unit) => head_value w hL
  obtain ⟨p, hp⟩ : ∃ p, k % 10 = p := ⟨_, rfl⟩
  have hp0 : 0 ≤ p ∧ p ≤ 9 := by omega
  have n1 := fun w => law_number k p hk.1 hk.2 hp w
  obtain ⟨X, hX⟩ : ∃ X : ByteArray, X = ⟨(spellN a p.toNat).toArray⟩ := ⟨_, rfl⟩
  obtain ⟨Y, hY⟩ : ∃ Y : ByteArray, Y = ⟨(spellN b p.toNat).toArray⟩ := ⟨_, rfl⟩
  obtain ⟨P, hP⟩ : ∃ P : ByteArray, P = ⟨(quoted (s.extract 0 (min (s.size : Int) 60).toNat).data.toList).toArray⟩ := ⟨_, rfl⟩
  obtain ⟨Q, hQ⟩ : ∃ Q : ByteArray, Q = ⟨(quoted (t.extract 0 (min (t.size : Int) 60).toNat).data.toList).toArray⟩ := ⟨_, rfl⟩
  have e1 := told_eq hX hY
  have e2 := quoted_eq hP hQ
  have hs6 := cut60 s
  have ht6 := cut60 t
  have c1 := fun w hL => text_call (room_true.2 ha) (by decide) (show txtV false a ⟨#[]⟩ (kindOf p) p = (X, true) by rw [txt_num a hp0, hX]) w hL
  have c2 := fun w hL => text_call (room_true.2 hb) (by decide) (show txtV false b ⟨#[]⟩ (kindOf p) p = (Y, true) by rw [txt_num b hp0, hY]) w hL
  have c3 := fun w hL => text_call (n := 0) rfl (by unfold maxLen; omega) (show txtV false 0 (s.extract 0 (min (s.size : Int) 60).toNat) 3 0 = (P, true) by rw [txt_bytes (by omega), hP]) w hL
  have c4 := fun w hL => text_call (n := 0) rfl (by unfold maxLen; omega) (show txtV false 0 (t.extract 0 (min (t.size : Int) 60).toNat) 3 0 = (Q, true) by rw [txt_bytes (by omega), hQ]) w hL
  have hXl : X.size = (spellN a p.toNat).length := by rw [hX]; rfl
  have hx1 : p + 1 ≤ (X.size : Int) := by have := spell_len a p.toNat; omega
  have hx2 : (X.size : Int) ≤ 40 := by have := spell_short a (p := p.toNat) ha (by omega); omega
  have hpt : p ≠ 0 → X.data[X.size - p.toNat - 1]? = some 46 := fun h => by
    have := spell_point a (p := p.toNat) (by omega)
    rw [hXl, hX]
    simpa using this
  clear hX hY hP hQ hXl ha hb hs6 ht6 hp hk
  by_cases hz : p = 0
  · clear hpt
    subst hz
    go_enter Tryd.func8, Tryd.ntmps8
    go_wp2_with (first
      | (go_at_call 10; (with_reducible refine (hh ()).mono ?_); rintro e v1 ⟨rfl, hb⟩; have hB1 := hb; clear hb)
      | (go_at_call 19; (with_reducible refine (n1 _).mono ?_); rintro e v2 ⟨rfl, hb⟩; have hB2 := bt hB1 hb; clear hb)
      | (go_at_call 27; (with_reducible refine (c1 _ (hL.below (bt hB2 b1))).mono ?_); rintro e v3 ⟨rfl, hb⟩; have hB3 := bt (bt hB2 b1) hb; have Kt := (TB.new (kindOf 0) 0 v2).on hb; obtain ⟨t0, t1, tl⟩ := id Kt; clear hb)
      | (go_at_call 27; (with_reducible refine (c2 _ (hL.below hB3)).mono ?_); rintro e v4 ⟨rfl, hb⟩; have hB4 := bt hB3 hb; replace Kt := Kt.on hb; clear hb t0 t1 tl)
      | (go_at_call 27; (with_reducible refine (c3 _ (hL.below hB4)).mono ?_); rintro e v5 ⟨rfl, hb⟩; have hB5 := bt hB4 hb; replace Kt := Kt.on hb; clear hb)
      | (go_at_call 27; (with_reducible refine (c4 _ (hL.below hB5)).mono ?_); rintro e v6 ⟨rfl, hb⟩; have hB6 := bt hB5 hb; replace Kt := Kt.on hb; clear hb; obtain ⟨t0, t1, tl⟩ := id Kt))
    go_ret
    exact ⟨rfl, hB6⟩
  · have hz' : (p == 0) = false := by simpa using hz
    have hpz := hpt hz
    clear hz hpt
    go_enter Tryd.func8, Tryd.ntmps8
    go_wp2_with (first
      | (go_at_call 10; (with_reducible refine (hh ()).mono ?_); rintro e v1 ⟨rfl, hb⟩; have hB1 := hb; clear hb)
      | (go_at_call 19; (with_reducible refine (n1 _).mono ?_); rintro e v2 ⟨rfl, hb⟩; have hB2 := bt hB1 hb; clear hb)
      | (go_at_call 27; (with_reducible refine (c1 _ (hL.below (bt hB2 b1))).mono ?_); rintro e v3 ⟨rfl, hb⟩; have hB3 := bt (bt hB2 b1) hb; have Kt := (TB.new (kindOf p) p v2).on hb; obtain ⟨t0, t1, tl⟩ := id Kt; clear hb)
      | (go_at_call 27; (with_reducible refine (c2 _ (hL.below hB3)).mono ?_); rintro e v4 ⟨rfl, hb⟩; have hB4 := bt hB3 hb; replace Kt := Kt.on hb; clear hb t0 t1 tl)
      | (go_at_call 27; (with_reducible refine (c3 _ (hL.below hB4)).mono ?_); rintro e v5 ⟨rfl, hb⟩; have hB5 := bt hB4 hb; replace Kt := Kt.on hb; clear hb)
      | (go_at_call 27; (with_reducible refine (c4 _ (hL.below hB5)).mono ?_); rintro e v6 ⟨rfl, hb⟩; have hB6 := bt hB5 hb; replace Kt := Kt.on hb; clear hb; obtain ⟨t0, t1, tl⟩ := id Kt))
    go_ret
    refine ⟨ret_true ?_, hB6⟩
    rw [show X.size - p.toNat - 1 = ((X.size : Int) - p).toNat - 1 by omega] at hpz
    obtain ⟨h1, h2⟩ := Array.getElem?_eq_some_iff.1 hpz
    exact beq_iff_eq.2 (congrArg (fun c : UInt8 => (c.toNat : Int)) h2)
end Go.Proofs.YtfjoobopfjahcaaDoor
