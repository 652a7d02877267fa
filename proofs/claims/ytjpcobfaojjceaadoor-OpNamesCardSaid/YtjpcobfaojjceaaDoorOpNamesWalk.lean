/-
  OpNames, walked: a code's name is that code's alone; its types are value types; no code has to do with floats, and is carried.
-/
import Derived.Test.YtjpcobfaojjceaaDoorOpHead
namespace Go.Proofs.YtjpcobfaojjceaaDoor
open Go.RowKit
set_option linter.unusedVariables false

def valBytes (s : ByteArray) : Bool := s.data.toList.all fun b => b == 127 || b == 126
/-- Whatever is told of a code: its name is told of it alone; its types are value types. -/
theorem row_facts : ∀ r ∈ allRows, codeOf (byName r.name) = r.code ∧ (byName r.name).isSome = true ∧ isFloat r.code = false ∧ valBytes (r.params ++ r.results) = true := by decide +kernel
theorem code_facts {a : Int} {r : Rw} (h : byCode a = some r) : r.code = a ∧ codeOf (byName r.name) = a ∧ (byName r.name).isSome = true ∧ isFloat a = false ∧ valBytes (r.params ++ r.results) = true ∧ 0 ≤ r.shape ∧ r.shape ≤ 7 ∧ r.name.size ≤ 30 ∧ r.params.size ≤ 2 ∧ r.results.size ≤ 1 := by
  have hm := List.mem_of_find?_eq_some h
  have hc : r.code = a := by have := List.find?_some h; simpa using this
  have f := row_facts r hm
  have b := allRows_bd r hm
  rw [hc] at f
  exact ⟨hc, f.1, f.2.1, f.2.2.1, f.2.2.2, b.2.2.1, b.2.2.2.1, b.2.2.2.2.1, b.2.2.2.2.2.1, b.2.2.2.2.2.2⟩

theorem bytes_at {s : ByteArray} (h : valBytes s = true) (k : Nat) (hk : k < s.size) : ((s[k]'hk).toNat : Int) = 127 ∨ ((s[k]'hk).toNat : Int) = 126 := by
  have hm : s[k] ∈ s.data.toList := by
    rw [ByteArray.getElem_eq_getElem_data]; simp
  have := List.all_eq_true.1 h _ hm
  simp only [Bool.or_eq_true, beq_iff_eq] at this
  rcases this with e | e
  · left; rw [e]; rfl
  · right; rw [e]; rfl
theorem some_parts {a : Int} {r : Rw} (h : byCode a = some r) (w : World) (hLaid : Laid w) (ha : 0 ≤ a ∧ a ≤ 255) :
    Calls Tryd.prog 9 #[.int .i64 a] w fun e w' => e = .returned (.tuple #[.agg #[.string r.name, .int .i64 r.shape, .string r.params, .string r.results], .bool true]) ∧ Below w.heap.size w w' := by
  have c := op_of a (by omega) (by omega) w hLaid
  rw [h] at c; exact c
theorem none_parts {a : Int} (h : byCode a = none) (w : World) (hLaid : Laid w) (ha : 0 ≤ a ∧ a ≤ 255) :
    Calls Tryd.prog 9 #[.int .i64 a] w fun e w' => e = .returned (.tuple #[.agg #[.string ⟨#[]⟩, .int .i64 0, .string ⟨#[]⟩, .string ⟨#[]⟩], .bool false]) ∧ Below w.heap.size w w' := by
  have c := op_of a (by omega) (by omega) w hLaid
  rw [h] at c; exact c

set_option maxRecDepth 100000 in
set_option maxHeartbeats 4000000 in
theorem names_none (a b : Int) (ha : 0 ≤ a ∧ a ≤ 255) (hb : 0 ≤ b ∧ b ≤ 255) (h : byCode a = none) (w : World) (hLaid : Laid w) :
    Calls Tryd.prog 5 #[.int .u8 a, .int .u8 b] w fun e w' => e = .returned (.bool true) ∧ Below w.heap.size w w' := by
  have c1 := fun w hLaid => none_parts h w hLaid ha
  clear h
  obtain ⟨n, s, p, r, hI⟩ : ∃ n s p r, infoVal (byCode b) = .agg #[.string n, .int .i64 s, .string p, .string r] := by
    cases byCode b
    · exact ⟨_, _, _, _, rfl⟩
    · exact ⟨_, _, _, _, rfl⟩
  have c2 := op_of_is b (by omega) hI rfl
  generalize (byCode b).isSome = is at c2
  have c3 := op_code_is ⟨#[]⟩ (c := 0) (ok := false) (by decide) (by decide +kernel) (by decide +kernel)
  have hB := Below.refl w.heap.size w
  go_enter Tryd.func5, Tryd.ntmps5
  go_wp2_with (first
    | (go_at_call 8; (with_reducible refine (head_op _ hLaid).mono ?_); rintro e w0 ⟨rfl, hb⟩; replace hB := bt hB hb; clear hb)
    | (go_at_call 9; (with_reducible refine (c1 _ ?_).mono ?_); (first | (with_reducible exact hLaid.below hB) | (with_reducible exact (hLaid.below hB).alloc _) | (with_reducible exact ((hLaid.below hB).alloc _).alloc _)); rintro e w1 ⟨rfl, hb⟩; replace hB := bt hB hb; clear hb; clear c1)
    | (go_at_call 9; (with_reducible refine (c2 _ ?_).mono ?_); (first | (with_reducible exact hLaid.below hB) | (with_reducible exact (hLaid.below hB).alloc _) | (with_reducible exact ((hLaid.below hB).alloc _).alloc _)); rintro e w2 ⟨rfl, hb⟩; have hI := (At4.new _ _ _ _ _ _).below hb; have ⟨_, r0, r1, r2, r3⟩ := hI; replace hB := bta hB hb; clear hb)
    | (go_at_call 11; (with_reducible refine (c3 _ ?_).mono ?_); (first | (with_reducible exact hLaid.below hB) | (with_reducible exact (hLaid.below hB).alloc _) | (with_reducible exact ((hLaid.below hB).alloc _).alloc _)); rintro e w3 ⟨rfl, hb⟩; have ⟨_, q0, q1, q2, q3⟩ := (hI.alloc _).below hb; replace hB := bta hB hb; clear hb))
  all_goals go_ret
  all_goals exact ⟨by first | rfl | exact ret_true (by simp), hB⟩

set_option maxRecDepth 100000 in
set_option maxHeartbeats 4000000 in
theorem names_some (a b : Int) (ha : 0 ≤ a ∧ a ≤ 255) (hb : 0 ≤ b ∧ b ≤ 255) (r : Rw) (h : byCode a = some r) (n : ByteArray) (s : Int) (p q : ByteArray) (is : Bool) (hI : infoVal (byCode b) = .agg #[.string n, .int .i64 s, .string p, .string q]) (hIs : (byCode b).isSome = is)
    (hcase : is = false ∨ (is = true ∧ a = b ∧ r.name = n) ∨ (is = true ∧ a ≠ b ∧ r.name ≠ n)) (w : World) (hLaid : Laid w) :
    Calls Tryd.prog 5 #[.int .u8 a, .int .u8 b] w fun e w' => e = .returned (.bool true) ∧ Below w.heap.size w w' := by
  have c1 := fun w hLaid => some_parts h w hLaid ha
  have c2 := op_of_is b (by omega) hI hIs
  obtain ⟨_, f1, f2, f3, f4, f5, f6, f7, f8, f9⟩ := code_facts h
  have c3 := op_code_is r.name (by unfold maxLen; omega) f1 f2
  have c4 := op_float_is a (by omega) f3
  clear h hI hIs f1 f2 f3
  obtain ⟨rc, rn, rs, rp, rr⟩ := r
  simp only at *
  have hB := Below.refl w.heap.size w
  go_enter Tryd.func5, Tryd.ntmps5
  go_wp2_with (first
    | (go_at_call 8; (with_reducible refine (head_op _ hLaid).mono ?_); rintro e w0 ⟨rfl, hb⟩; replace hB := bt hB hb; clear hb)
    | (go_at_call 9; (with_reducible refine (c1 _ ?_).mono ?_); (first | (with_reducible exact hLaid.below hB) | (with_reducible exact (hLaid.below hB).alloc _) | (with_reducible exact ((hLaid.below hB).alloc _).alloc _)); rintro e w1 ⟨rfl, hb⟩; replace hB := bt hB hb; clear hb; clear c1)
    | (go_at_call 9; (with_reducible refine (c2 _ ?_).mono ?_); (first | (with_reducible exact hLaid.below hB) | (with_reducible exact (hLaid.below hB).alloc _) | (with_reducible exact ((hLaid.below hB).alloc _).alloc _)); rintro e w2 ⟨rfl, hb⟩; have hI := (At4.new _ _ _ _ _ _).below hb; have ⟨_, r0, r1, r2, r3⟩ := hI; replace hB := bta hB hb; clear hb)
    | (go_at_call 11; (with_reducible refine (c3 _ ?_).mono ?_); (first | (with_reducible exact hLaid.below hB) | (with_reducible exact (hLaid.below hB).alloc _) | (with_reducible exact ((hLaid.below hB).alloc _).alloc _)); rintro e w3 ⟨rfl, hb⟩; have hJ := (At4.new _ _ _ _ _ _).below hb; replace hI := (hI.alloc _).below hb; have ⟨_, q0, q1, q2, q3⟩ := hI; have ⟨_, j0, j1, j2, j3⟩ := hJ; replace hB := bta hB hb; clear hb))
  go_loop [13] (fun i => ∃ k : Nat, k ≤ (rp ++ rr).size ∧ i = .int .i64 k) (fun i => (rp ++ rr).size - (intOf i).toNat)
  case atStart => exact ⟨0, by omega, rfl⟩
  case round =>
    obtain ⟨k, hk, rfl⟩ := hrel
    have hsz : (rp ++ rr).size = rp.size + rr.size := ByteArray.size_append
    by_cases hlt : k < (rp ++ rr).size
    · rcases bytes_at f4 k hlt with hv | hv
      all_goals
        go_wp2
        go_round
        case rel => exact ⟨k + 1, by omega, by go_num⟩
        case measure => simp [intOf]; omega
    · rcases hcase with rfl | ⟨rfl, rfl, rfl⟩ | ⟨rfl, hne, hnn⟩
      · go_wp2_with (go_at_call 13; (with_reducible refine (c4 _ ?_).mono ?_); (first | (with_reducible exact hLaid.below hB) | (with_reducible exact (hLaid.below hB).alloc _) | (with_reducible exact ((hLaid.below hB).alloc _).alloc _)); rintro e w4 ⟨rfl, hb⟩; have ⟨_, x0, x1, x2, x3⟩ := hI.below hb; replace hB := bt hB hb; clear hb)
        all_goals go_ret
        all_goals exact ⟨by first | rfl | exact ret_true (by simp), hB⟩
      · go_wp2_with (go_at_call 13; (with_reducible refine (c4 _ ?_).mono ?_); (first | (with_reducible exact hLaid.below hB) | (with_reducible exact (hLaid.below hB).alloc _) | (with_reducible exact ((hLaid.below hB).alloc _).alloc _)); rintro e w4 ⟨rfl, hb⟩; have ⟨_, x0, x1, x2, x3⟩ := hI.below hb; replace hB := bt hB hb; clear hb)
        all_goals go_ret
        all_goals exact ⟨by first | rfl | exact ret_true (by simp), hB⟩
      · have hnb := name_ne hnn
        have hab : (a == b) = false := by simp [hne]
        go_wp2_with (go_at_call 13; (with_reducible refine (c4 _ ?_).mono ?_); (first | (with_reducible exact hLaid.below hB) | (with_reducible exact (hLaid.below hB).alloc _) | (with_reducible exact ((hLaid.below hB).alloc _).alloc _)); rintro e w4 ⟨rfl, hb⟩; have ⟨_, x0, x1, x2, x3⟩ := hI.below hb; replace hB := bt hB hb; clear hb)
        all_goals go_ret
        all_goals exact ⟨by first | rfl | exact ret_true (by simp), hB⟩

theorem opNames_walk (a b : Int) (ha0 : 0 ≤ a) (ha1 : a ≤ 255) (hb0 : 0 ≤ b) (hb1 : b ≤ 255) (w : World) (hLaid : Laid w) :
    Calls Tryd.prog 5 #[.int .u8 a, .int .u8 b] w fun e w' => e = .returned (.bool true) ∧ Below w.heap.size w w' := by
  cases h : byCode a with
  | none => exact names_none a b ⟨ha0, ha1⟩ ⟨hb0, hb1⟩ h w hLaid
  | some r =>
    cases h2 : byCode b with
    | none => exact names_some a b ⟨ha0, ha1⟩ ⟨hb0, hb1⟩ r h ⟨#[]⟩ 0 ⟨#[]⟩ ⟨#[]⟩ false (by rw [h2]; rfl) (by rw [h2]; rfl) (.inl rfl) w hLaid
    | some t =>
      refine names_some a b ⟨ha0, ha1⟩ ⟨hb0, hb1⟩ r h t.name t.shape t.params t.results true (by rw [h2]; rfl) (by rw [h2]; rfl) (.inr ?_) w hLaid
      by_cases hab : a = b
      · subst hab
        rw [h] at h2
        injection h2 with h2
        exact .inl ⟨rfl, rfl, by rw [h2]⟩
      · refine .inr ⟨rfl, hab, fun e => hab ?_⟩
        have f1 := (code_facts h).2.1
        have f2 := (code_facts h2).2.1
        rw [e] at f1
        exact f1.symm.trans f2
end Go.Proofs.YtjpcobfaojjceaaDoor
