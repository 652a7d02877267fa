/-
  The examples ahead of each statement of chapter 3: a contract that the proofs call; no statement is proved here.
-/
import Derived.Test.YtjpcobfaojjceaaDoorOpCode
namespace Go.Proofs.YtjpcobfaojjceaaDoor
open Go.RowKit

theorem bt {w w1 w2 : World} (h1 : Below w.heap.size w w1) (h2 : Below w1.heap.size w1 w2) : Below w.heap.size w w2 := h1.trans (h2.mono h1.size)
theorem bta {w w1 w2 : World} {o : Obj} (h1 : Below w.heap.size w w1) (h2 : Below (w1.alloc o).heap.size (w1.alloc o) w2) : Below w.heap.size w w2 := (h1.alloc h1.size o).trans (h2.mono (Nat.le_trans h1.size (by simp)))
theorem ret_true {b : Bool} (h : b = true) : Ending.returned (.bool b) = .returned (.bool true) := by rw [h]

/-- Four cells at the head of a block. -/
def At4 (w : World) (b : Nat) (x y z u : Value) : Prop := b < w.heap.size ∧ w.cell? ⟨b, 0, none⟩ = some x ∧ w.cell? ⟨b, 1, none⟩ = some y ∧ w.cell? ⟨b, 2, none⟩ = some z ∧ w.cell? ⟨b, 3, none⟩ = some u
theorem At4.new (w : World) (x y z u : Value) (t : TypeId) : At4 (w.alloc (.cells #[x, y, z, u] t)) w.heap.size x y z u :=
  ⟨by simp, by rw [World.cell?_alloc_new]; rfl, by rw [World.cell?_alloc_new]; rfl, by rw [World.cell?_alloc_new]; rfl, by rw [World.cell?_alloc_new]; rfl⟩
theorem At4.alloc {w : World} {b : Nat} {x y z u : Value} (h : At4 w b x y z u) (o : Obj) : At4 (w.alloc o) b x y z u :=
  ⟨Nat.lt_of_lt_of_le h.1 (by simp), by rw [World.cell?_alloc_lt w o _ h.1]; exact h.2.1, by rw [World.cell?_alloc_lt w o _ h.1]; exact h.2.2.1, by rw [World.cell?_alloc_lt w o _ h.1]; exact h.2.2.2.1, by rw [World.cell?_alloc_lt w o _ h.1]; exact h.2.2.2.2⟩
theorem At4.below {w w' : World} {b : Nat} {x y z u : Value} (h : At4 w b x y z u) (hb : Below w.heap.size w w') : At4 w' b x y z u :=
  ⟨Nat.lt_of_lt_of_le h.1 hb.size, (hb.cell (p := ⟨b, 0, none⟩) h.1).trans h.2.1, (hb.cell (p := ⟨b, 1, none⟩) h.1).trans h.2.2.1, (hb.cell (p := ⟨b, 2, none⟩) h.1).trans h.2.2.2.1, (hb.cell (p := ⟨b, 3, none⟩) h.1).trans h.2.2.2.2⟩

theorem op_of_is (code : Int) (h : -9223372036854775808 ≤ code ∧ code ≤ 9223372036854775807) {n : ByteArray} {s : Int} {p r : ByteArray} {ok : Bool} (e : infoVal (byCode code) = .agg #[.string n, .int .i64 s, .string p, .string r]) (eo : (byCode code).isSome = ok) (w : World) (hLaid : Laid w) :
    Calls Tryd.prog 9 #[.int .i64 code] w fun e w' => e = .returned (.tuple #[.agg #[.string n, .int .i64 s, .string p, .string r], .bool ok]) ∧ Below w.heap.size w w' := by
  have c := op_of code h.1 h.2 w hLaid
  rwa [e, eo] at c
theorem op_code_is (name : ByteArray) (h : name.size ≤ maxLen) {c : Int} {ok : Bool} (e : codeOf (byName name) = c) (eo : (byName name).isSome = ok) (w : World) (hLaid : Laid w) :
    Calls Tryd.prog 11 #[.string name] w fun e w' => e = .returned (.tuple #[.int .i64 c, .bool ok]) ∧ Below w.heap.size w w' := by
  have c := op_code name h w hLaid
  rwa [e, eo] at c
theorem op_float_is (code : Int) (h : -9223372036854775808 ≤ code ∧ code ≤ 9223372036854775807) {f : Bool} (e : isFloat code = f) (w : World) (_ : Laid w) :
    Calls Tryd.prog 13 #[.int .i64 code] w fun e w' => e = .returned (.bool f) ∧ Below w.heap.size w w' := by
  have c := op_float code h.1 h.2 w
  rwa [e] at c
theorem op_right_nil (op a b : Int) (h : -9223372036854775808 ≤ op ∧ op ≤ 9223372036854775807) {f : Bool} (e : rightOf (byCode op) op a b [] = f) (w : World) (hLaid : Laid w) :
    Calls Tryd.prog 15 #[.agg #[.int .i64 op, .int .i64 a, .int .i64 b, .slice none 0 0]] w fun e w' => e = .returned (.bool f) ∧ Below w.heap.size w w' := by
  have c := op_right op a b none 0 0 [] h.1 h.2 rfl (by decide) w hLaid (fun j hj => absurd hj (by simp))
  rwa [e] at c

set_option maxRecDepth 100000 in
set_option maxHeartbeats 2000000 in
theorem head_op (w : World) (hLaid : Laid w) : Calls Tryd.prog 8 #[] w fun e w' => e = .returned (.bool true) ∧ Below w.heap.size w w' := by
  have e1 : byCode 106 = some ⟨106, ⟨#[105, 51, 50, 46, 97, 100, 100]⟩, 0, ⟨#[127, 127]⟩, ⟨#[127]⟩⟩ := by rfl
  have e2 : byName ⟨#[105, 54, 52, 46, 99, 111, 110, 115, 116]⟩ = some ⟨66, ⟨#[105, 54, 52, 46, 99, 111, 110, 115, 116]⟩, 7, ⟨#[]⟩, ⟨#[126]⟩⟩ := by rfl
  have c1 := op_of_is 106 (n := ⟨#[105, 51, 50, 46, 97, 100, 100]⟩) (s := 0) (p := ⟨#[127, 127]⟩) (r := ⟨#[127]⟩) (ok := true) (by omega) (by rw [e1]; rfl) (by rw [e1]; rfl)
  have c2 := op_code_is ⟨#[105, 54, 52, 46, 99, 111, 110, 115, 116]⟩ (c := 66) (ok := true) (by decide) (by rw [e2]; rfl) (by rw [e2]; rfl)
  have c3 := op_right_nil 65 (-1) 0 (f := true) (by omega) (by decide +kernel)
  have c4 := op_right_nil 65 2147483648 0 (f := false) (by omega) (by decide +kernel)
  have c5 := op_float_is 67 (f := true) (by omega) (by decide +kernel)
  clear e1 e2
  have hB := Below.refl w.heap.size w
  go_enter Tryd.func8, Tryd.ntmps8
  go_wp2_with (first
    | (go_at_call 9; (with_reducible refine (c1 _ ?_).mono ?_); (first | (with_reducible exact hLaid.below hB) | (with_reducible exact (hLaid.below hB).alloc _) | (with_reducible exact ((hLaid.below hB).alloc _).alloc _)); rintro e w1 ⟨rfl, hb⟩; replace hB := bt hB hb; clear hb)
    | (go_at_call 11; (with_reducible refine (c2 _ ?_).mono ?_); (first | (with_reducible exact hLaid.below hB) | (with_reducible exact (hLaid.below hB).alloc _) | (with_reducible exact ((hLaid.below hB).alloc _).alloc _)); rintro e w2 ⟨rfl, hb⟩; have ⟨r0, r1, r2, r3, _, _, _, _⟩ := res_cells hb; replace hB := bta hB hb; clear hb)
    | (go_at_call 15; (with_reducible refine (c3 _ ?_).mono ?_); (first | (with_reducible exact hLaid.below hB) | (with_reducible exact (hLaid.below hB).alloc _) | (with_reducible exact ((hLaid.below hB).alloc _).alloc _)); rintro e w3 ⟨rfl, hb⟩; replace hB := bt hB hb; clear hb)
    | (go_at_call 15; (with_reducible refine (c4 _ ?_).mono ?_); (first | (with_reducible exact hLaid.below hB) | (with_reducible exact (hLaid.below hB).alloc _) | (with_reducible exact ((hLaid.below hB).alloc _).alloc _)); rintro e w3 ⟨rfl, hb⟩; replace hB := bt hB hb; clear hb)
    | (go_at_call 13; (with_reducible refine (c5 _ ?_).mono ?_); (first | (with_reducible exact hLaid.below hB) | (with_reducible exact (hLaid.below hB).alloc _) | (with_reducible exact ((hLaid.below hB).alloc _).alloc _)); rintro e w3 ⟨rfl, hb⟩; replace hB := bt hB hb; clear hb))
  go_ret
  exact ⟨by first | rfl | exact ret_true (by decide), hB⟩
end Go.Proofs.YtjpcobfaojjceaaDoor
