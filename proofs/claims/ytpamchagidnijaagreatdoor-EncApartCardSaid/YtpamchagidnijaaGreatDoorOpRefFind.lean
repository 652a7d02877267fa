/-
  The document's own look-ups among the instructions, by code and by name: walked. Contracts that the proofs call; no statement is proved here.
-/
import Derived.Test.YtpamchagidnijaaGreatDoorOpRefRows
import Derived.Laws.ResultCell
namespace Go.Proofs.YtpamchagidnijaaGreatDoor
open Go.RowKit

theorem cellsOf_at : ∀ (l : List Rw) (k j : Nat) (hk : k < l.length), j < 5 → (cellsOf l)[k * 5 + j]? = (l[k]).cells[j]?
  | [], k, _, hk, _ => by simp at hk
  | r :: l, 0, j, _, hj => by
    rw [show cellsOf (r :: l) = r.cells ++ cellsOf l from rfl, Nat.zero_mul, Nat.zero_add, List.getElem?_append_left (by simp [Rw.cells]; omega)]
    rfl
  | r :: l, k + 1, j, hk, hj => by
    have ih := cellsOf_at l k j (by simpa using hk) hj
    rw [show cellsOf (r :: l) = r.cells ++ cellsOf l from rfl, List.getElem?_append_right (by simp [Rw.cells]; omega)]
    rw [show (k + 1) * 5 + j - r.cells.length = k * 5 + j by simp [Rw.cells]; omega, ih]
    simp

/-- What is told of a row, or of none. -/
def infoVal : Option Rw → Value
  | some r => .agg #[.string r.name, .int .i64 r.shape, .string r.params, .string r.results]
  | none => .agg #[.string ⟨#[]⟩, .int .i64 0, .string ⟨#[]⟩, .string ⟨#[]⟩]
def byCode (code : Int) : Option Rw := allRows.find? fun r => r.code == code
def byName (name : ByteArray) : Option Rw := allRows.find? fun r => decide (r.name = name)
def codeOf : Option Rw → Int
  | some r => r.code
  | none => 0

theorem find_drop {α : Type} {p : α → Bool} {l : List α} {k : Nat} (h : k < l.length) : (l.drop k).find? p = if p l[k] then some l[k] else (l.drop (k + 1)).find? p := by
  rw [List.drop_eq_getElem_cons h, List.find?_cons]
  cases p l[k] <;> rfl
theorem allRows_bd : ∀ r ∈ allRows, 0 ≤ r.code ∧ r.code ≤ 255 ∧ 0 ≤ r.shape ∧ r.shape ≤ 7 ∧ r.name.size ≤ 30 ∧ r.params.size ≤ 2 ∧ r.results.size ≤ 1 := by decide +kernel

/-- The cells of row k, where the whole list lies. -/
theorem row_cells {w : World} {g k : Nat} (hc : ∀ j u, (cellsOf allRows)[j]? = some u → w.cell? ((⟨g, 0, none⟩ : Addr).add j) = some u) (hk : k < allRows.length) (j : Nat) (u : Value) (hu : (allRows[k]).cells[j]? = some u) (hj : j < 5) : w.cell? ⟨g, k * 5 + j, none⟩ = some u := by
  have h := hc (k * 5 + j) u (by rw [cellsOf_at allRows k j hk hj]; exact hu)
  have e1 : ((⟨g, 0, none⟩ : Addr).add (k * 5 + j)) = ⟨g, k * 5 + j, none⟩ := by
    unfold Addr.add; split
    · rename_i h0; rw [h0]
    · simp
  rwa [e1] at h

theorem name_ne {a b : ByteArray} (h : ¬ a = b) : (a.toList == b.toList) = false := by
  refine beq_eq_false_iff_ne.2 fun e => h ?_
  obtain ⟨⟨x⟩⟩ := a
  obtain ⟨⟨y⟩⟩ := b
  rw [ByteArray.toList_mk, ByteArray.toList_mk] at e
  rw [e]
theorem name_eq {a b : ByteArray} (h : (a.toList == b.toList) = true) : a = b := by
  refine Decidable.byContradiction fun hn => ?_
  rw [name_ne hn] at h; cases h

/-- The cells of the result, as they were laid. -/
theorem res_cells {w w1 : World} {a b c d : Value} {t : TypeId} (hB : Below (w.alloc (.cells #[a, b, c, d] t)).heap.size (w.alloc (.cells #[a, b, c, d] t)) w1) :
    w1.cell? ⟨w.heap.size, 0, none⟩ = some a ∧ w1.cell? ⟨w.heap.size, 1, none⟩ = some b ∧ w1.cell? ⟨w.heap.size, 2, none⟩ = some c ∧ w1.cell? ⟨w.heap.size, 3, none⟩ = some d ∧
    w1.frozen? ⟨w.heap.size, 0, none⟩ = false ∧ w1.frozen? ⟨w.heap.size, 1, none⟩ = false ∧ w1.frozen? ⟨w.heap.size, 2, none⟩ = false ∧ w1.frozen? ⟨w.heap.size, 3, none⟩ = false := by
  have hlt : w.heap.size < (w.alloc (.cells #[a, b, c, d] t)).heap.size := by simp
  have hc : ∀ j, w1.cell? ⟨w.heap.size, j, none⟩ = #[a, b, c, d][j]? := fun j => by rw [hB.cell (p := ⟨w.heap.size, j, none⟩) hlt, World.cell?_alloc_new]
  have hf : ∀ j, w1.frozen? ⟨w.heap.size, j, none⟩ = (w.alloc (.cells #[a, b, c, d] t)).frozen? ⟨w.heap.size, j, none⟩ := fun j => hB.frozen (p := ⟨w.heap.size, j, none⟩) hlt
  refine ⟨hc 0, hc 1, hc 2, hc 3, ?_, ?_, ?_, ?_⟩
  all_goals (rw [hf]; exact World.frozen?_alloc_new _ _ _ _)

set_option maxRecDepth 100000 in
set_option maxHeartbeats 2000000 in
theorem ref_of (code : Int) (w : World) :
    Calls Tryz.prog 125 #[.int .i64 code] w fun e w' => e = .returned (.tuple #[infoVal (byCode code), .bool (byCode code).isSome]) ∧ Below w.heap.size w w' := by
  obtain ⟨R, hR⟩ : ∃ R, R = byCode code := ⟨_, rfl⟩
  rw [← hR]
  have HR := Lib.hid hR
  clear hR
  go_enter Tryz.func125, Tryz.ntmps125
  go_wp2_with (go_at_call 200; refine (ref_all _).mono ?_; rintro e w1 ⟨v, rfl, hown, hB⟩)
  obtain ⟨g, c, rfl, _, hc⟩ := own_slice hown (by decide)
  clear hown
  go_wp2
  have hlen : allRows.length = 103 := allRows_len
  obtain ⟨r0, r1, r2, r3, z0, z1, z2, z3⟩ := res_cells hB
  have hs1 : w.heap.size < w1.heap.size := Nat.lt_of_lt_of_le (by simp) hB.size
  go_loop [5] (fun i => ∃ k : Nat, k ≤ 103 ∧ i = .int .i64 k ∧ Hid (R = (allRows.drop k).find? fun r => r.code == code)) (fun i => 103 - (intOf i).toNat)
  case atStart => exact ⟨0, by omega, rfl, HR⟩
  case round =>
    obtain ⟨k, hk, rfl, hF⟩ := hrel
    by_cases hlt : k < 103
    · have hlt' : k < allRows.length := hlt
      have hf := hF.out
      rw [find_drop hlt'] at hf
      have hbd := allRows_bd allRows[k] (List.getElem_mem hlt')
      have c0 : w1.cell? ⟨g, k * 5, none⟩ = some (.int .i64 allRows[k].code) := row_cells hc hlt' 0 _ rfl (by decide)
      have c1 := row_cells hc hlt' 1 _ rfl (by decide)
      have c2 := row_cells hc hlt' 2 _ rfl (by decide)
      have c3 := row_cells hc hlt' 3 _ rfl (by decide)
      have c4 := row_cells hc hlt' 4 _ rfl (by decide)
      generalize allRows[k] = r at *
      obtain ⟨rc, rn, rs, rp, rr⟩ := r
      simp only at c0 c1 c2 c3 c4 hbd hf
      by_cases he : rc = code
      · simp only [he, beq_self_eq_true, if_true] at hf
        have HF := Lib.hid hf
        clear hf
        subst he
        go_wp2
        (try simp only [Exit.inBlock, Exit.then])
        refine bodyPost_ret (v := .tuple #[.agg #[.string rn, .int .i64 rs, .string rp, .string rr], .bool true]) ?_ rfl ⟨?_, ?_⟩
        · rw [results_cell_tmp rfl]; go_simp
        · rw [HF.out]; rfl
        · exact ((((((Below.refl _ w).alloc (Nat.le_refl _) _).trans (hB.mono (by simp))).setCell (Nat.le_refl _) _).setCell (Nat.le_refl _) _).setCell (Nat.le_refl _) _).setCell (Nat.le_refl _) _
      · have hb : (rc == code) = false := by simp [he]
        simp only [hb] at hf
        have HF := Lib.hid hf
        clear hf
        go_wp2
        go_round
        case rel => exact ⟨k + 1, by omega, by go_num, HF⟩
        case measure => simp [intOf]; omega
    · have hk103 : k = 103 := by omega
      have hf := hF.out
      rw [List.drop_of_length_le (by omega)] at hf
      have HF := Lib.hid hf
      clear hf hk103
      go_wp2
      (try simp only [Exit.inBlock, Exit.then])
      refine bodyPost_ret (v := .tuple #[.agg #[.string ⟨#[]⟩, .int .i64 0, .string ⟨#[]⟩, .string ⟨#[]⟩], .bool false]) ?_ rfl ⟨?_, ?_⟩
      · rw [results_cell_tmp rfl]; go_simp
      · rw [HF.out]; rfl
      · exact ((((((Below.refl _ w).alloc (Nat.le_refl _) _).trans (hB.mono (by simp))).setCell (Nat.le_refl _) _).setCell (Nat.le_refl _) _).setCell (Nat.le_refl _) _).setCell (Nat.le_refl _) _
end Go.Proofs.YtpamchagidnijaaGreatDoor

namespace Go.Proofs.YtpamchagidnijaaGreatDoor
open Go.RowKit

def word (n : Int) : Bool := decide (0 ≤ n ∧ n < 4294967296)
theorem ret_bl {a b : Bool} (h : a = b) : Ending.returned (.bool a) = .returned (.bool b) := by rw [h]

set_option maxHeartbeats 400000 in
theorem ref_word (n : Int) (w : World) : Calls Tryz.prog 199 #[.int .i64 n] w fun e w' => e = .returned (.bool (word n)) ∧ w = w' := by
  by_cases h0 : 0 ≤ n
  · by_cases h1 : n < 4294967296
    · have e : word n = true := by simp [word]; omega
      rw [e]
      go_enter Tryz.func199, Tryz.ntmps199
      go_wp2
      go_ret
      exact ⟨rfl, rfl⟩
    · have e : word n = false := by simp [word]; omega
      rw [e]
      go_enter Tryz.func199, Tryz.ntmps199
      go_wp2
      go_ret
      exact ⟨by first | rfl | exact ret_bl (by simp; omega), rfl⟩
  · have e : word n = false := by simp [word]; omega
    rw [e]
    go_enter Tryz.func199, Tryz.ntmps199
    go_wp2
    go_ret
    exact ⟨rfl, rfl⟩
end Go.Proofs.YtpamchagidnijaaGreatDoor

namespace Go.Proofs.YtpamchagidnijaaGreatDoor
open Go.RowKit

/-- Is an instruction right: of what is told of its code, its numbers, its labels. -/
def rightOf (i : Option Rw) (op a b : Int) (ls : List Int) : Bool :=
  match i with
  | none => false
  | some r =>
    if b ≠ 0 ∧ r.shape ≠ 5 then false
    else if ls ≠ [] ∧ r.shape ≠ 3 then false
    else if r.shape = 0 ∨ r.shape = 6 then decide (a = 0)
    else if r.shape = 1 then decide (a = 64 ∨ a = 126 ∨ a = 127)
    else if r.shape = 3 then ls.all word && decide (ls.length ≤ 4096) && word a
    else if r.shape = 5 then word a && word b
    else if r.shape = 7 then decide (op = 66) || decide (-2147483648 ≤ a ∧ a < 2147483648)
    else word a

/-- A list of numbers lies where a slice says. -/
def IntsAt (w : World) (p : Option Addr) (ls : List Int) : Prop := ∀ j (hj : j < ls.length), ∃ b o, p = some ⟨b, o, none⟩ ∧ b < w.heap.size ∧ w.cell? ⟨b, o + j, none⟩ = some (.int .i64 ls[j])
theorem IntsAt.below {w w' : World} {p : Option Addr} {ls : List Int} {B : Nat} (h : IntsAt w p ls) (hB : Below B w w') (hs : w.heap.size ≤ B) : IntsAt w' p ls := fun j hj => by
  obtain ⟨b, o, hp, hb, hc⟩ := h j hj
  exact ⟨b, o, hp, Nat.lt_of_lt_of_le hb hB.size, by rw [hB.cell (p := ⟨b, o + j, none⟩) (by show b < B; omega)]; exact hc⟩
theorem byCode_bd {c : Int} {r : Rw} (h : byCode c = some r) : 0 ≤ r.code ∧ r.code ≤ 255 ∧ 0 ≤ r.shape ∧ r.shape ≤ 7 ∧ r.name.size ≤ 30 ∧ r.params.size ≤ 2 ∧ r.results.size ≤ 1 := allRows_bd r (List.mem_of_find?_eq_some h)

theorem eq_decide (x y : Int) : (x == y) = decide (x = y) := by by_cases h : x = y <;> simp [h]
theorem of_none {op : Int} (h : byCode op = none) (w : World) :
    Calls Tryz.prog 125 #[.int .i64 op] w fun e w' => e = .returned (.tuple #[.agg #[.string ⟨#[]⟩, .int .i64 0, .string ⟨#[]⟩, .string ⟨#[]⟩], .bool false]) ∧ Below w.heap.size w w' := by
  have c := ref_of op w
  rw [h] at c; exact c
theorem of_some {op : Int} {r : Rw} (h : byCode op = some r) (w : World) :
    Calls Tryz.prog 125 #[.int .i64 op] w fun e w' => e = .returned (.tuple #[.agg #[.string r.name, .int .i64 r.shape, .string r.params, .string r.results], .bool true]) ∧ Below w.heap.size w w' := by
  have c := ref_of op w
  rw [h] at c; exact c


set_option maxRecDepth 100000 in
set_option maxHeartbeats 4000000 in
theorem ref_right_none (op a b : Int) (p : Option Addr) (n cap : Nat) (h : byCode op = none) (w : World) :
    Calls Tryz.prog 124 #[.agg #[.int .i64 op, .int .i64 a, .int .i64 b, .slice p n cap]] w fun e w' => e = .returned (.bool (false)) ∧ Below w.heap.size w w' := by
  have c := of_none h
  clear h
  go_enter Tryz.func124, Tryz.ntmps124
  go_wp2_with (first | (go_at_call 125; (with_reducible refine (c _).mono ?_); rintro e w1 ⟨rfl, hB⟩; have ⟨r0, r1, r2, r3, z0, z1, z2, z3⟩ := res_cells hB; have hs1 : w.heap.size < w1.heap.size := Nat.lt_of_lt_of_le (by simp) hB.size))
  all_goals go_ret
  all_goals exact ⟨by first | rfl | exact ret_bl (by simp), (((Below.refl _ w).alloc (Nat.le_refl _) _).trans (hB.mono (by simp))).alloc (Nat.le_of_lt hs1) _⟩

set_option maxRecDepth 100000 in
set_option maxHeartbeats 4000000 in
theorem ref_right_b (op a b : Int) (p : Option Addr) (n cap : Nat) (r : Rw) (h : byCode op = some r) (hs : r.shape ≠ 5) (hb : b ≠ 0) (w : World) :
    Calls Tryz.prog 124 #[.agg #[.int .i64 op, .int .i64 a, .int .i64 b, .slice p n cap]] w fun e w' => e = .returned (.bool (false)) ∧ Below w.heap.size w w' := by
  have c := of_some h
  have hbd := byCode_bd h
  clear h
  obtain ⟨rc, rn, s, rp, rr⟩ := r
  simp only at c hbd hs
  go_enter Tryz.func124, Tryz.ntmps124
  go_wp2_with (first | (go_at_call 125; (with_reducible refine (c _).mono ?_); rintro e w1 ⟨rfl, hB⟩; have ⟨r0, r1, r2, r3, z0, z1, z2, z3⟩ := res_cells hB; have hs1 : w.heap.size < w1.heap.size := Nat.lt_of_lt_of_le (by simp) hB.size))
  all_goals go_ret
  all_goals exact ⟨by first | rfl | exact ret_bl (by simp), (((Below.refl _ w).alloc (Nat.le_refl _) _).trans (hB.mono (by simp))).alloc (Nat.le_of_lt hs1) _⟩

set_option maxRecDepth 100000 in
set_option maxHeartbeats 4000000 in
theorem ref_right_l0 (op a b : Int) (p : Option Addr) (n cap : Nat) (r : Rw) (h : byCode op = some r) (hs : r.shape ≠ 3) (hb : b = 0) (hn : n ≠ 0) (w : World) :
    Calls Tryz.prog 124 #[.agg #[.int .i64 op, .int .i64 a, .int .i64 b, .slice p n cap]] w fun e w' => e = .returned (.bool (false)) ∧ Below w.heap.size w w' := by
  have c := of_some h
  have hbd := byCode_bd h
  clear h
  obtain ⟨rc, rn, s, rp, rr⟩ := r
  simp only at c hbd hs
  subst hb
  have hn1 : (0 : Int) < n := by omega
  go_enter Tryz.func124, Tryz.ntmps124
  go_wp2_with (first | (go_at_call 125; (with_reducible refine (c _).mono ?_); rintro e w1 ⟨rfl, hB⟩; have ⟨r0, r1, r2, r3, z0, z1, z2, z3⟩ := res_cells hB; have hs1 : w.heap.size < w1.heap.size := Nat.lt_of_lt_of_le (by simp) hB.size))
  all_goals go_ret
  all_goals exact ⟨by first | rfl | exact ret_bl (by simp), (((Below.refl _ w).alloc (Nat.le_refl _) _).trans (hB.mono (by simp))).alloc (Nat.le_of_lt hs1) _⟩

set_option maxRecDepth 100000 in
set_option maxHeartbeats 4000000 in
theorem ref_right_l5 (op a b : Int) (p : Option Addr) (n cap : Nat) (r : Rw) (h : byCode op = some r) (hs : r.shape = 5) (hn : n ≠ 0) (w : World) :
    Calls Tryz.prog 124 #[.agg #[.int .i64 op, .int .i64 a, .int .i64 b, .slice p n cap]] w fun e w' => e = .returned (.bool (false)) ∧ Below w.heap.size w w' := by
  have c := of_some h
  have hbd := byCode_bd h
  clear h
  obtain ⟨rc, rn, s, rp, rr⟩ := r
  simp only at c hbd hs
  subst hs
  have hn1 : (0 : Int) < n := by omega
  go_enter Tryz.func124, Tryz.ntmps124
  go_wp2_with (first | (go_at_call 125; (with_reducible refine (c _).mono ?_); rintro e w1 ⟨rfl, hB⟩; have ⟨r0, r1, r2, r3, z0, z1, z2, z3⟩ := res_cells hB; have hs1 : w.heap.size < w1.heap.size := Nat.lt_of_lt_of_le (by simp) hB.size))
  all_goals go_ret
  all_goals exact ⟨by first | rfl | exact ret_bl (by simp), (((Below.refl _ w).alloc (Nat.le_refl _) _).trans (hB.mono (by simp))).alloc (Nat.le_of_lt hs1) _⟩

set_option maxRecDepth 100000 in
set_option maxHeartbeats 4000000 in
theorem ref_right_0 (op a b : Int) (p : Option Addr) (n cap : Nat) (r : Rw) (h : byCode op = some r) (hs : r.shape = 0) (hb : b = 0) (hn : n = 0) (w : World) :
    Calls Tryz.prog 124 #[.agg #[.int .i64 op, .int .i64 a, .int .i64 b, .slice p n cap]] w fun e w' => e = .returned (.bool (decide (a = 0))) ∧ Below w.heap.size w w' := by
  have c := of_some h
  have hbd := byCode_bd h
  clear h
  obtain ⟨rc, rn, s, rp, rr⟩ := r
  simp only at c hbd hs
  subst hb
  subst hn
  subst hs
  go_enter Tryz.func124, Tryz.ntmps124
  go_wp2_with (first | (go_at_call 125; (with_reducible refine (c _).mono ?_); rintro e w1 ⟨rfl, hB⟩; have ⟨r0, r1, r2, r3, z0, z1, z2, z3⟩ := res_cells hB; have hs1 : w.heap.size < w1.heap.size := Nat.lt_of_lt_of_le (by simp) hB.size))
  all_goals go_ret
  all_goals exact ⟨by first | rfl | exact ret_bl (by simp [eq_decide]), (((Below.refl _ w).alloc (Nat.le_refl _) _).trans (hB.mono (by simp))).alloc (Nat.le_of_lt hs1) _⟩

set_option maxRecDepth 100000 in
set_option maxHeartbeats 4000000 in
theorem ref_right_6 (op a b : Int) (p : Option Addr) (n cap : Nat) (r : Rw) (h : byCode op = some r) (hs : r.shape = 6) (hb : b = 0) (hn : n = 0) (w : World) :
    Calls Tryz.prog 124 #[.agg #[.int .i64 op, .int .i64 a, .int .i64 b, .slice p n cap]] w fun e w' => e = .returned (.bool (decide (a = 0))) ∧ Below w.heap.size w w' := by
  have c := of_some h
  have hbd := byCode_bd h
  clear h
  obtain ⟨rc, rn, s, rp, rr⟩ := r
  simp only at c hbd hs
  subst hb
  subst hn
  subst hs
  go_enter Tryz.func124, Tryz.ntmps124
  go_wp2_with (first | (go_at_call 125; (with_reducible refine (c _).mono ?_); rintro e w1 ⟨rfl, hB⟩; have ⟨r0, r1, r2, r3, z0, z1, z2, z3⟩ := res_cells hB; have hs1 : w.heap.size < w1.heap.size := Nat.lt_of_lt_of_le (by simp) hB.size))
  all_goals go_ret
  all_goals exact ⟨by first | rfl | exact ret_bl (by simp [eq_decide]), (((Below.refl _ w).alloc (Nat.le_refl _) _).trans (hB.mono (by simp))).alloc (Nat.le_of_lt hs1) _⟩

set_option maxRecDepth 100000 in
set_option maxHeartbeats 4000000 in
theorem ref_right_1 (op a b : Int) (p : Option Addr) (n cap : Nat) (r : Rw) (h : byCode op = some r) (hs : r.shape = 1) (hb : b = 0) (hn : n = 0) (w : World) :
    Calls Tryz.prog 124 #[.agg #[.int .i64 op, .int .i64 a, .int .i64 b, .slice p n cap]] w fun e w' => e = .returned (.bool (decide (a = 64 ∨ a = 126 ∨ a = 127))) ∧ Below w.heap.size w w' := by
  have c := of_some h
  have hbd := byCode_bd h
  clear h
  obtain ⟨rc, rn, s, rp, rr⟩ := r
  simp only at c hbd hs
  subst hb
  subst hn
  subst hs
  go_enter Tryz.func124, Tryz.ntmps124
  go_wp2_with (first | (go_at_call 125; (with_reducible refine (c _).mono ?_); rintro e w1 ⟨rfl, hB⟩; have ⟨r0, r1, r2, r3, z0, z1, z2, z3⟩ := res_cells hB; have hs1 : w.heap.size < w1.heap.size := Nat.lt_of_lt_of_le (by simp) hB.size))
  all_goals go_ret
  all_goals exact ⟨by first | rfl | exact ret_bl (by rw [Bool.eq_iff_iff]; simp [eq_decide] <;> omega), (((Below.refl _ w).alloc (Nat.le_refl _) _).trans (hB.mono (by simp))).alloc (Nat.le_of_lt hs1) _⟩

set_option maxRecDepth 100000 in
set_option maxHeartbeats 4000000 in
theorem ref_right_2 (op a b : Int) (p : Option Addr) (n cap : Nat) (r : Rw) (h : byCode op = some r) (hs : r.shape = 2) (hb : b = 0) (hn : n = 0) (w : World) :
    Calls Tryz.prog 124 #[.agg #[.int .i64 op, .int .i64 a, .int .i64 b, .slice p n cap]] w fun e w' => e = .returned (.bool (word a)) ∧ Below w.heap.size w w' := by
  have c := of_some h
  have hbd := byCode_bd h
  clear h
  obtain ⟨rc, rn, s, rp, rr⟩ := r
  simp only at c hbd hs
  subst hb
  subst hn
  subst hs
  have cw := ref_word a
  generalize word a = x at cw ⊢
  go_enter Tryz.func124, Tryz.ntmps124
  go_wp2_with (first | (go_at_call 125; (with_reducible refine (c _).mono ?_); rintro e w1 ⟨rfl, hB⟩; have ⟨r0, r1, r2, r3, z0, z1, z2, z3⟩ := res_cells hB; have hs1 : w.heap.size < w1.heap.size := Nat.lt_of_lt_of_le (by simp) hB.size) | (go_at_call 199; (with_reducible refine (cw _).mono ?_); rintro e w' ⟨rfl, rfl⟩))
  all_goals go_ret
  all_goals exact ⟨by first | rfl | exact ret_bl (by simp), (((Below.refl _ w).alloc (Nat.le_refl _) _).trans (hB.mono (by simp))).alloc (Nat.le_of_lt hs1) _⟩

set_option maxRecDepth 100000 in
set_option maxHeartbeats 4000000 in
theorem ref_right_4 (op a b : Int) (p : Option Addr) (n cap : Nat) (r : Rw) (h : byCode op = some r) (hs : r.shape = 4) (hb : b = 0) (hn : n = 0) (w : World) :
    Calls Tryz.prog 124 #[.agg #[.int .i64 op, .int .i64 a, .int .i64 b, .slice p n cap]] w fun e w' => e = .returned (.bool (word a)) ∧ Below w.heap.size w w' := by
  have c := of_some h
  have hbd := byCode_bd h
  clear h
  obtain ⟨rc, rn, s, rp, rr⟩ := r
  simp only at c hbd hs
  subst hb
  subst hn
  subst hs
  have cw := ref_word a
  generalize word a = x at cw ⊢
  go_enter Tryz.func124, Tryz.ntmps124
  go_wp2_with (first | (go_at_call 125; (with_reducible refine (c _).mono ?_); rintro e w1 ⟨rfl, hB⟩; have ⟨r0, r1, r2, r3, z0, z1, z2, z3⟩ := res_cells hB; have hs1 : w.heap.size < w1.heap.size := Nat.lt_of_lt_of_le (by simp) hB.size) | (go_at_call 199; (with_reducible refine (cw _).mono ?_); rintro e w' ⟨rfl, rfl⟩))
  all_goals go_ret
  all_goals exact ⟨by first | rfl | exact ret_bl (by simp), (((Below.refl _ w).alloc (Nat.le_refl _) _).trans (hB.mono (by simp))).alloc (Nat.le_of_lt hs1) _⟩

set_option maxRecDepth 100000 in
set_option maxHeartbeats 4000000 in
theorem ref_right_50 (op a b : Int) (p : Option Addr) (n cap : Nat) (r : Rw) (h : byCode op = some r) (hs : r.shape = 5) (hb : b = 0) (hn : n = 0) (w : World) :
    Calls Tryz.prog 124 #[.agg #[.int .i64 op, .int .i64 a, .int .i64 b, .slice p n cap]] w fun e w' => e = .returned (.bool (word a && word b)) ∧ Below w.heap.size w w' := by
  have c := of_some h
  have hbd := byCode_bd h
  clear h
  obtain ⟨rc, rn, s, rp, rr⟩ := r
  simp only at c hbd hs
  subst hb
  subst hn
  subst hs
  have cw := ref_word a
  have cv := ref_word 0
  generalize word a = x at cw ⊢
  generalize word 0 = y at cv ⊢
  cases x
  all_goals
    go_enter Tryz.func124, Tryz.ntmps124
    go_wp2_with (first | (go_at_call 125; (with_reducible refine (c _).mono ?_); rintro e w1 ⟨rfl, hB⟩; have ⟨r0, r1, r2, r3, z0, z1, z2, z3⟩ := res_cells hB; have hs1 : w.heap.size < w1.heap.size := Nat.lt_of_lt_of_le (by simp) hB.size) | (go_at_call 199; (with_reducible refine (cw _).mono ?_); rintro e w' ⟨rfl, rfl⟩) | (go_at_call 199; (with_reducible refine (cv _).mono ?_); rintro e w' ⟨rfl, rfl⟩))
    all_goals go_ret
    all_goals exact ⟨by first | rfl | exact ret_bl (by simp), (((Below.refl _ w).alloc (Nat.le_refl _) _).trans (hB.mono (by simp))).alloc (Nat.le_of_lt hs1) _⟩

set_option maxRecDepth 100000 in
set_option maxHeartbeats 4000000 in
theorem ref_right_5b (op a b : Int) (p : Option Addr) (n cap : Nat) (r : Rw) (h : byCode op = some r) (hs : r.shape = 5) (hb : b ≠ 0) (hn : n = 0) (w : World) :
    Calls Tryz.prog 124 #[.agg #[.int .i64 op, .int .i64 a, .int .i64 b, .slice p n cap]] w fun e w' => e = .returned (.bool (word a && word b)) ∧ Below w.heap.size w w' := by
  have c := of_some h
  have hbd := byCode_bd h
  clear h
  obtain ⟨rc, rn, s, rp, rr⟩ := r
  simp only at c hbd hs
  have hbb : (b == 0) = false := by simp [hb]
  subst hn
  subst hs
  have cw := ref_word a
  have cv := ref_word b
  generalize word a = x at cw ⊢
  generalize word b = y at cv ⊢
  cases x
  all_goals
    go_enter Tryz.func124, Tryz.ntmps124
    go_wp2_with (first | (go_at_call 125; (with_reducible refine (c _).mono ?_); rintro e w1 ⟨rfl, hB⟩; have ⟨r0, r1, r2, r3, z0, z1, z2, z3⟩ := res_cells hB; have hs1 : w.heap.size < w1.heap.size := Nat.lt_of_lt_of_le (by simp) hB.size) | (go_at_call 199; (with_reducible refine (cw _).mono ?_); rintro e w' ⟨rfl, rfl⟩) | (go_at_call 199; (with_reducible refine (cv _).mono ?_); rintro e w' ⟨rfl, rfl⟩))
    all_goals go_ret
    all_goals exact ⟨by first | rfl | exact ret_bl (by simp), (((Below.refl _ w).alloc (Nat.le_refl _) _).trans (hB.mono (by simp))).alloc (Nat.le_of_lt hs1) _⟩

set_option maxRecDepth 100000 in
set_option maxHeartbeats 4000000 in
theorem ref_right_7 (op a b : Int) (p : Option Addr) (n cap : Nat) (r : Rw) (h : byCode op = some r) (hs : r.shape = 7) (hb : b = 0) (hn : n = 0) (w : World) :
    Calls Tryz.prog 124 #[.agg #[.int .i64 op, .int .i64 a, .int .i64 b, .slice p n cap]] w fun e w' => e = .returned (.bool (decide (op = 66) || decide (-2147483648 ≤ a ∧ a < 2147483648))) ∧ Below w.heap.size w w' := by
  have c := of_some h
  have hbd := byCode_bd h
  clear h
  obtain ⟨rc, rn, s, rp, rr⟩ := r
  simp only at c hbd hs
  subst hb
  subst hn
  subst hs
  go_enter Tryz.func124, Tryz.ntmps124
  go_wp2_with (first | (go_at_call 125; (with_reducible refine (c _).mono ?_); rintro e w1 ⟨rfl, hB⟩; have ⟨r0, r1, r2, r3, z0, z1, z2, z3⟩ := res_cells hB; have hs1 : w.heap.size < w1.heap.size := Nat.lt_of_lt_of_le (by simp) hB.size))
  all_goals go_ret
  all_goals exact ⟨by first | rfl | exact ret_bl (by rw [Bool.eq_iff_iff]; simp [eq_decide] <;> omega), (((Below.refl _ w).alloc (Nat.le_refl _) _).trans (hB.mono (by simp))).alloc (Nat.le_of_lt hs1) _⟩

set_option maxRecDepth 100000 in
set_option maxHeartbeats 4000000 in
theorem ref_right_30 (op a b : Int) (p : Option Addr) (n cap : Nat) (r : Rw) (h : byCode op = some r) (hs : r.shape = 3) (hb : b = 0) (hn : n = 0) (w : World) :
    Calls Tryz.prog 124 #[.agg #[.int .i64 op, .int .i64 a, .int .i64 b, .slice p n cap]] w fun e w' => e = .returned (.bool (word a)) ∧ Below w.heap.size w w' := by
  have c := of_some h
  have hbd := byCode_bd h
  clear h
  obtain ⟨rc, rn, s, rp, rr⟩ := r
  simp only at c hbd hs
  subst hb
  subst hn
  subst hs
  have cw := ref_word a
  generalize word a = x at cw ⊢
  go_enter Tryz.func124, Tryz.ntmps124
  go_wp2_with (go_at_call 125; (with_reducible refine (c _).mono ?_); rintro e w1 ⟨rfl, hB⟩; have ⟨r0, r1, r2, r3, z0, z1, z2, z3⟩ := res_cells hB; have hs1 : w.heap.size < w1.heap.size := Nat.lt_of_lt_of_le (by simp) hB.size)
  go_loop [5] (fun i => i = .int .i64 0) (fun _ => 0)
  case atStart => rfl
  case round =>
    obtain rfl := hrel
    go_wp2_with (go_at_call 199; (with_reducible refine (cw _).mono ?_); rintro e w' ⟨rfl, rfl⟩)
    go_ret
    exact ⟨by first | rfl | exact ret_bl (by simp), (((Below.refl _ w).alloc (Nat.le_refl _) _).trans (hB.mono (by simp))).alloc (Nat.le_of_lt hs1) _⟩

set_option maxRecDepth 100000 in
set_option maxHeartbeats 4000000 in
theorem ref_right_3 (op a : Int) (bk o cap : Nat) (ls : List Int) (r : Rw) (h : byCode op = some r) (hs : r.shape = 3) (n : Nat) (hn : n = ls.length) (hn0 : n ≠ 0) (hmx : n ≤ 17592186044416) (w : World) (hbk : bk < w.heap.size) (hls : ∀ j (hj : j < ls.length), w.cell? ⟨bk, o + j, none⟩ = some (.int .i64 ls[j])) :
    Calls Tryz.prog 124 #[.agg #[.int .i64 op, .int .i64 a, .int .i64 0, .slice (some ⟨bk, o, none⟩) n cap]] w fun e w' => e = .returned (.bool (ls.all word && decide (n ≤ 4096) && word a)) ∧ Below w.heap.size w w' := by
  have c := of_some h
  have hbd := byCode_bd h
  clear h
  obtain ⟨rc, rn, s, rp, rr⟩ := r
  simp only at c hbd hs
  subst hs
  have hn1 : (0 : Int) < n := by omega
  have cw := ref_word a
  generalize word a = xa at cw ⊢
  have HN := Lib.hid hn
  clear hn
  obtain ⟨ALL, hALL⟩ : ∃ ALL, ALL = ls.all word := ⟨_, rfl⟩
  rw [← hALL]
  have HALL := Lib.hid hALL
  clear hALL
  go_enter Tryz.func124, Tryz.ntmps124
  go_wp2_with (go_at_call 125; (with_reducible refine (c _).mono ?_); rintro e w1 ⟨rfl, hB⟩; have ⟨r0, r1, r2, r3, z0, z1, z2, z3⟩ := res_cells hB; have hs1 : w.heap.size < w1.heap.size := Nat.lt_of_lt_of_le (by simp) hB.size)
  have hbk1 : bk < w1.heap.size := Nat.lt_trans hbk hs1
  go_loop [5] (fun i => ∃ k : Nat, k ≤ n ∧ i = .int .i64 k ∧ Hid (ALL = (ls.drop k).all word)) (fun i => n - (intOf i).toNat)
  case atStart => exact ⟨0, by omega, rfl, HALL⟩
  case round =>
    obtain ⟨k, hk, rfl, hF⟩ := hrel
    by_cases hlt : k < n
    · have hlt' : k < ls.length := by have := HN.out; omega
      have hcx : w1.cell? ⟨bk, o + k, none⟩ = some (.int .i64 ls[k]) := (hB.cell (p := ⟨bk, o + k, none⟩) (Nat.lt_trans hbk (by simp))).trans ((World.cell?_alloc_lt w _ _ hbk).trans (hls k hlt'))
      have hf := hF.out
      rw [List.drop_eq_getElem_cons hlt', List.all_cons] at hf
      have cx := ref_word ls[k]
      generalize ls[k] = x at *
      generalize word x = y at *
      have HF := Lib.hid hf
      clear hf hls
      cases y
      · go_wp2_with (go_at_call 199; (with_reducible refine (cx _).mono ?_); rintro e w' ⟨rfl, rfl⟩)
        go_ret
        have e : ALL = false := by have := HF.out; simpa using this
        exact ⟨ret_bl (by rw [e]; rfl), (((Below.refl _ w).alloc (Nat.le_refl _) _).trans (hB.mono (by simp))).alloc (Nat.le_of_lt hs1) _⟩
      · go_wp2_with (go_at_call 199; (with_reducible refine (cx _).mono ?_); rintro e w' ⟨rfl, rfl⟩)
        go_round
        case rel => exact ⟨k + 1, by omega, by go_num, Lib.hid (by have := HF.out; simpa using this)⟩
        case measure => simp [intOf]; omega
    · have hkn : k = ls.length := by have := HN.out; omega
      have e : ALL = true := by have := hF.out; rw [List.drop_of_length_le (by omega)] at this; simpa using this
      clear hkn hls
      have HE := Lib.hid e
      clear e
      by_cases h4 : n ≤ 4096
      · go_wp2_with (go_at_call 199; (with_reducible refine (cw _).mono ?_); rintro e w' ⟨rfl, rfl⟩)
        go_ret
        exact ⟨by first | rfl | exact ret_bl (by rw [HE.out]; simp [h4]), (((Below.refl _ w).alloc (Nat.le_refl _) _).trans (hB.mono (by simp))).alloc (Nat.le_of_lt hs1) _⟩
      · go_wp2_with (go_at_call 199; (with_reducible refine (cw _).mono ?_); rintro e w' ⟨rfl, rfl⟩)
        go_ret
        exact ⟨by first | rfl | exact ret_bl (by rw [HE.out]; simp [h4]), (((Below.refl _ w).alloc (Nat.le_refl _) _).trans (hB.mono (by simp))).alloc (Nat.le_of_lt hs1) _⟩

/-- The document's own answer, whole. -/
theorem ref_right (op a b : Int) (p : Option Addr) (n cap : Nat) (ls : List Int) (hn : n = ls.length) (hmx : n ≤ 17592186044416) (w : World) (hls : IntsAt w p ls) :
    Calls Tryz.prog 124 #[.agg #[.int .i64 op, .int .i64 a, .int .i64 b, .slice p n cap]] w fun e w' => e = .returned (.bool (rightOf (byCode op) op a b ls)) ∧ Below w.heap.size w w' := by
  cases h : byCode op with
  | none => exact ref_right_none op a b p n cap h w
  | some r =>
    have hbd := byCode_bd h
    have hs : r.shape = 0 ∨ r.shape = 1 ∨ r.shape = 2 ∨ r.shape = 3 ∨ r.shape = 4 ∨ r.shape = 5 ∨ r.shape = 6 ∨ r.shape = 7 := by omega
    by_cases hb : b = 0
    · subst hb
      by_cases h0 : n = 0
      · have hl : ls = [] := List.eq_nil_of_length_eq_zero (by omega)
        subst hl
        rcases hs with hs | hs | hs | hs | hs | hs | hs | hs
        · have g := ref_right_0 op a 0 p n cap r h hs rfl h0 w; simpa [rightOf, hs] using g
        · have g := ref_right_1 op a 0 p n cap r h hs rfl h0 w; simpa [rightOf, hs] using g
        · have g := ref_right_2 op a 0 p n cap r h hs rfl h0 w; simpa [rightOf, hs] using g
        · have g := ref_right_30 op a 0 p n cap r h hs rfl h0 w; simpa [rightOf, hs] using g
        · have g := ref_right_4 op a 0 p n cap r h hs rfl h0 w; simpa [rightOf, hs] using g
        · have g := ref_right_50 op a 0 p n cap r h hs rfl h0 w; simpa [rightOf, hs] using g
        · have g := ref_right_6 op a 0 p n cap r h hs rfl h0 w; simpa [rightOf, hs] using g
        · have g := ref_right_7 op a 0 p n cap r h hs rfl h0 w; simpa [rightOf, hs] using g
      · have hl : ls ≠ [] := fun e => h0 (by rw [hn, e]; rfl)
        by_cases h3 : r.shape = 3
        · obtain ⟨bk, o, hp, hbk, _⟩ := hls 0 (by omega)
          subst hp
          have g := ref_right_3 op a bk o cap ls r h h3 n hn h0 hmx w hbk (fun j hj => by
            obtain ⟨b', o', e, _, hc⟩ := hls j hj
            injection e with e; injection e with e1 e2; subst e1; subst e2; exact hc)
          simpa [rightOf, h3, hn] using g
        · have g := ref_right_l0 op a 0 p n cap r h h3 rfl h0 w
          simpa [rightOf, h3, hl] using g
    · by_cases h5 : r.shape = 5
      · by_cases h0 : n = 0
        · have hl : ls = [] := List.eq_nil_of_length_eq_zero (by omega)
          subst hl
          have g := ref_right_5b op a b p n cap r h h5 hb h0 w; simpa [rightOf, h5] using g
        · have hl : ls ≠ [] := fun e => h0 (by rw [hn, e]; rfl)
          have g := ref_right_l5 op a b p n cap r h h5 h0 w
          simpa [rightOf, h5, hl] using g
      · have g := ref_right_b op a b p n cap r h h5 hb w
        simpa [rightOf, h5, hb] using g
end Go.Proofs.YtpamchagidnijaaGreatDoor
