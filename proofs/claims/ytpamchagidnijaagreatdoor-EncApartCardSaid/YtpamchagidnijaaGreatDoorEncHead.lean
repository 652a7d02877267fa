/-
  The examples ahead of each statement of chapter 5, and the document's own answer to modules, whole: contracts that the proofs call; no statement is proved here.
-/
import Derived.Test.YtpamchagidnijaaGreatDoorDrawInv
import Derived.Test.YtpamchagidnijaaGreatDoorModMadeAt
import Derived.Test.YtpamchagidnijaaGreatDoorModProg
import Derived.Maps.AppendAt
namespace Go.Proofs.YtpamchagidnijaaGreatDoor
open Go.RowKit
set_option linter.unusedVariables false

theorem bel1 {B : Nat} {w W : World} (h : Below B w W) (hB : B ≤ w.heap.size) (o : Obj) : Below B w (W.alloc o) := h.alloc (Nat.le_trans hB h.size) o
theorem belt {B : Nat} {w W W' : World} (h : Below B w W) (hB : B ≤ w.heap.size) (h2 : Below W.heap.size W W') : Below B w W' := h.trans (h2.mono (Nat.le_trans hB h.size))
/-- A module of nothing. -/
def mod0 (n : Int) : MoV := ⟨none, 0, [], none, 0, [], none, 0, [], none, 0, [], none, 0, [], n, none, 0, []⟩
theorem mod0_at (w : World) (n : Int) (hn : inI64 n) : ModAt w (mod0 n) where
  types := RowsAt.nil
  typesIn := fun x hx => by cases hx
  typesMost := by simp [mod0]
  funcs := RowsAt.nil
  funcsIn := fun x hx => by cases hx
  funcsMost := by simp [mod0]
  memory := RowsAt.nil
  memoryIn := fun x hx => by cases hx
  memoryMost := by simp [mod0]
  globals := RowsAt.nil
  globalsIn := fun x hx => by cases hx
  globalsMost := by simp [mod0]
  exports := RowsAt.nil
  exportsIn := fun x hx => by cases hx
  exportsMost := by simp [mod0]
  startIn := hn
  data := RowsAt.nil
  dataIn := fun x hx => by cases hx
  dataMost := by simp [mod0]

set_option maxRecDepth 100000 in
set_option maxHeartbeats 8000000 in
theorem head5 (w : World) (hLaid : Laid w) : Calls Tryz.prog 10 #[] w fun e w' => e = .returned (.bool true) ∧ Below w.heap.size w w' := by
  have c1 : ∀ W, Laid W → Calls Tryz.prog 12 #[.agg #[.slice none 0 0, .slice none 0 0, .slice none 0 0, .slice none 0 0, .slice none 0 0, .int .i64 (-1), .slice none 0 0]] W fun e w' => e = .returned (.tuple #[.string ⟨#[0, 97, 115, 109, 1, 0, 0, 0]⟩, .int .i64 0]) ∧ Below W.heap.size W w' := fun W hW => by
    have := enc_mod (mod0 (-1)) W hW (mod0_at W (-1) ⟨by decide, by decide⟩)
    rw [show ans5 (mod0 (-1)) = ([0, 97, 115, 109, 1, 0, 0, 0], 0) by decide +kernel] at this
    exact this
  have c2 : ∀ W, Laid W → Calls Tryz.prog 12 #[.agg #[.slice none 0 0, .slice none 0 0, .slice none 0 0, .slice none 0 0, .slice none 0 0, .int .i64 (-2), .slice none 0 0]] W fun e w' => e = .returned (.tuple #[.string ⟨#[]⟩, .int .i64 1]) ∧ Below W.heap.size W w' := fun W hW => by
    have := enc_mod (mod0 (-2)) W hW (mod0_at W (-2) ⟨by decide, by decide⟩)
    rw [show ans5 (mod0 (-2)) = ([], 1) by decide +kernel] at this
    exact this
  have c3 : ∀ W, Laid W → Calls Tryz.prog 27 #[.agg #[.int .i64 65, .int .i64 (-1), .int .i64 0, .slice none 0 0]] W fun e w' => e = .returned (.tuple #[.string ⟨#[65, 127]⟩, .bool true]) ∧ Below W.heap.size W w' := fun W hW => by
    have := enc_instr ⟨65, -1, 0, none, 0, []⟩ W hW.spaces ⟨fun j hj => absurd hj (by simp), by simp, ⟨by decide, by decide⟩, ⟨by decide, by decide⟩, ⟨by decide, by decide⟩, fun n hn => by cases hn⟩
    rw [show ins5 ⟨65, -1, 0, none, 0, []⟩ = [65, 127] by decide +kernel, show rightIns ⟨65, -1, 0, none, 0, []⟩ = true by decide +kernel] at this
    exact this
  have hB0 := Below.refl w.heap.size w
  go_enter Tryz.func10, Tryz.ntmps10
  go_wp2_with (first
    | (go_at_call 12; (with_reducible refine (c1 _ hLaid).mono ?_); rintro e w1 ⟨rfl, hb1⟩; have hL1 := hLaid.below hb1)
    | (go_at_call 27; (with_reducible refine (c3 _ hL1).mono ?_); rintro e w2 ⟨rfl, hb2⟩; have hL2 := hL1.below hb2)
    | (go_at_call 12; (with_reducible refine (c2 _ hL2).mono ?_); rintro e w3 ⟨rfl, hb3⟩))
  go_ret
  exact ⟨rfl, belt (belt hb1 (Nat.le_refl _) hb2) (Nat.le_refl _) hb3⟩
end Go.Proofs.YtpamchagidnijaaGreatDoor

namespace Go.Proofs.YtpamchagidnijaaGreatDoor
open Go.RowKit
set_option linter.unusedVariables false

theorem bs_list9 (l : List UInt8) : (bs l).data.toList = l := by simp [bs]
/-- An instruction without labels has few bytes. -/
theorem ins_small {x : InsV} (h : rightIns x = true) (hl : x.ls = []) (ha : inI64 x.a) : (ins5 x).length ≤ 22 := by
  obtain ⟨op, a, b, lp, lc, ls⟩ := x
  simp only at hl
  subst hl
  have h0 : rightOf (byCode op) op a b [] = true := h
  cases hby : byCode op with
  | none => rw [hby] at h0; cases h0
  | some r =>
    have hi : ins5 ⟨op, a, b, lp, lc, []⟩ = one5 op ++ tail5 r.shape ⟨op, a, b, lp, lc, []⟩ := by
      unfold ins5; simp only [hby]; rw [h]; rfl
    rw [hi, List.length_append]
    show 1 + _ ≤ _
    rw [hby] at h0
    unfold rightOf at h0
    simp only at h0
    unfold inI64 at ha
    have hbd := byCode_bd hby
    split at h0
    · cases h0
    · split at h0
      · cases h0
      · have h8 : r.shape = 0 ∨ r.shape = 1 ∨ r.shape = 2 ∨ r.shape = 3 ∨ r.shape = 4 ∨ r.shape = 5 ∨ r.shape = 6 ∨ r.shape = 7 := by omega
        rcases h8 with h | h | h | h | h | h | h | h
        all_goals rw [h] at h0 ⊢
        all_goals simp [word] at h0
        · show 1 + 0 ≤ _; omega
        · show 1 + 1 ≤ _; omega
        · have := putU_small (n := a) (by omega) (by omega); show 1 + (putU a).length ≤ _; omega
        · have h1 := putU_small (n := a) (by omega) (by omega)
          have h2 := putU_small (n := 0) (by omega) (by omega)
          show 1 + (putU 0 ++ [] ++ putU a).length ≤ _
          rw [List.length_append, List.length_append, List.length_nil]
          omega
        · have := putU_small (n := a) (by omega) (by omega); show 1 + (putU a).length ≤ _; omega
        · have h1 := putU_small (n := a) (by omega) (by omega)
          have h2 := putU_small (n := b) (by omega) (by omega)
          show 1 + (putU a ++ putU b).length ≤ _
          rw [List.length_append]; omega
        · show 1 + 1 ≤ _; omega
        · have h7 : -9223372036854775808 ≤ a ∧ a ≤ 9223372036854775807 := ha
          have := putS_len10 h7.1 h7.2
          show 1 + (putS a).length ≤ _; omega
/-- The instructions' bytes. -/
def allB (code : List PI) : List UInt8 := (code.map insOf).flatMap ins5
theorem rightPI_ins {x : PI} (h : rightPI x = true) : rightIns (insOf x) = true ∧ inI64 x.a := by
  unfold rightPI at h
  simp only [Bool.and_eq_true, decide_eq_true_eq] at h
  exact ⟨h.1, h.2⟩
theorem all_small {code : List PI} (h : ∀ x ∈ code, rightPI x = true) : (allB code).length ≤ code.length * 22 := by
  unfold allB
  have := flat_most (f := ins5) (k := 22) (l := code.map insOf) fun y hy => by
    obtain ⟨x, hx, rfl⟩ := List.mem_map.1 hy
    exact ins_small (rightPI_ins (h x hx)).1 rfl (rightPI_ins (h x hx)).2
  simpa using this
/-- What stands ahead of a made program's code, and behind it. -/
def headB (mx i0 i1 ix : Int) : List UInt8 := [0, 97, 115, 109, 1, 0, 0, 0] ++ sect5 1 1 (ty5 ⟨⟨#[126, 127]⟩, ⟨#[126]⟩⟩) ++ sect5 3 1 (putU 0) ++ sect5 5 1 (mem5 ⟨1, mx⟩) ++ sect5 6 2 (glob5 ⟨127, true, i0⟩ ++ glob5 ⟨126, true, i1⟩) ++ sect5 7 1 (exp5 ⟨⟨#[102]⟩, 0, ix⟩) ++ []
def tailB : List UInt8 := sect5 11 1 (dat5 ⟨100, someBytes⟩)
def codeB (A : List UInt8) : List UInt8 := one5 10 ++ txt5 (putU 1 ++ txt5 (runs5 [127, 126] ++ A))
theorem made_bytes (H : Nat) (pc : Option Addr) (cc : Nat) (code : List PI) (mx i0 i1 ix : Int) : mod5 (madeV H pc cc code mx i0 i1 ix (-1)) = headB mx i0 i1 ix ++ codeB (allB code) ++ tailB := by
  have e1 : start5 (-1) = [] := if_pos rfl
  have e2 : ∀ l : List UInt8, sect5 10 1 l = one5 10 ++ txt5 (putU 1 ++ l) := fun l => if_neg (by decide)
  unfold mod5 madeV headB codeB tailB
  simp only [List.length_cons, List.length_nil, List.flatMap_cons, List.flatMap_nil, List.append_nil, e1]
  rw [show (0 + 1 : Nat) = 1 from rfl, show (1 + 1 : Nat) = 2 from rfl]
  simp only [e2]
  rfl
/-- The code's bytes stand in it. -/
theorem code_in (A : List UInt8) (hA : A.length ≤ 1000000) : ∃ P Q, codeB A = P ++ A ++ Q ∧ P.length ≤ 100 ∧ Q = [] := by
  refine ⟨one5 10 ++ putU (putU 1 ++ txt5 (runs5 [127, 126] ++ A)).length ++ putU 1 ++ putU (runs5 [127, 126] ++ A).length ++ runs5 [127, 126], [], ?_, ?_, rfl⟩
  · unfold codeB txt5
    simp only [List.append_assoc, List.append_nil]
  · have h0 : (runs5 [127, 126]).length = 5 := by decide +kernel
    have h1 : (runs5 [127, 126] ++ A).length ≤ 1000005 := by rw [List.length_append]; omega
    have h2 := putU_len10 (n := ((runs5 [127, 126] ++ A).length : Int)) (by omega) (by omega)
    have h3 : (putU 1).length = 1 := by decide +kernel
    have h4 := txt5_len (s := runs5 [127, 126] ++ A) (by omega)
    have h5 : (putU 1 ++ txt5 (runs5 [127, 126] ++ A)).length ≤ 1000100 := by rw [List.length_append]; omega
    have h6 := putU_len10 (n := ((putU 1 ++ txt5 (runs5 [127, 126] ++ A)).length : Int)) (by omega) (by omega)
    simp only [List.length_append (bs := _), one5_len] at *
    omega

theorem headB_len : (headB 2 5 (-5) 0).length ≤ 1000 := by decide +kernel
theorem tailB_len : tailB.length ≤ 100 := by decide +kernel
/-- What a made program's module has. -/
theorem made_ans {w : World} {lo H : Nat} {pc : Option Addr} {cc : Nat} {code : List PI} (h : MadeAt w lo H pc cc code 2 5 (-5) 0) :
    ∃ S P Q, S = P ++ allB code ++ Q ∧ P.length ≤ 2000 ∧ Q.length ≤ 100 ∧ (allB code).length ≤ 220000 ∧ ans5 (madeV H pc cc code 2 5 (-5) 0 (-1)) = (S, 0) := by
  have hA : (allB code).length ≤ 220000 := by
    have h1 := all_small h.right
    have h2 := h.most
    omega
  obtain ⟨P, Q, h1, h2, rfl⟩ := code_in (allB code) (by omega)
  have hm : mod5 (madeV H pc cc code 2 5 (-5) 0 (-1)) = (headB 2 5 (-5) 0 ++ P) ++ allB code ++ tailB := by
    rw [made_bytes, h1]
    simp only [List.append_assoc, List.append_nil]
  have h3 := headB_len
  have h4 := tailB_len
  refine ⟨_, _, _, hm, by rw [List.length_append]; omega, h4, hA, ?_⟩
  unfold ans5
  rw [if_pos (by rw [h.rights]; decide), if_neg]
  rw [hm]
  simp only [List.length_append]
  omega
end Go.Proofs.YtpamchagidnijaaGreatDoor

namespace Go.Proofs.YtpamchagidnijaaGreatDoor
open Go.RowKit

theorem beltB {B : Nat} {w W W' : World} (h : Below B w W) (hB : B ≤ w.heap.size) (h2 : Below W.heap.size W W') : Below B w W' := h.trans (h2.mono (Nat.le_trans hB h.size))
theorem app_below {B : Nat} {w wX w' : World} {e : TypeId} {c n : Nat} {v : Value} {xs : List Value} (hown : wX.ownsRow B e c v n xs) (hB : Below B w wX) (hs : B ≤ wX.heap.size) (hg : wX.grownBy w' v.ownBlock) : Below B w w' :=
  hB.grown hg hs fun k hk => (own_ge hown k hk).1

theorem own_pos {w : World} {lo : Nat} {t : TypeId} {c n cap : Nat} {p : Option Addr} {xs : List Value} (h : w.ownsRow lo t c (.slice p n cap) n xs) (hn : 0 < n) : ∃ g, p = some ⟨g, 0, none⟩ := by
  obtain ⟨n', rfl⟩ : ∃ n', n = n' + 1 := ⟨n - 1, by omega⟩
  rcases h.2 with ⟨_, h0⟩ | ⟨g, cp, cur, e, _⟩
  · have := h.1
    rw [h0] at this
    simp at this
    omega
  · cases e
    exact ⟨g, rfl⟩
theorem pi_cells_one (code : List PI) : ∀ u ∈ codeCells code, u.oneCell' = true := by
  intro u hu
  obtain ⟨x, _, hx⟩ := List.mem_flatMap.1 hu
  simp [PI.cells] at hx
  rcases hx with rfl | rfl | rfl | rfl <;> rfl
theorem code_len (code : List PI) : (codeCells code).length = code.length * 4 := by
  induction code with
  | nil => rfl
  | cons x l ih => show (x.cells ++ codeCells l).length = _; rw [List.length_append, ih]; simp [PI.cells]; omega
/-- A list of instructions in a block of its own, between two bounds. -/
structure Mine (w : World) (lo hi : Nat) (v : Value) (code : List PI) : Prop where
  own : w.ownsRow lo 41 4 v code.length (codeCells code)
  lt : ∀ g, v.ownBlock = some g → g < hi
  le : hi ≤ w.heap.size
theorem Mine.of {w : World} {lo : Nat} {v : Value} {code : List PI} (h : w.ownsRow lo 41 4 v code.length (codeCells code)) : Mine w lo w.heap.size v code := ⟨h, fun g hg => (own_ge h g hg).2, Nat.le_refl _⟩
theorem Mine.alloc {w : World} {lo hi : Nat} {v : Value} {code : List PI} (h : Mine w lo hi v code) (o : Obj) : Mine (w.alloc o) lo hi v code := ⟨h.own.alloc o, h.lt, by have := h.le; simp; omega⟩
theorem Mine.grow {w w' : World} {lo hi : Nat} {v : Value} {code : List PI} {r : Option Nat} (h : Mine w lo hi v code) (hg : w.grownBy w' r) (hr : ∀ g, r = some g → hi ≤ g) : Mine w' lo hi v code := by
  refine ⟨h.own.kept hg ?_, h.lt, Nat.le_trans h.le hg.size⟩
  cases hv : v.ownBlock with
  | none => exact .inl rfl
  | some b => exact .inr fun e => by have := hr b e.symm; have := h.lt b hv; omega
theorem Mine.cells {w : World} {lo hi g n cap : Nat} {code : List PI} (h : Mine w lo hi (.slice (some ⟨g, 0, none⟩) n cap) code) (hn : n = code.length) : ∀ j u, (codeCells code)[j]? = some u → w.cell? ((⟨g, 0, none⟩ : Addr).add j) = some u := by
  intro j u hj
  subst hn
  have hlt : j < code.length * 4 := by rw [← code_len]; exact (List.getElem?_eq_some_iff.1 hj).1
  rw [Go.WideShapes.add_plain, Nat.zero_add, h.own.cellAt j hlt, hj]
theorem none_own (w : World) (lo : Nat) : w.ownsRow lo 41 4 (.slice none 0 0) 0 [] := ⟨rfl, .inl ⟨rfl, rfl⟩⟩

theorem own_low {w : World} {lo lo' : Nat} {t : TypeId} {c n : Nat} {v : Value} {xs : List Value} (h : w.ownsRow lo' t c v n xs) (hl : lo ≤ lo') : w.ownsRow lo t c v n xs := by
  refine ⟨h.1, ?_⟩
  rcases h.2 with h0 | ⟨g, cap, cur, e, hb, hr⟩
  · exact .inl h0
  · exact .inr ⟨g, cap, cur, e, Nat.le_trans hl hb, hr⟩
theorem own_none {w : World} {lo : Nat} {cc : Nat} {code : List PI} (h : w.ownsRow lo 41 4 (.slice none code.length cc) code.length (codeCells code)) : code = [] ∧ cc = 0 := by
  rcases h.2 with ⟨h0, _⟩ | ⟨g, cap, cur, e, _⟩
  · injection h0 with _ h1 h2
    exact ⟨List.eq_nil_of_length_eq_zero h1, h2⟩
  · cases e
theorem own_some {w : World} {lo : Nat} {a : Addr} {n cc : Nat} {t : TypeId} {c : Nat} {xs : List Value} (h : w.ownsRow lo t c (.slice (some a) n cc) n xs) : ∃ g, a = ⟨g, 0, none⟩ := by
  rcases h.2 with ⟨h0, _⟩ | ⟨g, cap, cur, e, _⟩
  · cases h0
  · cases e; exact ⟨g, rfl⟩

/-- An append of rows to a list in a block of its own, in a region that draws its order. -/
theorem step_code {P : Program} {ops : Array Oper} {o : Oper} {a : Act} {w : World} {K : Act → World → Prop} {Q : Exit → Act → World → Prop} {E : Prop}
    (hg : o.guard = none) (s x : Operand) (t : TypeId) (hop : o.op = Op.call { callee := Callee.builtin Builtin.append, args := #[s, x], argTypes := #[t, t] })
    (base : Nat) (e : TypeId) (i : TypeInfo) (z : Value) (size bytes : Nat) (ht : P.underlying t = some (.slice e)) (hi : P.info? e = some i) (hz : i.zero = some z)
    (hsize : i.size = size) (hby : i.bytes = bytes) (hzs : z.cells.size = size) (hsz : 0 < size)
    (v : Value) (n : Nat) (xs : List Value) (hs : a.eval s = v) (hown : w.ownsRow base e size v n xs)
    (ad : Addr) (m c : Nat) (news : List Value) (hx : a.eval x = .slice (some ad) m c) (hl : news.length = m * size) (hnews : ∀ j u, news[j]? = some u → w.cell? (ad.add j) = some u) (h1 : ∀ u ∈ news, u.oneCell' = true)
    (h63 : n + m ≤ maxLen) (hbytes : (n + m) * bytes ≤ 140737488355328) (hbase : base ≤ w.heap.size)
    (hK : ∀ v' w', w'.ownsRow base e size v' (n + m) (xs ++ news) → w.grownBy w' v.ownBlock → K (a.put o.dst v') w') :
    if Region.wanted o (yielded ops a.tmps) = true then Oper.wp P o a w K Q else E := by
  have hw : Region.wanted o (yielded ops a.tmps) = true := by simp [Region.wanted, hg]
  rw [if_pos hw]
  obtain ⟨v', w', hr, h2, h3, h4, h5⟩ := run_append_own_at (P := P) w base t o.type e i z size bytes ht hi hz hsize hby hzs hsz v n xs hown ad m c news hl hnews h1 h63 hbytes hbase
  unfold Oper.wp execOp
  simp only [hop, resolve, invoke, builtin, Sem.run_bind, Sem.run_pure, Result.andThen_ok, List.map_toArray, List.map_cons, List.map_nil, hs, hx, hr]
  exact hK v' w' h2 h3
end Go.Proofs.YtpamchagidnijaaGreatDoor

namespace Go.Proofs.YtpamchagidnijaaGreatDoor
open Go.RowKit

/-- An instruction that does nothing stands anywhere ahead of the last one. -/
theorem runs_nop (b : List Int) (hb : b ≠ []) : ∀ (a st : List Int), runs (a ++ 1 :: b) st = runs (a ++ b) st
  | [], st => runs_other (by omega)
  | op :: a, st => by
    have ih := runs_nop b hb a
    show runs (op :: (a ++ 1 :: b)) st = runs (op :: (a ++ b)) st
    by_cases h1 : op = 2 ∨ op = 3 ∨ op = 4
    · rw [runs_open h1, runs_open h1, ih]
    · by_cases h2 : op = 5
      · subst h2
        cases st with
        | nil => rw [runs_else_none, runs_else_none]
        | cons t st => rw [runs_else, runs_else, ih]
      · by_cases h3 : op = 11
        · subst h3
          cases st with
          | nil => rw [runs_end_none, runs_end_none]; cases a <;> cases b <;> first | rfl | exact absurd rfl hb
          | cons t st => rw [runs_end, runs_end, ih]
        · rw [runs_other (by omega), runs_other (by omega), ih]

theorem putU_mono {a b : Int} (h0 : 0 ≤ a) (h : a ≤ b) : (putU a).length ≤ (putU b).length := by
  obtain ⟨k, hk⟩ : ∃ k, (putU b).length = k + 1 := ⟨(putU b).length - 1, by have := List.length_pos_iff.2 (putU_ne b); omega⟩
  have hb := (putU_len b (by omega) k).1 (by omega)
  rw [hk]
  exact (putU_len a h0 k).2 (by omega)
theorem txt5_more {s t : List UInt8} (h : s.length < t.length) : (txt5 s).length < (txt5 t).length := by
  unfold txt5
  rw [List.length_append, List.length_append]
  have := putU_mono (a := (s.length : Int)) (b := (t.length : Int)) (by omega) (by omega)
  omega
theorem txt5_size {s t : List UInt8} (h : (txt5 s).length = (txt5 t).length) : s.length = t.length := by
  rcases Nat.lt_trichotomy s.length t.length with h1 | h1 | h1
  · have := txt5_more h1; omega
  · exact h1
  · have := txt5_more h1; omega
theorem txt5_same {s t : List UInt8} (h : txt5 s = txt5 t) : s = t := by
  have hl := txt5_size (congrArg List.length h)
  unfold txt5 at h
  rw [hl] at h
  exact List.append_cancel_left h
theorem codeB_more {A B : List UInt8} (h : A.length < B.length) : (codeB A).length < (codeB B).length := by
  unfold codeB
  have h1 : (txt5 (runs5 [127, 126] ++ A)).length < (txt5 (runs5 [127, 126] ++ B)).length := txt5_more (by rw [List.length_append, List.length_append]; omega)
  have h2 : (txt5 (putU 1 ++ txt5 (runs5 [127, 126] ++ A))).length < (txt5 (putU 1 ++ txt5 (runs5 [127, 126] ++ B))).length := txt5_more (by rw [List.length_append, List.length_append]; omega)
  rw [List.length_append, List.length_append, one5_len]
  omega

/-- The code with an instruction more. -/
def nopAt (code : List PI) (k : Nat) : List PI := code.take k ++ (⟨1, 0, 0⟩ : PI) :: code.drop k
theorem nopAt_len (code : List PI) (k : Nat) : (nopAt code k).length = code.length + 1 := by
  unfold nopAt
  rw [List.length_append, List.length_cons]
  have := congrArg List.length (List.take_append_drop k code)
  rw [List.length_append] at this
  omega
theorem nopAt_right {code : List PI} (k : Nat) (h : ∀ x ∈ code, rightPI x = true) : ∀ x ∈ nopAt code k, rightPI x = true := by
  intro x hx
  rcases List.mem_append.1 hx with h1 | h1
  · exact h x (List.mem_of_mem_take h1)
  · rcases List.mem_cons.1 h1 with rfl | h1
    · decide
    · exact h x (List.mem_of_mem_drop h1)
theorem nopAt_runs {code : List PI} {k : Nat} (hk : k < code.length) (h : runs (code.map PI.op) [] = true) : runs ((nopAt code k).map PI.op) [] = true := by
  unfold nopAt
  rw [List.map_append, List.map_cons, runs_nop _ (by
    intro e
    have := congrArg List.length e
    simp at this
    omega), ← List.map_append, List.take_append_drop]
  exact h
theorem nop_ins : (ins5 (insOf ⟨1, 0, 0⟩)).length = 1 := by decide +kernel
theorem nopAt_bytes (code : List PI) (k : Nat) : (allB code).length < (allB (nopAt code k)).length := by
  have h : allB code = (code.take k).flatMap (fun x => ins5 (insOf x)) ++ (code.drop k).flatMap (fun x => ins5 (insOf x)) := by
    rw [← List.flatMap_append, List.take_append_drop]
    unfold allB
    rw [List.flatMap_map]
  have h2 : allB (nopAt code k) = (code.take k).flatMap (fun x => ins5 (insOf x)) ++ (ins5 (insOf ⟨1, 0, 0⟩) ++ (code.drop k).flatMap (fun x => ins5 (insOf x))) := by
    unfold allB nopAt
    rw [List.flatMap_map, List.flatMap_append, List.flatMap_cons]
  rw [h, h2]
  simp only [List.length_append, nop_ins]
  omega

/-- A made program's module with another name. -/
def apV (H : Nat) (pc : Option Addr) (cc : Nat) (code : List PI) (nm : ByteArray) : MoV :=
  ⟨some ⟨H, 0, none⟩, 1, [⟨⟨#[126, 127]⟩, ⟨#[126]⟩⟩], some ⟨H + 1, 0, none⟩, 1, [madeF pc cc code], some ⟨H + 2, 0, none⟩, 1, [⟨1, 2⟩], some ⟨H + 3, 0, none⟩, 2, [⟨127, true, 5⟩, ⟨126, true, -5⟩], some ⟨H + 4, 0, none⟩, 1, [⟨nm, 0, 0⟩], -1, some ⟨H + 5, 0, none⟩, 1, [⟨100, someBytes⟩]⟩
def noData (m : MoV) : MoV := { m with dp := none, dc := 0, data := [] }
def fName : ByteArray := ⟨#[102]⟩
theorem apV_made (H : Nat) (pc : Option Addr) (cc : Nat) (code : List PI) : apV H pc cc code fName = madeV H pc cc code 2 5 (-5) 0 (-1) := rfl
theorem ap_fnRight {pc : Option Addr} {cc : Nat} {code : List PI} (hr : ∀ x ∈ code, rightPI x = true) (hu : runs (code.map PI.op) [] = true) : rightFn (madeF pc cc code) = true := by
  unfold rightFn
  have h1 : (madeF pc cc code).code.all rightIns = true := by
    refine List.all_eq_true.2 fun x hx => ?_
    obtain ⟨y, hy, rfl⟩ := List.mem_map.1 hx
    have := hr y hy
    unfold rightPI at this
    simp only [Bool.and_eq_true] at this
    exact this.1
  have h2 : opsOf (madeF pc cc code).code = code.map PI.op := by simp [opsOf, madeF, insOf]
  rw [h1, h2, hu]
  show (true && (word4 0 && vtypes [127, 126] 4096 && true)) = true
  decide
theorem ap_right {H : Nat} {pc : Option Addr} {cc : Nat} {code : List PI} (nm : ByteArray) (hr : ∀ x ∈ code, rightPI x = true) (hu : runs (code.map PI.op) [] = true) : rightMod (apV H pc cc code nm) = isName nm.data.toList ∧ rightMod (noData (apV H pc cc code nm)) = isName nm.data.toList := by
  have hf := ap_fnRight (pc := pc) (cc := cc) hr hu
  have a1 : fewMod (apV H pc cc code nm) := by refine ⟨?_, ?_, ?_, ?_, ?_, ?_, .inl rfl⟩ <;> (show _ ≤ 4096; simp [apV])
  have a2 : fewMod (noData (apV H pc cc code nm)) := by refine ⟨?_, ?_, ?_, ?_, ?_, ?_, .inl rfl⟩ <;> (show _ ≤ 4096; simp [apV, noData])
  have e2 : (apV H pc cc code nm).types.all rightTy = true := by show List.all [_] _ = _; decide
  have e3 : (apV H pc cc code nm).funcs.all rightFn = true := by show List.all [madeF pc cc code] _ = _; simp [hf]
  have e4 : (apV H pc cc code nm).memory.all rightMem = true := by show List.all [(⟨1, 2⟩ : MemV)] _ = _; decide
  have e5 : (apV H pc cc code nm).globals.all rightGlob = true := by show List.all [(⟨127, true, 5⟩ : GlobV), ⟨126, true, -5⟩] _ = _; decide
  have e6 : (apV H pc cc code nm).exports.all rightExp = isName nm.data.toList := by
    show List.all [(⟨nm, 0, 0⟩ : ExpV)] _ = _
    simp [rightExp, show word4 0 = true by decide]
  have e7 : (apV H pc cc code nm).data.all rightDat = true := by show List.all [(⟨100, someBytes⟩ : DatV)] _ = _; decide
  constructor
  · unfold rightMod
    rw [decide_eq_true a1, e2, e3, e4, e5, e6, e7]
    simp
  · unfold rightMod
    rw [decide_eq_true a2]
    show (true && ((apV H pc cc code nm).types.all rightTy && ((apV H pc cc code nm).funcs.all rightFn && ((apV H pc cc code nm).memory.all rightMem && ((apV H pc cc code nm).globals.all rightGlob && ((apV H pc cc code nm).exports.all rightExp && true)))))) = _
    rw [e2, e3, e4, e5, e6]
    simp
/-- Its bytes. -/
def headN (nm : ByteArray) : List UInt8 := ([0, 97, 115, 109, 1, 0, 0, 0] ++ sect5 1 1 (ty5 ⟨⟨#[126, 127]⟩, ⟨#[126]⟩⟩) ++ sect5 3 1 (putU 0) ++ sect5 5 1 (mem5 ⟨1, 2⟩) ++ sect5 6 2 (glob5 ⟨127, true, 5⟩ ++ glob5 ⟨126, true, -5⟩)) ++ sect5 7 1 (exp5 ⟨nm, 0, 0⟩)
theorem ap_bytes (H : Nat) (pc : Option Addr) (cc : Nat) (code : List PI) (nm : ByteArray) : mod5 (apV H pc cc code nm) = headN nm ++ codeB (allB code) ++ tailB ∧ mod5 (noData (apV H pc cc code nm)) = headN nm ++ codeB (allB code) := by
  have e1 : start5 (-1) = [] := if_pos rfl
  have e2 : ∀ l : List UInt8, sect5 10 1 l = one5 10 ++ txt5 (putU 1 ++ l) := fun l => if_neg (by decide)
  have e3 : ∀ l : List UInt8, sect5 11 0 l = [] := fun l => if_pos rfl
  constructor
  · unfold mod5 apV headN codeB tailB
    simp only [List.length_cons, List.length_nil, List.flatMap_cons, List.flatMap_nil, List.append_nil, e1]
    rw [show (0 + 1 : Nat) = 1 from rfl, show (1 + 1 : Nat) = 2 from rfl]
    simp only [e2]
    rfl
  · unfold mod5 noData apV headN codeB
    simp only [List.length_cons, List.length_nil, List.flatMap_cons, List.flatMap_nil, List.append_nil, e1, e3]
    rw [show (0 + 1 : Nat) = 1 from rfl, show (1 + 1 : Nat) = 2 from rfl]
    simp only [e2]
    rfl
theorem tailB_some : 0 < tailB.length := by decide +kernel
theorem headN_f : (headN fName).length ≤ 1000 := by decide +kernel
/-- The same bytes, the same name. -/
theorem name_same {nm : ByteArray} {A T : List UInt8} (h : headN nm ++ A ++ T = headN fName ++ A ++ T) : nm = fName := by
  have h1 := List.append_cancel_right (List.append_cancel_right h)
  unfold headN at h1
  have h2 := List.append_cancel_left h1
  have e2 : ∀ l : List UInt8, sect5 7 1 l = one5 7 ++ txt5 (putU 1 ++ l) := fun l => if_neg (by decide)
  rw [e2, e2] at h2
  have h3 := List.append_cancel_left (txt5_same (List.append_cancel_left h2))
  unfold exp5 at h3
  have h4 := txt5_same (List.append_cancel_right (List.append_cancel_right h3))
  apply ByteArray.ext
  exact Array.toList_inj.1 h4
/-- What all four have. -/
theorem ap_small {code : List PI} (hr : ∀ x ∈ code, rightPI x = true) (hm : code.length ≤ 10001) : (codeB (allB code)).length ≤ 221000 := by
  have h1 := all_small hr
  obtain ⟨P, Q, h2, h3, rfl⟩ := code_in (allB code) (by omega)
  rw [h2]
  simp only [List.length_append, List.length_nil]
  omega
theorem ap_ans {H : Nat} {pc : Option Addr} {cc : Nat} {code : List PI} (hr : ∀ x ∈ code, rightPI x = true) (hu : runs (code.map PI.op) [] = true) (hm : code.length ≤ 10001) :
    ans5 (apV H pc cc code fName) = (headN fName ++ codeB (allB code) ++ tailB, 0) ∧ ans5 (noData (apV H pc cc code fName)) = (headN fName ++ codeB (allB code), 0) := by
  have h1 := ap_small hr hm
  have h2 := headN_f
  have h3 := tailB_len
  have hf : isName fName.data.toList = true := by decide
  constructor
  · unfold ans5
    rw [if_pos ((ap_right fName hr hu).1.trans hf), if_neg]
    · rw [(ap_bytes H pc cc code fName).1]
    · rw [(ap_bytes H pc cc code fName).1]; simp only [List.length_append]; omega
  · unfold ans5
    rw [if_pos ((ap_right fName hr hu).2.trans hf), if_neg]
    · rw [(ap_bytes H pc cc code fName).2]
    · rw [(ap_bytes H pc cc code fName).2]; simp only [List.length_append]; omega
theorem ap_other {H : Nat} {pc : Option Addr} {cc : Nat} {code : List PI} (nm : ByteArray) : (ans5 (apV H pc cc code nm)).2 = 0 ∧ (ans5 (apV H pc cc code nm)).1 = headN nm ++ codeB (allB code) ++ tailB ∨ ((ans5 (apV H pc cc code nm)).2 = 1 ∨ (ans5 (apV H pc cc code nm)).2 = 5) := by
  unfold ans5
  split
  · split
    · exact .inr (.inr rfl)
    · exact .inl ⟨rfl, (ap_bytes H pc cc code nm).1⟩
  · exact .inr (.inl rfl)

/-- Where it lies, when its code and its name are other ones. -/
theorem ap_modAt {w : World} {H : Nat} {pc : Option Addr} {cc : Nat} {code : List PI} {nm : ByteArray} (h0 : w.heap[H]? = some (.cells #[.string ⟨#[126, 127]⟩, .string ⟨#[126]⟩] 86)) (h1 : w.heap[H + 1]? = some (.cells #[.int .i64 0, .string ⟨#[127, 126]⟩, .slice pc code.length cc] 38)) (h2 : w.heap[H + 2]? = some (.cells #[.int .i64 1, .int .i64 2] 88)) (h3 : w.heap[H + 3]? = some (.cells #[.int .i64 127, .bool true, .int .i64 5, .int .i64 126, .bool true, .int .i64 (-5)] 90)) (h4 : w.heap[H + 4]? = some (.cells #[.string nm, .int .i64 0, .int .i64 0] 43)) (h5 : w.heap[H + 5]? = some (.cells #[.int .i64 100, .string someBytes] 92))
    (hc : CodeAt w pc (code.map insOf)) (hn : nm.size ≤ maxLen) : ModAt w (apV H pc cc code nm) where
  types := rows_block h0 rfl (fun x _ => rfl)
  typesIn := by intro t ht; rw [List.mem_singleton.1 ht]; exact ⟨by decide, by decide⟩
  typesMost := by show 1 ≤ mostThings; decide
  funcs := rows_block h1 (by simp [apV, madeF, FnV.row]) (fun x _ => rfl)
  funcsIn := by intro f hf; rw [List.mem_singleton.1 hf]; exact ⟨hc, (by show 2 ≤ maxLen; decide), (by show inI64 0; decide)⟩
  funcsMost := by show 1 ≤ mostThings; decide
  memory := rows_block h2 rfl (fun x _ => rfl)
  memoryIn := by intro t ht; rw [List.mem_singleton.1 ht]; exact ⟨(by show inI64 1; decide), (by show inI64 2; decide)⟩
  memoryMost := by show 1 ≤ mostThings; decide
  globals := rows_block h3 rfl (fun x _ => rfl)
  globalsIn := by
    intro t ht
    rcases List.mem_cons.1 ht with rfl | ht
    · exact ⟨(by show inI64 127; decide), (by show inI64 5; decide)⟩
    · rw [List.mem_singleton.1 ht]; exact ⟨(by show inI64 126; decide), (by show inI64 (-5); decide)⟩
  globalsMost := by show 2 ≤ mostThings; decide
  exports := rows_block h4 rfl (fun x _ => rfl)
  exportsIn := by intro t ht; rw [List.mem_singleton.1 ht]; exact ⟨hn, (by show inI64 0; decide), (by show inI64 0; decide)⟩
  exportsMost := by show 1 ≤ mostThings; decide
  startIn := (by show inI64 (-1); decide)
  data := rows_block h5 rfl (fun x _ => rfl)
  dataIn := by intro t ht; rw [List.mem_singleton.1 ht]; exact ⟨(by show inI64 100; decide), (by show 10 ≤ maxLen; decide)⟩
  dataMost := by show 1 ≤ mostThings; decide
theorem noData_modAt {w : World} {m : MoV} (h : ModAt w m) : ModAt w (noData m) :=
  { h with data := fun j hj => absurd hj (by simp [noData]), dataIn := fun t ht => (by cases ht), dataMost := (by show 0 ≤ mostThings; decide) }
/-! What the stores make. -/
theorem code_own {w : World} {lo n cc : Nat} {pc : Option Addr} {code : List PI} (h : w.ownsRow lo 41 4 (.slice pc n cc) n (codeCells code)) (hn : code.length = n) (hr : ∀ x ∈ code, rightPI x = true) (hm : code.length ≤ 10001) : CodeAt w pc (code.map insOf) := by
  refine ⟨rows_own (n := n) (by rw [code_cells]; exact h) (by simp [hn]) (fun x _ => rfl), fun x hx => ?_, by simp; omega⟩
  obtain ⟨y, hy, rfl⟩ := List.mem_map.1 hx
  exact MadeAt.insAt (hr y hy)
theorem set_cells {w : World} {b j : Nat} {cs : Array Value} {t : TypeId} (v : Value) (h : w.heap[b]? = some (.cells cs t)) : (w.setCell ⟨b, j, none⟩ v).heap[b]? = some (.cells (cs.setIfInBounds j v) t) := by
  simp [World.setCell, Array.getElem?_modify, h]
theorem cells_split (L : List PI) (k : Nat) : codeCells L = codeCells (L.take k) ++ codeCells (L.drop k) := by
  unfold codeCells
  rw [← List.flatMap_append, List.take_append_drop]
theorem take_len {L : List PI} {n k : Nat} (hn : L.length = n) (hk : k ≤ n) : (codeCells (L.take k)).length = k * 4 := by
  rw [code_len, List.length_take, hn, Nat.min_eq_left hk]
theorem drop_len {L : List PI} {n k : Nat} (hn : L.length = n) : (codeCells (L.drop k)).length = (n - k) * 4 := by
  rw [code_len, List.length_drop, hn]
theorem take_cells {Y : World} {lo g n cap k : Nat} {L : List PI} (ho : Y.ownsRow lo 41 4 (.slice (some ⟨g, 0, none⟩) n cap) n (codeCells L)) (hn : L.length = n) (hk : k ≤ n) : ∀ j u, (codeCells (L.take k))[j]? = some u → Y.cell? ((⟨g, 0, none⟩ : Addr).add j) = some u := by
  intro j u hj
  have hl := take_len hn hk
  have hjl : j < k * 4 := by rw [← hl]; exact (List.getElem?_eq_some_iff.1 hj).1
  rw [Go.WideShapes.add_plain, Nat.zero_add, ho.cellAt j (by omega), cells_split L k, List.getElem?_append_left (by omega)]
  exact hj
theorem drop_cells {Y : World} {lo g n cap k : Nat} {L : List PI} (ho : Y.ownsRow lo 41 4 (.slice (some ⟨g, 0, none⟩) n cap) n (codeCells L)) (hn : L.length = n) (hk : k ≤ n) : ∀ j u, (codeCells (L.drop k))[j]? = some u → Y.cell? ((⟨g, k * 4, none⟩ : Addr).add j) = some u := by
  intro j u hj
  have hl := take_len hn hk
  have hd := drop_len (k := k) hn
  have hjl : j < (n - k) * 4 := by rw [← hd]; exact (List.getElem?_eq_some_iff.1 hj).1
  rw [Go.WideShapes.add_plain, ho.cellAt (k * 4 + j) (by omega), cells_split L k, List.getElem?_append_right (by omega), hl, show k * 4 + j - k * 4 = j by omega]
  exact hj
theorem nop_cells (L : List PI) (k : Nat) : codeCells (L.take k) ++ PI.cells ⟨1, 0, 0⟩ ++ codeCells (L.drop k) = codeCells (nopAt L k) := by
  unfold nopAt codeCells
  simp
theorem nop_modAt {Y : World} {lo base H g n kc c2 : Nat} {p2 : Option Addr} {L N : List PI} (hM : MadeAt Y lo H p2 c2 L 2 5 (-5) 0) (ho : Y.ownsRow base 41 4 (.slice (some ⟨g, 0, none⟩) n kc) n (codeCells N)) (hn : N.length = n) (hb : H + 6 ≤ base) (hr : ∀ x ∈ N, rightPI x = true) (hm : N.length ≤ 10001) :
    ModAt (Y.setCell ⟨H + 1, 2, none⟩ (.slice (some ⟨g, 0, none⟩) n kc)) (apV H (some ⟨g, 0, none⟩) kc N fName) := by
  have hg : base ≤ g := (own_ge ho g rfl).1
  have k : ∀ i, i ≠ 1 → (Y.setCell ⟨H + 1, 2, none⟩ (.slice (some ⟨g, 0, none⟩) n kc)).heap[H + i]? = Y.heap[H + i]? := fun i hi => Below.heap_setCell _ _ _ _ (by show H + i ≠ H + 1; omega)
  subst hn
  exact ap_modAt ((k 0 (by omega)).trans hM.types) (set_cells _ hM.funcs) ((k 2 (by omega)).trans hM.memory) ((k 3 (by omega)).trans hM.globals) ((k 4 (by omega)).trans hM.exports) ((k 5 (by omega)).trans hM.data)
    (code_own (ho.kept (cell_grown _ _ _ _) (.inr (fun e => absurd (show g = H + 1 by simpa [Value.ownBlock] using e) (by omega)))) rfl hr hm) (by decide)
theorem name_modAt {Y : World} {lo H c2 : Nat} {p2 : Option Addr} {L : List PI} {nm : ByteArray} (hM : MadeAt Y lo H p2 c2 L 2 5 (-5) 0) (hnm : nm.size ≤ maxLen) :
    ModAt (Y.setCell ⟨H + 4, 0, none⟩ (.string nm)) (apV H p2 c2 L nm) := by
  have k : ∀ i, i ≠ 4 → (Y.setCell ⟨H + 4, 0, none⟩ (.string nm)).heap[H + i]? = Y.heap[H + i]? := fun i hi => Below.heap_setCell _ _ _ _ (by show H + i ≠ H + 4; omega)
  exact ap_modAt ((k 0 (by omega)).trans hM.types) ((k 1 (by omega)).trans hM.funcs) ((k 2 (by omega)).trans hM.memory) ((k 3 (by omega)).trans hM.globals) (set_cells _ hM.exports) ((k 5 (by omega)).trans hM.data)
    (code_own (hM.owned.kept (cell_grown _ _ _ _) (by
      cases hv : (Value.slice p2 L.length c2).ownBlock with
      | none => exact .inl rfl
      | some b => exact .inr fun e => absurd (show b = H + 4 by simpa using e) (by have := hM.ahead b hv; omega))) rfl hM.right (by have := hM.most; omega)) hnm
theorem reads_seven {w : World} {B : Nat} {u0 u1 u2 u3 u4 u5 u6 : Value} {t : TypeId} (h : w.heap[B]? = some (.cells #[u0, u1, u2, u3, u4, u5, u6] t)) :
    w.cell? ⟨B, 0, none⟩ = some u0 ∧ w.cell? ⟨B, 1, none⟩ = some u1 ∧ w.cell? ⟨B, 2, none⟩ = some u2 ∧ w.cell? ⟨B, 3, none⟩ = some u3 ∧ w.cell? ⟨B, 4, none⟩ = some u4 ∧ w.cell? ⟨B, 5, none⟩ = some u5 ∧ w.cell? ⟨B, 6, none⟩ = some u6 ∧
    w.frozen? ⟨B, 0, none⟩ = false ∧ w.frozen? ⟨B, 1, none⟩ = false ∧ w.frozen? ⟨B, 2, none⟩ = false ∧ w.frozen? ⟨B, 3, none⟩ = false ∧ w.frozen? ⟨B, 4, none⟩ = false ∧ w.frozen? ⟨B, 5, none⟩ = false ∧ w.frozen? ⟨B, 6, none⟩ = false := by
  have c : ∀ j, w.cell? ⟨B, j, none⟩ = (#[u0, u1, u2, u3, u4, u5, u6] : Array Value)[j]? := fun j => by rw [World.cell?, h]; rfl
  have f : ∀ j, w.frozen? ⟨B, j, none⟩ = false := fun j => by simp [World.frozen?, h]
  exact ⟨c 0, c 1, c 2, c 3, c 4, c 5, c 6, f 0, f 1, f 2, f 3, f 4, f 5, f 6⟩
theorem grown_tt {a b c : World} {r : Option Nat} (h : a.grownBy b r) (k : b.grownBy c r) : a.grownBy c r := ⟨k.os.trans h.os, k.tape.trans h.tape, k.output.trans h.output, Nat.le_trans h.size k.size, fun i hi hr => (k.block i (Nat.lt_of_lt_of_le hi h.size) hr).trans (h.block i hi hr)⟩
theorem store_seven {w : World} {B : Nat} {u0 u1 u2 u3 u4 u5 u6 : Value} (v0 v1 v2 v3 v4 v5 v6 : Value) {t : TypeId} (h : w.heap[B]? = some (.cells #[u0, u1, u2, u3, u4, u5, u6] t)) :
    (((((((w.setCell ⟨B, 0, none⟩ v0).setCell ⟨B, 1, none⟩ v1).setCell ⟨B, 2, none⟩ v2).setCell ⟨B, 3, none⟩ v3).setCell ⟨B, 4, none⟩ v4).setCell ⟨B, 5, none⟩ v5).setCell ⟨B, 6, none⟩ v6).heap[B]? = some (.cells #[v0, v1, v2, v3, v4, v5, v6] t) ∧
    w.grownBy (((((((w.setCell ⟨B, 0, none⟩ v0).setCell ⟨B, 1, none⟩ v1).setCell ⟨B, 2, none⟩ v2).setCell ⟨B, 3, none⟩ v3).setCell ⟨B, 4, none⟩ v4).setCell ⟨B, 5, none⟩ v5).setCell ⟨B, 6, none⟩ v6) (some B) := by
  have s : ∀ (w : World) (j : Nat) (cs : Array Value) (v : Value), w.heap[B]? = some (.cells cs t) → (w.setCell ⟨B, j, none⟩ v).heap[B]? = some (.cells (cs.setIfInBounds j v) t) := fun w j cs v h => by
    simp [World.setCell, Array.getElem?_modify, h]
  have h0 := s _ 0 #[u0, u1, u2, u3, u4, u5, u6] v0 h
  rw [show (#[u0, u1, u2, u3, u4, u5, u6] : Array Value).setIfInBounds 0 v0 = #[v0, u1, u2, u3, u4, u5, u6] from rfl] at h0
  have h1 := s _ 1 #[v0, u1, u2, u3, u4, u5, u6] v1 h0
  rw [show (#[v0, u1, u2, u3, u4, u5, u6] : Array Value).setIfInBounds 1 v1 = #[v0, v1, u2, u3, u4, u5, u6] from rfl] at h1
  have h2 := s _ 2 #[v0, v1, u2, u3, u4, u5, u6] v2 h1
  rw [show (#[v0, v1, u2, u3, u4, u5, u6] : Array Value).setIfInBounds 2 v2 = #[v0, v1, v2, u3, u4, u5, u6] from rfl] at h2
  have h3 := s _ 3 #[v0, v1, v2, u3, u4, u5, u6] v3 h2
  rw [show (#[v0, v1, v2, u3, u4, u5, u6] : Array Value).setIfInBounds 3 v3 = #[v0, v1, v2, v3, u4, u5, u6] from rfl] at h3
  have h4 := s _ 4 #[v0, v1, v2, v3, u4, u5, u6] v4 h3
  rw [show (#[v0, v1, v2, v3, u4, u5, u6] : Array Value).setIfInBounds 4 v4 = #[v0, v1, v2, v3, v4, u5, u6] from rfl] at h4
  have h5 := s _ 5 #[v0, v1, v2, v3, v4, u5, u6] v5 h4
  rw [show (#[v0, v1, v2, v3, v4, u5, u6] : Array Value).setIfInBounds 5 v5 = #[v0, v1, v2, v3, v4, v5, u6] from rfl] at h5
  have h6 := s _ 6 #[v0, v1, v2, v3, v4, v5, u6] v6 h5
  rw [show (#[v0, v1, v2, v3, v4, v5, u6] : Array Value).setIfInBounds 6 v6 = #[v0, v1, v2, v3, v4, v5, v6] from rfl] at h6
  exact ⟨h6, grown_tt (grown_tt (grown_tt (grown_tt (grown_tt (grown_tt (cell_grown _ _ _ _) (cell_grown _ _ _ _)) (cell_grown _ _ _ _)) (cell_grown _ _ _ _)) (cell_grown _ _ _ _)) (cell_grown _ _ _ _)) (cell_grown _ _ _ _)⟩
theorem apV_val (H : Nat) (pc : Option Addr) (cc : Nat) (code : List PI) (nm : ByteArray) : (apV H pc cc code nm).val = .agg #[.slice (some ⟨H, 0, none⟩) 1 1, .slice (some ⟨H + 1, 0, none⟩) 1 1, .slice (some ⟨H + 2, 0, none⟩) 1 1, .slice (some ⟨H + 3, 0, none⟩) 2 2, .slice (some ⟨H + 4, 0, none⟩) 1 1, .int .i64 (-1), .slice (some ⟨H + 5, 0, none⟩) 1 1] := rfl
theorem noData_val (H : Nat) (pc : Option Addr) (cc : Nat) (code : List PI) (nm : ByteArray) : (noData (apV H pc cc code nm)).val = .agg #[.slice (some ⟨H, 0, none⟩) 1 1, .slice (some ⟨H + 1, 0, none⟩) 1 1, .slice (some ⟨H + 2, 0, none⟩) 1 1, .slice (some ⟨H + 3, 0, none⟩) 2 2, .slice (some ⟨H + 4, 0, none⟩) 1 1, .int .i64 (-1), .slice none 0 0] := rfl
end Go.Proofs.YtpamchagidnijaaGreatDoor
