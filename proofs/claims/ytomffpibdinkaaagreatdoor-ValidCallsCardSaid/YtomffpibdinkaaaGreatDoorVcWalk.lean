/-
  A call takes the callee's params, the last one first, and puts its results; with one less, or of another type, it is not valid, nor of a function that is not there: walked. A contract that the proofs call.
-/
import Derived.Test.YtomffpibdinkaaaGreatDoorValHead
import Derived.Test.YtomffpibdinkaaaGreatDoorVcProg
import Derived.Test.YtomffpibdinkaaaGreatDoorVcOpen
namespace Go.Proofs.YtomffpibdinkaaaGreatDoor
open Go.RowKit Go.Maps
set_option linter.unusedVariables false
set_option linter.unusedSimpArgs false

/-- Params' types as a text. -/
def pb (bs : List Bool) : ByteArray := ⟨(bs.map bt).toArray⟩
theorem pb_list (bs : List Bool) : (pb bs).data.toList = bs.map bt := rfl
theorem pb_size (bs : List Bool) : (pb bs).size = bs.length := by show ((bs.map bt).toArray).size = _; simp
theorem pb_snoc (bs : List Bool) (b : Bool) : pb (bs ++ [b]) = pb bs ++ (⟨#[bt b]⟩ : ByteArray) := by
  have e : (pb (bs ++ [b])).data = (pb bs ++ (⟨#[bt b]⟩ : ByteArray)).data := by
    rw [ByteArray.data_append]
    simp [pb]
  cases h1 : pb (bs ++ [b]); cases h2 : pb bs ++ (⟨#[bt b]⟩ : ByteArray)
  rw [h1, h2] at e
  exact congrArg _ e
theorem pb_right (bs : List Bool) (h : bs.length ≤ 8) : vtypes (pb bs).data.toList 4096 = true := by
  rw [pb_list]
  unfold vtypes
  rw [Bool.and_eq_true]
  refine ⟨List.all_eq_true.2 fun x hx => ?_, decide_eq_true (by simp; omega)⟩
  obtain ⟨b, _, rfl⟩ := List.mem_map.1 hx
  cases b <;> decide
theorem cells_new2 (w : World) (o : Obj) (c : List Value) (t : TypeId) : ∀ j u, c[j]? = some u → ((w.alloc o).alloc (.cells c.toArray t)).cell? ((⟨w.heap.size + 1, 0, none⟩ : Addr).add j) = some u := by
  intro j u h
  have := cells_new (w.alloc o) c t j u h
  rw [push_size7] at this
  exact this
theorem codeCells_snoc1 (c : List PI) (x : PI) : codeCells (c ++ [x]) = codeCells c ++ x.cells := codeCells_snoc _ _
theorem take_snoc1 {α : Type} (l : List α) (i : Nat) (h : i < l.length) : l.take (i + 1) = l.take i ++ [l[i]] := by rw [List.take_add_one, List.getElem?_eq_getElem h]; rfl
/-- A list, out of its cells. -/
theorem rows_cells {α : Type} {w : World} {g o c : Nat} {row : α → List Value} {l : List α} (hg : g < w.heap.size) (h : ∀ j u, (l.flatMap row)[j]? = some u → w.cell? ⟨g, o + j, none⟩ = some u) (hc : ∀ x ∈ l, (row x).length = c) : RowsAt w (some ⟨g, o, none⟩) c row l := by
  intro j hj i v hv
  have hi : i < c := by
    have := hc l[j] (List.getElem_mem hj)
    have h2 := (List.getElem?_eq_some_iff.1 hv).1
    omega
  exact ⟨g, o, rfl, hg, by rw [Nat.add_assoc]; exact h _ _ ((flat_at i hi l hc j hj).trans hv)⟩
theorem bk_in (bs : List Bool) (n : Int) (hn : n = 1 ∨ n = 2) : ∀ x ∈ bs.map bk ++ callE n, inI64 x.op ∧ inI64 x.a ∧ inI64 x.b := by
  intro x hx
  rcases List.mem_append.1 hx with h | h
  · obtain ⟨b, _, rfl⟩ := List.mem_map.1 h
    cases b
    · exact ⟨⟨by decide, by decide⟩, ⟨by decide, by decide⟩, ⟨by decide, by decide⟩⟩
    · exact ⟨⟨by decide, by decide⟩, ⟨by decide, by decide⟩, ⟨by decide, by decide⟩⟩
  · rcases List.mem_cons.1 h with rfl | h
    · rcases hn with rfl | rfl <;> exact ⟨⟨by decide, by decide⟩, ⟨by decide, by decide⟩, ⟨by decide, by decide⟩⟩
    · rw [List.mem_singleton.1 h]
      exact ⟨⟨by decide, by decide⟩, ⟨by decide, by decide⟩, ⟨by decide, by decide⟩⟩
/-- What is asked of the module, in the end. -/
theorem cl_module {W : World} (hLaid : Laid W) {A C F : Nat} {P : ByteArray} {pc : Option Addr} {cc n : Nat} {bs : List Bool} {k : Int} (hk : k = 1 ∨ k = 2) (hn : (bs.map bk ++ callE k).length = n)
    (hA : W.heap[A]? = some (.cells #[.string ⟨#[]⟩, .string ⟨#[126]⟩, .string P, .string ⟨#[126]⟩] 51))
    (hC : W.heap[C]? = some (.cells #[.int .i64 66, .int .i64 0, .int .i64 0, .slice none 0 0, .int .i64 11, .int .i64 0, .int .i64 0, .slice none 0 0] 38))
    (hF : W.heap[F]? = some (.cells #[.int .i64 0, .string ⟨#[]⟩, .slice pc n cc, .int .i64 1, .string ⟨#[]⟩, .slice (some ⟨C, 0, none⟩) 2 2] 35))
    (hc : CodeAt W pc ((bs.map bk ++ callE k).map insOf)) (hP : vtypes P.data.toList 4096 = true) (hP2 : P.size ≤ 8) (hb : bs.length ≤ 8) {v : Bool} (hv : ∀ m : MoV, typeOf7 m 1 = some ⟨P, ⟨#[126]⟩⟩ → typeOf7 m 2 = none → (vrun (clC m) ((bs.map bk ++ callE k).map insOf) clS).wrong = v) :
    Calls Tryz.prog 11 #[.agg #[.slice (some ⟨A, 0, none⟩) 2 2, .slice (some ⟨F, 0, none⟩) 2 2, .slice none 0 0, .slice none 0 0, .slice none 0 0, .int .i64 (-1), .slice none 0 0]] W fun e w' => e = .returned (.int .i64 (if v then 4 else 0)) ∧ Below W.heap.size W w' := by
  subst hn
  have hm := cl_at hA hF hC hc (by unfold maxLen; omega)
  have h := v_module W hLaid _ hm (fun f hf => by
    rcases List.mem_cons.1 hf with rfl | hf
    · show ((bs.map bk ++ callE k).map insOf).length ≤ 400000
      simp [callE]
      omega
    · rw [List.mem_singleton.1 hf]
      show (c2E.map insOf).length ≤ 400000
      decide)
  rw [cl_ans A F C pc cc bs k hk hP (hv _ (cl_type1 ..) (cl_type2 ..))] at h
  exact h
theorem snoc_code1 {w : World} {B : Nat} {v : Value} {n : Nat} {c : List PI} {x : PI} (h : w.ownsRow B 38 4 v (n + 1) (codeCells c ++ x.cells)) : w.ownsRow B 38 4 v (n + 1) (codeCells (c ++ [x])) := by
  rw [codeCells_snoc]
  exact h
theorem call_cells (c : List PI) (n : Int) : codeCells (c ++ callE n) = codeCells c ++ (PI.cells ⟨16, n, 0⟩ ++ PI.cells ⟨11, 0, 0⟩) := by simp [codeCells, callE]
theorem own_parts {w : World} {base : Nat} {e : TypeId} {size n : Nat} {v : Value} {xs : List Value} (h : w.ownsRow base e size v n xs) (hn : 0 < n) : ∃ g cap cur, v = .slice (some ⟨g, 0, none⟩) n cap ∧ base ≤ g ∧ w.heap[g]? = some (.cells cur e (0, 0)) ∧ n ≤ cap ∧ cap ≤ maxLen ∧ cur.size = cap * size ∧ cur.toList.take (n * size) = xs := by
  rcases h.2 with ⟨_, h0⟩ | ⟨g, cap, cur, h⟩
  · omega
  · exact ⟨g, cap, cur, h⟩
theorem off_cells {cur : Array Value} {i : Nat} {b0 : Bool} {T : List Bool} (h : cur.toList.take (i * 4) = codeCells ((b0 :: T).map bk)) (hi : 1 ≤ i) : ((cur.toList.drop (1 * 4)).take ((i - 1) * 4)) ++ (PI.cells ⟨16, 1, 0⟩ ++ PI.cells ⟨11, 0, 0⟩) = codeCells (T.map bk ++ callE 1) := by
  rw [call_cells]
  congr 1
  have e : (i - 1) * 4 = i * 4 - 1 * 4 := by omega
  rw [e, ← List.drop_take, h]
  rfl
theorem off_code {w : World} {g o : Nat} {T : List Bool} (hg : g < w.heap.size) (h : ∀ j u, (codeCells (T.map bk ++ callE 1))[j]? = some u → w.cell? ⟨g, o + j, none⟩ = some u) (hT : T.length ≤ 8) : CodeAt w (some ⟨g, o, none⟩) ((T.map bk ++ callE 1).map insOf) := by
  refine ⟨rows_cells hg (by rw [code_cells]; exact h) (fun x _ => rfl), fun x hx => ?_, ?_⟩
  · obtain ⟨y, hy, rfl⟩ := List.mem_map.1 hx
    exact MadeAt.insAt (cl_rightPI T 1 (Or.inl rfl) y hy)
  · rw [List.length_map, List.length_append, List.length_map]
    show T.length + 2 ≤ _
    omega
theorem turn_cells (b0 : Bool) (T : List Bool) : (codeCells ((b0 :: T).map bk)).set 0 (.int .i64 (bk (!b0)).op) = codeCells (((!b0) :: T).map bk) := by cases b0 <;> rfl
theorem cells_new3 (w : World) (o : Obj) (a : Addr) (v : Value) (c : List Value) (t : TypeId) : ∀ j u, c[j]? = some u → (((w.setCell a v).alloc o).alloc (.cells c.toArray t)).cell? ((⟨w.heap.size + 1, 0, none⟩ : Addr).add j) = some u := by
  intro j u h
  have := cells_new ((w.setCell a v).alloc o) c t j u h
  rw [show ((w.setCell a v).alloc o).heap.size = w.heap.size + 1 by simp [World.setCell]] at this
  exact this
theorem call_own {w : World} {lo cap : Nat} {p : Option Addr} {code : List PI} (h : w.ownsRow lo 38 4 (.slice p code.length cap) code.length (codeCells code)) (hr : ∀ x ∈ code, inI64 x.op ∧ inI64 x.a ∧ inI64 x.b) (hl : code.length ≤ 4398046511104) : CodeAt w p (code.map insOf) := by
  refine ⟨rows_own (n := code.length) (cap := cap) (lo := lo) (t := 38) (by rw [code_cells]; exact h) (by simp) (fun x _ => rfl), fun x hx => ?_, by simpa using hl⟩
  obtain ⟨y, hy, rfl⟩ := List.mem_map.1 hx
  obtain ⟨h1, h2, h3⟩ := hr y hy
  exact ⟨fun j hj => absurd hj (by simp [insOf]), by simp [insOf], h1, h2, h3, fun n hn => by simp [insOf] at hn⟩
-- THE WALK
set_option maxRecDepth 100000 in
set_option maxHeartbeats 8000000 in
theorem validCalls_walk (p : Option Addr) (c : Nat) (l : List Bool) (how : Int) (h0 : 0 ≤ how ∧ how ≤ 255) (w : World) (hLaid : Laid w) (hA : BoolsAt w p l) :
    Calls Tryz.prog 8 #[.slice p l.length c, .int .u8 how] w fun e w' => e = .returned (.bool true) ∧ Below w.heap.size w w' := by
  obtain ⟨q0, q1⟩ := h0
  obtain ⟨i0, hi, hz0, hz1, hz2⟩ := info_parts instr_info
  have hh := examples7 w hLaid
  have hmost := hA.most
  unfold mostThings at hmost
  obtain ⟨T, hT⟩ : ∃ T, l.take 8 = T := ⟨_, rfl⟩
  obtain ⟨k, hk⟩ : ∃ k, T.length = k := ⟨_, rfl⟩
  obtain ⟨N, hN⟩ : ∃ N, l.length = N := ⟨_, rfl⟩
  have hkN : k = min 8 N := by rw [← hk, ← hT, List.length_take, hN]
  have hcell : ∀ W, Below w.heap.size w W → ∀ i (hi : i < T.length), ∃ b o, p = some ⟨b, o, none⟩ ∧ W.cell? ⟨b, o + i, none⟩ = some (.bool T[i]) := by
    intro W hW i hi
    have hil : i < l.length := by rw [hk] at hi; omega
    obtain ⟨b, o, hp, hb, hc⟩ := (hA.below hW (Nat.le_refl _)).rows i hil 0 (.bool l[i]) rfl
    refine ⟨b, o, hp, ?_⟩
    have e : T[i] = l[i] := by simp [← hT]
    rw [e]
    have e2 : o + i * 1 + 0 = o + i := by omega
    rw [e2] at hc
    exact hc
  have HK := Lib.hid hk
  rw [hN]
  rw [hN] at hmost
  clear hT hN hA hk
  go_enter Tryz.func8, Tryz.ntmps8
  go_wp2_with (go_at_call 9; (with_reducible refine hh.mono ?_); rintro e wa ⟨rfl, hba⟩)
  clear hh
  go_loopw [6, 7, 8] (fun u v x wr => ∃ i : Nat, i ≤ k ∧ x = .int .i64 i ∧ u = .string (pb (T.take i)) ∧ wr.ownsRow wa.heap.size 38 4 v i (codeCells ((T.take i).map bk)) ∧ Below wa.heap.size wa wr) (fun _ _ x _ => (k - (intOf x).toNat))
  case atStart => exact ⟨0, Nat.zero_le _, rfl, rfl, World.ownsRow_nil _ _ _ _, Below.refl _ _⟩
  case round =>
    obtain ⟨i, hik, rfl, rfl, hown, hbr⟩ := hrel
    have hsz := hbr.size
    by_cases hlt : i < k
    · have hit : i < T.length := by rw [HK.out]; exact hlt
      obtain ⟨b, o, hp, hcc⟩ := hcell wr (hba.trans (hbr.mono hba.size)) i hit
      have htk := take_snoc1 T i hit
      have hps : (pb (T.take i)).size = i := by rw [pb_size, List.length_take]; omega
      have j0 : (0 : Int) ≤ (i : Int) := by omega
      have j1 : (i : Int) < (N : Int) := by omega
      have j2 : (i : Int) < 8 := by omega
      have cc2 := fun o1 => (World.cell?_alloc_lt wr o1 _ (World.block_lt_of_cell? wr _ hcc)).trans hcc
      have HTK := Lib.hid htk
      have HPB := Lib.hid (pb_snoc (T.take i) T[i])
      clear htk
      generalize T[i] = b1 at *
      generalize hPP : pb (T.take i) = P at *
      rw [hp]
      cases b1 with
      | true =>
        go_wp2_with (at_builtin; refine wpList_append_own_at _ rfl (.tmp 36) (.tmp 38) 33 rfl wa.heap.size 38 i0 (.agg #[.int .i64 0, .int .i64 0, .int .i64 0, .slice none 0 0]) 4 48 Tryz.underlying33 hi hz0 hz1 hz2 rfl (by decide) _ i _ rfl ((hown.alloc _).alloc _) ⟨wr.heap.size + 1, 0, none⟩ 1 1 (PI.cells ⟨66, 0, 0⟩) rfl rfl (cells_new2 wr _ (PI.cells ⟨66, 0, 0⟩) 38) (by intro u hu; simp [PI.cells] at hu; rcases hu with rfl | rfl | rfl | rfl <;> rfl) (by unfold maxLen; omega) (by omega) (by simp; omega) ?_)
        intro v1 x1 hown1 hgrow _ _
        have hb1 := ((hbr.alloc hsz _).alloc (by simp; omega) _).grown hgrow (by simp; omega) (fun q hq => (hown.lt q hq).1)
        have hown2 := snoc_code1 hown1
        obtain ⟨vp1, vc1, rfl⟩ := own_any hown1
        clear hgrow hown1 hown cc2
        go_wp2
        go_roundw
        case rel => exact ⟨i + 1, by omega, by go_num, by rw [HTK.out]; exact congrArg _ HPB.out.symm, by rw [HTK.out, List.map_append, List.map_take]; exact hown2, hb1⟩
        case measure => simp [intOf]; omega
      | false =>
        go_wp2_with (at_builtin; refine wpList_append_own_at _ rfl (.tmp 36) (.tmp 38) 33 rfl wa.heap.size 38 i0 (.agg #[.int .i64 0, .int .i64 0, .int .i64 0, .slice none 0 0]) 4 48 Tryz.underlying33 hi hz0 hz1 hz2 rfl (by decide) _ i _ rfl ((hown.alloc _).alloc _) ⟨wr.heap.size + 1, 0, none⟩ 1 1 (PI.cells ⟨65, 0, 0⟩) rfl rfl (cells_new2 wr _ (PI.cells ⟨65, 0, 0⟩) 38) (by intro u hu; simp [PI.cells] at hu; rcases hu with rfl | rfl | rfl | rfl <;> rfl) (by unfold maxLen; omega) (by omega) (by simp; omega) ?_)
        intro v1 x1 hown1 hgrow _ _
        have hb1 := ((hbr.alloc hsz _).alloc (by simp; omega) _).grown hgrow (by simp; omega) (fun q hq => (hown.lt q hq).1)
        have hown2 := snoc_code1 hown1
        obtain ⟨vp1, vc1, rfl⟩ := own_any hown1
        clear hgrow hown1 hown cc2
        go_wp2
        go_roundw
        case rel => exact ⟨i + 1, by omega, by go_num, by rw [HTK.out]; exact congrArg _ HPB.out.symm, by rw [HTK.out, List.map_append, List.map_take]; exact hown2, hb1⟩
        case measure => simp [intOf]; omega
    · have e : i = k := by omega
      subst e
      have htk : T.take i = T := List.take_of_length_le (by rw [HK.out]; omega)
      rw [htk] at hown ⊢
      have hPr := pb_right T (by rw [HK.out]; omega)
      have hPs := pb_size T
      have hPl := pb_list T
      rw [HK.out] at hPs
      have HPL := Lib.hid hPl
      generalize pb T = P at *
      have hi8 : i ≤ 8 := by omega
      have hsp : (¬ (i : Int) < (N : Int)) ∨ ((i : Int) < (N : Int) ∧ ¬ (i : Int) < 8) := by omega
      have hT8 : T.length ≤ 8 := by rw [HK.out]; exact hi8
      clear htk hik hPl hkN
      obtain ⟨vp0, vc0, rfl⟩ := own_any hown
      have h4 : how % 4 = 0 ∨ how % 4 = 1 ∨ how % 4 = 2 ∨ how % 4 = 3 := by omega
      rcases h4 with h4 | h4 | h4 | h4
      · have h4t : Int.tmod how 4 = 0 := by rw [Int.tmod_eq_emod_of_nonneg q0]; exact h4
        rcases hsp with f1 | ⟨f1, f2⟩
        all_goals
          go_wp2_with (at_builtin; refine wpList_append_own_at _ rfl (.tmp 66) (.tmp 69) 33 rfl wa.heap.size 38 i0 (.agg #[.int .i64 0, .int .i64 0, .int .i64 0, .slice none 0 0]) 4 48 Tryz.underlying33 hi hz0 hz1 hz2 rfl (by decide) _ i _ rfl ((hown.alloc _).alloc _) ⟨wr.heap.size + 1, 0, none⟩ 2 2 (PI.cells ⟨16, 1, 0⟩ ++ PI.cells ⟨11, 0, 0⟩) rfl rfl (cells_new2 wr _ (PI.cells ⟨16, 1, 0⟩ ++ PI.cells ⟨11, 0, 0⟩) 38) (by intro u hu; simp [PI.cells] at hu; rcases hu with rfl | rfl | rfl | rfl | rfl | rfl | rfl | rfl <;> rfl) (by unfold maxLen; omega) (by omega) (by simp; omega) ?_)
          intro v1 x1 hown1 hgrow _ _
          have hb1 := ((hbr.alloc hsz _).alloc (by simp; omega) _).grown hgrow (by simp; omega) (fun q hq => (hown.lt q hq).1)
          obtain ⟨vp1, vc1, rfl⟩ := own_any hown1
          have hown2 : x1.ownsRow wa.heap.size 38 4 (.slice vp1 (i + 2) vc1) (i + 2) (codeCells (T.map bk ++ callE 1)) := by rw [call_cells]; exact hown1
          have hl2 : (T.map bk ++ callE 1).length = i + 2 := by rw [List.length_append, List.length_map, HK.out]; rfl
          have hcode : CodeAt x1 vp1 ((T.map bk ++ callE 1).map insOf) := call_own (by rw [hl2]; exact hown2) (bk_in T 1 (by omega)) (by rw [hl2]; omega)
          clear hgrow hown1 hown hown2 hbr hsz
          obtain ⟨W2, hW2⟩ : ∃ W, W = (((x1.alloc (.cells #[.string ⟨#[]⟩, .string ⟨#[126]⟩, .string P, .string ⟨#[126]⟩] 51)).alloc (.cells #[.int .i64 66, .int .i64 0, .int .i64 0, .slice none 0 0, .int .i64 11, .int .i64 0, .int .i64 0, .slice none 0 0] 38)).alloc (.cells #[.int .i64 0, .string ⟨#[]⟩, .slice vp1 (i + 2) vc1, .int .i64 1, .string ⟨#[]⟩, .slice (some ⟨x1.heap.size + 1, 0, none⟩) 2 2] 35)).alloc (.cells #[.slice (some ⟨x1.heap.size, 0, none⟩) 2 2, .slice (some ⟨x1.heap.size + 1 + 1, 0, none⟩) 2 2, .slice none 0 0, .slice none 0 0, .slice none 0 0, .int .i64 (-1), .slice none 0 0] 31) := ⟨_, rfl⟩
          have hB2 : Below x1.heap.size x1 W2 := by rw [hW2]; exact ((((Below.refl _ _).alloc (Nat.le_refl _) _).alloc (by simp only [push_size7]; omega) _).alloc (by simp only [push_size7]; omega) _).alloc (by simp only [push_size7]; omega) _
          have k1 : W2.heap[x1.heap.size]? = some (.cells #[.string ⟨#[]⟩, .string ⟨#[126]⟩, .string P, .string ⟨#[126]⟩] 51) := by rw [hW2]; simp only [push7, push_size7]; rw [if_neg (by omega), if_neg (by omega), if_neg (by omega), if_pos trivial]
          have k2 : W2.heap[x1.heap.size + 1]? = some (.cells #[.int .i64 66, .int .i64 0, .int .i64 0, .slice none 0 0, .int .i64 11, .int .i64 0, .int .i64 0, .slice none 0 0] 38) := by rw [hW2]; simp only [push7, push_size7]; rw [if_neg (by omega), if_neg (by omega), if_pos trivial]
          have k3 : W2.heap[x1.heap.size + 1 + 1]? = some (.cells #[.int .i64 0, .string ⟨#[]⟩, .slice vp1 (i + 2) vc1, .int .i64 1, .string ⟨#[]⟩, .slice (some ⟨x1.heap.size + 1, 0, none⟩) 2 2] 35) := by rw [hW2]; simp only [push7, push_size7]; rw [if_neg (by omega), if_pos trivial]
          have hBx := hba.trans (hb1.mono hba.size)
          have hBw : Below w.heap.size w W2 := hBx.trans (hB2.mono hBx.size)
          have cv := cl_module (k := 1) (bs := T) (P := P) (hLaid.below hBw) (by omega) (n := (i + 2)) hl2 k1 k2 k3 (hcode.below hB2 (Nat.le_refl _)) hPr (by rw [hPs]; omega) hT8 (v := false) (fun m h1 h2 => cl_good h1 HPL.out)
          clear k1 k2 k3 hcode hB2 hBx hb1 hPr hcell HK hLaid
          go_wp2_with fail
          rw [← hW2]
          clear hW2
          refine cv.mono ?_
          rintro e w3 ⟨rfl, hb3⟩
          clear cv
          go_wp2
          go_ret
          exact ⟨rfl, hBw.trans (hb3.mono hBw.size)⟩
      · have h4t : Int.tmod how 4 = 1 := by rw [Int.tmod_eq_emod_of_nonneg q0]; exact h4
        rcases hsp with f1 | ⟨f1, f2⟩
        all_goals
          go_wp2_with (at_builtin; refine wpList_append_own_at _ rfl (.tmp 66) (.tmp 69) 33 rfl wa.heap.size 38 i0 (.agg #[.int .i64 0, .int .i64 0, .int .i64 0, .slice none 0 0]) 4 48 Tryz.underlying33 hi hz0 hz1 hz2 rfl (by decide) _ i _ rfl ((hown.alloc _).alloc _) ⟨wr.heap.size + 1, 0, none⟩ 2 2 (PI.cells ⟨16, 2, 0⟩ ++ PI.cells ⟨11, 0, 0⟩) rfl rfl (cells_new2 wr _ (PI.cells ⟨16, 2, 0⟩ ++ PI.cells ⟨11, 0, 0⟩) 38) (by intro u hu; simp [PI.cells] at hu; rcases hu with rfl | rfl | rfl | rfl | rfl | rfl | rfl | rfl <;> rfl) (by unfold maxLen; omega) (by omega) (by simp; omega) ?_)
          intro v1 x1 hown1 hgrow _ _
          have hb1 := ((hbr.alloc hsz _).alloc (by simp; omega) _).grown hgrow (by simp; omega) (fun q hq => (hown.lt q hq).1)
          obtain ⟨vp1, vc1, rfl⟩ := own_any hown1
          have hown2 : x1.ownsRow wa.heap.size 38 4 (.slice vp1 (i + 2) vc1) (i + 2) (codeCells (T.map bk ++ callE 2)) := by rw [call_cells]; exact hown1
          have hl2 : (T.map bk ++ callE 2).length = i + 2 := by rw [List.length_append, List.length_map, HK.out]; rfl
          have hcode : CodeAt x1 vp1 ((T.map bk ++ callE 2).map insOf) := call_own (by rw [hl2]; exact hown2) (bk_in T 2 (by omega)) (by rw [hl2]; omega)
          clear hgrow hown1 hown hown2 hbr hsz
          obtain ⟨W2, hW2⟩ : ∃ W, W = (((x1.alloc (.cells #[.string ⟨#[]⟩, .string ⟨#[126]⟩, .string P, .string ⟨#[126]⟩] 51)).alloc (.cells #[.int .i64 66, .int .i64 0, .int .i64 0, .slice none 0 0, .int .i64 11, .int .i64 0, .int .i64 0, .slice none 0 0] 38)).alloc (.cells #[.int .i64 0, .string ⟨#[]⟩, .slice vp1 (i + 2) vc1, .int .i64 1, .string ⟨#[]⟩, .slice (some ⟨x1.heap.size + 1, 0, none⟩) 2 2] 35)).alloc (.cells #[.slice (some ⟨x1.heap.size, 0, none⟩) 2 2, .slice (some ⟨x1.heap.size + 1 + 1, 0, none⟩) 2 2, .slice none 0 0, .slice none 0 0, .slice none 0 0, .int .i64 (-1), .slice none 0 0] 31) := ⟨_, rfl⟩
          have hB2 : Below x1.heap.size x1 W2 := by rw [hW2]; exact ((((Below.refl _ _).alloc (Nat.le_refl _) _).alloc (by simp only [push_size7]; omega) _).alloc (by simp only [push_size7]; omega) _).alloc (by simp only [push_size7]; omega) _
          have k1 : W2.heap[x1.heap.size]? = some (.cells #[.string ⟨#[]⟩, .string ⟨#[126]⟩, .string P, .string ⟨#[126]⟩] 51) := by rw [hW2]; simp only [push7, push_size7]; rw [if_neg (by omega), if_neg (by omega), if_neg (by omega), if_pos trivial]
          have k2 : W2.heap[x1.heap.size + 1]? = some (.cells #[.int .i64 66, .int .i64 0, .int .i64 0, .slice none 0 0, .int .i64 11, .int .i64 0, .int .i64 0, .slice none 0 0] 38) := by rw [hW2]; simp only [push7, push_size7]; rw [if_neg (by omega), if_neg (by omega), if_pos trivial]
          have k3 : W2.heap[x1.heap.size + 1 + 1]? = some (.cells #[.int .i64 0, .string ⟨#[]⟩, .slice vp1 (i + 2) vc1, .int .i64 1, .string ⟨#[]⟩, .slice (some ⟨x1.heap.size + 1, 0, none⟩) 2 2] 35) := by rw [hW2]; simp only [push7, push_size7]; rw [if_neg (by omega), if_pos trivial]
          have hBx := hba.trans (hb1.mono hba.size)
          have hBw : Below w.heap.size w W2 := hBx.trans (hB2.mono hBx.size)
          have cv := cl_module (k := 2) (bs := T) (P := P) (hLaid.below hBw) (by omega) (n := (i + 2)) hl2 k1 k2 k3 (hcode.below hB2 (Nat.le_refl _)) hPr (by rw [hPs]; omega) hT8 (v := true) (fun m h1 h2 => cl_none h2)
          clear k1 k2 k3 hcode hB2 hBx hb1 hPr hcell HK hLaid
          go_wp2_with fail
          rw [← hW2]
          clear hW2
          refine cv.mono ?_
          rintro e w3 ⟨rfl, hb3⟩
          clear cv
          go_wp2
          go_ret
          exact ⟨rfl, hBw.trans (hb3.mono hBw.size)⟩
      · have h4t : Int.tmod how 4 = 2 := by rw [Int.tmod_eq_emod_of_nonneg q0]; exact h4
        by_cases hk0 : 0 = i
        · have hk1 : ¬ (0 : Int) < (i : Int) := by omega
          have hk2 : ¬ 0 < i := by omega
          rcases hsp with f1 | ⟨f1, f2⟩
          rotate_left
          · exfalso; omega
          clear hk0
          go_wp2_with (at_builtin; refine wpList_append_own_at _ rfl (.tmp 66) (.tmp 69) 33 rfl wa.heap.size 38 i0 (.agg #[.int .i64 0, .int .i64 0, .int .i64 0, .slice none 0 0]) 4 48 Tryz.underlying33 hi hz0 hz1 hz2 rfl (by decide) _ i _ rfl ((hown.alloc _).alloc _) ⟨wr.heap.size + 1, 0, none⟩ 2 2 (PI.cells ⟨16, 1, 0⟩ ++ PI.cells ⟨11, 0, 0⟩) rfl rfl (cells_new2 wr _ (PI.cells ⟨16, 1, 0⟩ ++ PI.cells ⟨11, 0, 0⟩) 38) (by intro u hu; simp [PI.cells] at hu; rcases hu with rfl | rfl | rfl | rfl | rfl | rfl | rfl | rfl <;> rfl) (by unfold maxLen; omega) (by omega) (by simp; omega) ?_)
          intro v1 x1 hown1 hgrow _ _
          have hb1 := ((hbr.alloc hsz _).alloc (by simp; omega) _).grown hgrow (by simp; omega) (fun q hq => (hown.lt q hq).1)
          obtain ⟨vp1, vc1, rfl⟩ := own_any hown1
          have hown2 : x1.ownsRow wa.heap.size 38 4 (.slice vp1 (i + 2) vc1) (i + 2) (codeCells (T.map bk ++ callE 1)) := by rw [call_cells]; exact hown1
          have hl2 : (T.map bk ++ callE 1).length = i + 2 := by rw [List.length_append, List.length_map, HK.out]; rfl
          have hcode : CodeAt x1 vp1 ((T.map bk ++ callE 1).map insOf) := call_own (by rw [hl2]; exact hown2) (bk_in T 1 (by omega)) (by rw [hl2]; omega)
          clear hgrow hown1 hown hown2 hbr hsz
          obtain ⟨W2, hW2⟩ : ∃ W, W = (((x1.alloc (.cells #[.string ⟨#[]⟩, .string ⟨#[126]⟩, .string P, .string ⟨#[126]⟩] 51)).alloc (.cells #[.int .i64 66, .int .i64 0, .int .i64 0, .slice none 0 0, .int .i64 11, .int .i64 0, .int .i64 0, .slice none 0 0] 38)).alloc (.cells #[.int .i64 0, .string ⟨#[]⟩, .slice vp1 (i + 2) vc1, .int .i64 1, .string ⟨#[]⟩, .slice (some ⟨x1.heap.size + 1, 0, none⟩) 2 2] 35)).alloc (.cells #[.slice (some ⟨x1.heap.size, 0, none⟩) 2 2, .slice (some ⟨x1.heap.size + 1 + 1, 0, none⟩) 2 2, .slice none 0 0, .slice none 0 0, .slice none 0 0, .int .i64 (-1), .slice none 0 0] 31) := ⟨_, rfl⟩
          have hB2 : Below x1.heap.size x1 W2 := by rw [hW2]; exact ((((Below.refl _ _).alloc (Nat.le_refl _) _).alloc (by simp only [push_size7]; omega) _).alloc (by simp only [push_size7]; omega) _).alloc (by simp only [push_size7]; omega) _
          have k1 : W2.heap[x1.heap.size]? = some (.cells #[.string ⟨#[]⟩, .string ⟨#[126]⟩, .string P, .string ⟨#[126]⟩] 51) := by rw [hW2]; simp only [push7, push_size7]; rw [if_neg (by omega), if_neg (by omega), if_neg (by omega), if_pos trivial]
          have k2 : W2.heap[x1.heap.size + 1]? = some (.cells #[.int .i64 66, .int .i64 0, .int .i64 0, .slice none 0 0, .int .i64 11, .int .i64 0, .int .i64 0, .slice none 0 0] 38) := by rw [hW2]; simp only [push7, push_size7]; rw [if_neg (by omega), if_neg (by omega), if_pos trivial]
          have k3 : W2.heap[x1.heap.size + 1 + 1]? = some (.cells #[.int .i64 0, .string ⟨#[]⟩, .slice vp1 (i + 2) vc1, .int .i64 1, .string ⟨#[]⟩, .slice (some ⟨x1.heap.size + 1, 0, none⟩) 2 2] 35) := by rw [hW2]; simp only [push7, push_size7]; rw [if_neg (by omega), if_pos trivial]
          have hBx := hba.trans (hb1.mono hba.size)
          have hBw : Below w.heap.size w W2 := hBx.trans (hB2.mono hBx.size)
          have cv := cl_module (k := 1) (bs := T) (P := P) (hLaid.below hBw) (by omega) (n := (i + 2)) hl2 k1 k2 k3 (hcode.below hB2 (Nat.le_refl _)) hPr (by rw [hPs]; omega) hT8 (v := false) (fun m h1 h2 => cl_good h1 HPL.out)
          clear k1 k2 k3 hcode hB2 hBx hb1 hPr hcell HK hLaid
          go_wp2_with fail
          rw [← hW2]
          clear hW2
          refine cv.mono ?_
          rintro e w3 ⟨rfl, hb3⟩
          clear cv
          go_wp2
          go_ret
          exact ⟨rfl, hBw.trans (hb3.mono hBw.size)⟩
        · have hk1 : (0 : Int) < (i : Int) := by omega
          have hk2 : 0 < i := by omega
          obtain ⟨b0, T', hT'⟩ : ∃ b0 T', T = b0 :: T' := by
            cases T with
            | nil => exact absurd HK.out (by show ¬ 0 = i; omega)
            | cons a b => exact ⟨a, b, rfl⟩
          obtain ⟨k', hk'⟩ : ∃ k', i = k' + 1 := ⟨i - 1, by omega⟩
          have hlen' : T'.length = k' := by have := HK.out; rw [hT', hk'] at this; simpa using this
          have hT8' : T'.length ≤ 8 := by omega
          have hlen2 : T'.length = i - 1 := by omega
          obtain ⟨g, cap, cur, hv, hgb, hgg, hnc, hcm, hcs, htk⟩ := own_parts hown hk2
          injection hv with hv1 hv2 hv3
          subst hv1 hv3
          have hgl := heap_in hgg
          have s1 : (1 : Int) ≤ (i : Int) := by omega
          have s2 : (i : Int) ≤ (vc0 : Int) := by omega
          have s3 : 1 ≤ i := by omega
          have HT' := Lib.hid hT'
          have HL' := Lib.hid hlen2
          have HTK := Lib.hid htk
          clear hT' hk' hlen' hlen2 htk hv2 hk0
          by_cases hc1 : vc0 = 1
          · rcases hsp with f1 | ⟨f1, f2⟩
            rotate_left
            · exfalso; omega
            have hi1 : i = 1 := by omega
            have hTe : T' = [] := List.eq_nil_of_length_eq_zero (by rw [HL'.out]; omega)
            subst hTe
            subst hc1
            subst hi1
            go_wp2_with (at_builtin; refine wpList_append_empty _ rfl (.tmp 66) (.tmp 69) 33 rfl 38 i0 (.agg #[.int .i64 0, .int .i64 0, .int .i64 0, .slice none 0 0]) 4 48 Tryz.underlying33 hi hz0 hz1 hz2 _ rfl ⟨wr.heap.size + 1, 0, none⟩ 2 2 (PI.cells ⟨16, 1, 0⟩ ++ PI.cells ⟨11, 0, 0⟩) rfl rfl (cells_new2 wr _ (PI.cells ⟨16, 1, 0⟩ ++ PI.cells ⟨11, 0, 0⟩) 38) (by decide) (by decide) (by decide) ?_)
            intro c' x1 hgrow hlt' hcl
            have hb1 := ((hbr.alloc hsz _).alloc (by first | (simp; done) | (simp; omega)) _).grown hgrow (by first | (simp; done) | (simp; omega)) (fun q hq => by cases hq)
            have hl2 : (([] : List Bool).map bk ++ callE 1).length = 2 := rfl
            have hcode : CodeAt x1 _ ((([] : List Bool).map bk ++ callE 1).map insOf) := off_code (o := 0) hlt' (fun j u hu => by rw [call_cells] at hu; rw [Nat.zero_add]; exact hcl j u hu) (by decide)
            clear hgrow hcl hlt' hown hbr hsz hgg hgl hcs hcm hgb hnc s1 s2 s3
            obtain ⟨W2, hW2⟩ : ∃ W, W = (((x1.alloc (.cells #[.string ⟨#[]⟩, .string ⟨#[126]⟩, .string P, .string ⟨#[126]⟩] 51)).alloc (.cells #[.int .i64 66, .int .i64 0, .int .i64 0, .slice none 0 0, .int .i64 11, .int .i64 0, .int .i64 0, .slice none 0 0] 38)).alloc (.cells #[.int .i64 0, .string ⟨#[]⟩, .slice (some ⟨wr.heap.size + 1 + 1, 0, none⟩) 2 c', .int .i64 1, .string ⟨#[]⟩, .slice (some ⟨x1.heap.size + 1, 0, none⟩) 2 2] 35)).alloc (.cells #[.slice (some ⟨x1.heap.size, 0, none⟩) 2 2, .slice (some ⟨x1.heap.size + 1 + 1, 0, none⟩) 2 2, .slice none 0 0, .slice none 0 0, .slice none 0 0, .int .i64 (-1), .slice none 0 0] 31) := ⟨_, rfl⟩
            have hB2 : Below x1.heap.size x1 W2 := by rw [hW2]; exact ((((Below.refl _ _).alloc (Nat.le_refl _) _).alloc (by simp only [push_size7]; omega) _).alloc (by simp only [push_size7]; omega) _).alloc (by simp only [push_size7]; omega) _
            have k1 : W2.heap[x1.heap.size]? = some (.cells #[.string ⟨#[]⟩, .string ⟨#[126]⟩, .string P, .string ⟨#[126]⟩] 51) := by rw [hW2]; simp only [push7, push_size7]; rw [if_neg (by omega), if_neg (by omega), if_neg (by omega), if_pos trivial]
            have k2 : W2.heap[x1.heap.size + 1]? = some (.cells #[.int .i64 66, .int .i64 0, .int .i64 0, .slice none 0 0, .int .i64 11, .int .i64 0, .int .i64 0, .slice none 0 0] 38) := by rw [hW2]; simp only [push7, push_size7]; rw [if_neg (by omega), if_neg (by omega), if_pos trivial]
            have k3 : W2.heap[x1.heap.size + 1 + 1]? = some (.cells #[.int .i64 0, .string ⟨#[]⟩, .slice (some ⟨wr.heap.size + 1 + 1, 0, none⟩) 2 c', .int .i64 1, .string ⟨#[]⟩, .slice (some ⟨x1.heap.size + 1, 0, none⟩) 2 2] 35) := by rw [hW2]; simp only [push7, push_size7]; rw [if_neg (by omega), if_pos trivial]
            have hBx := hba.trans (hb1.mono hba.size)
            have hBw : Below w.heap.size w W2 := hBx.trans (hB2.mono hBx.size)
            have cv := cl_module (k := 1) (bs := ([] : List Bool)) (P := P) (hLaid.below hBw) (by omega) (n := 2) hl2 k1 k2 k3 (hcode.below hB2 (Nat.le_refl _)) hPr (by rw [hPs]; omega) (by decide) (v := true) (fun m h1 h2 => cl_less h1 (by rw [HPL.out, HT'.out]))
            clear k1 k2 k3 hcode hB2 hBx hb1 hPr hcell HK hLaid
            go_wp2_with fail
            rw [← hW2]
            clear hW2
            refine cv.mono ?_
            rintro e w3 ⟨rfl, hb3⟩
            clear cv
            go_wp2
            go_ret
            exact ⟨rfl, hBw.trans (hb3.mono hBw.size)⟩
          · rcases hsp with f1 | ⟨f1, f2⟩
            all_goals
              go_wp2_with (at_builtin; refine wpList_append_off _ rfl (.tmp 66) (.tmp 69) 33 rfl 38 i0 (.agg #[.int .i64 0, .int .i64 0, .int .i64 0, .slice none 0 0]) 4 48 Tryz.underlying33 hi hz0 hz1 hz2 rfl g vc0 1 (i - 1) cur ((Below.heap_alloc _ _ _ (by simp; omega)).trans ((Below.heap_alloc _ _ _ hgl).trans hgg)) (by omega) hcm hcs rfl ⟨wr.heap.size + 1, 0, none⟩ 2 2 (PI.cells ⟨16, 1, 0⟩ ++ PI.cells ⟨11, 0, 0⟩) rfl rfl (cells_new2 wr _ (PI.cells ⟨16, 1, 0⟩ ++ PI.cells ⟨11, 0, 0⟩) 38) (by intro u hu; simp [PI.cells] at hu; rcases hu with rfl | rfl | rfl | rfl | rfl | rfl | rfl | rfl <;> rfl) (by unfold maxLen; omega) (by omega) ?_)
              intro g' o' c' x1 hgrow hg' hlt' hcl
              have hb1 := ((hbr.alloc hsz _).alloc (by simp; omega) _).grown hgrow (by simp; omega) (fun q hq => by injection hq with hq; omega)
              have hl2 : (T'.map bk ++ callE 1).length = i - 1 + 2 := by rw [List.length_append, List.length_map, HL'.out]; rfl
              have hcode : CodeAt x1 (some ⟨g', o', none⟩) ((T'.map bk ++ callE 1).map insOf) := by
                have e := off_cells (b0 := b0) (T := T') (by have := HTK.out; rw [HT'.out] at this; exact this) s3
                exact off_code hlt' (by rw [← e]; exact hcl) hT8'
              clear hgrow hcl hg' hlt' hown hbr hsz hgg hgl hcs hcm hgb hnc s1 s2 s3
              obtain ⟨W2, hW2⟩ : ∃ W, W = (((x1.alloc (.cells #[.string ⟨#[]⟩, .string ⟨#[126]⟩, .string P, .string ⟨#[126]⟩] 51)).alloc (.cells #[.int .i64 66, .int .i64 0, .int .i64 0, .slice none 0 0, .int .i64 11, .int .i64 0, .int .i64 0, .slice none 0 0] 38)).alloc (.cells #[.int .i64 0, .string ⟨#[]⟩, .slice (some ⟨g', o', none⟩) (i - 1 + 2) c', .int .i64 1, .string ⟨#[]⟩, .slice (some ⟨x1.heap.size + 1, 0, none⟩) 2 2] 35)).alloc (.cells #[.slice (some ⟨x1.heap.size, 0, none⟩) 2 2, .slice (some ⟨x1.heap.size + 1 + 1, 0, none⟩) 2 2, .slice none 0 0, .slice none 0 0, .slice none 0 0, .int .i64 (-1), .slice none 0 0] 31) := ⟨_, rfl⟩
              have hB2 : Below x1.heap.size x1 W2 := by rw [hW2]; exact ((((Below.refl _ _).alloc (Nat.le_refl _) _).alloc (by simp only [push_size7]; omega) _).alloc (by simp only [push_size7]; omega) _).alloc (by simp only [push_size7]; omega) _
              have k1 : W2.heap[x1.heap.size]? = some (.cells #[.string ⟨#[]⟩, .string ⟨#[126]⟩, .string P, .string ⟨#[126]⟩] 51) := by rw [hW2]; simp only [push7, push_size7]; rw [if_neg (by omega), if_neg (by omega), if_neg (by omega), if_pos trivial]
              have k2 : W2.heap[x1.heap.size + 1]? = some (.cells #[.int .i64 66, .int .i64 0, .int .i64 0, .slice none 0 0, .int .i64 11, .int .i64 0, .int .i64 0, .slice none 0 0] 38) := by rw [hW2]; simp only [push7, push_size7]; rw [if_neg (by omega), if_neg (by omega), if_pos trivial]
              have k3 : W2.heap[x1.heap.size + 1 + 1]? = some (.cells #[.int .i64 0, .string ⟨#[]⟩, .slice (some ⟨g', o', none⟩) (i - 1 + 2) c', .int .i64 1, .string ⟨#[]⟩, .slice (some ⟨x1.heap.size + 1, 0, none⟩) 2 2] 35) := by rw [hW2]; simp only [push7, push_size7]; rw [if_neg (by omega), if_pos trivial]
              have hBx := hba.trans (hb1.mono hba.size)
              have hBw : Below w.heap.size w W2 := hBx.trans (hB2.mono hBx.size)
              have cv := cl_module (k := 1) (bs := T') (P := P) (hLaid.below hBw) (by omega) (n := (i - 1 + 2)) hl2 k1 k2 k3 (hcode.below hB2 (Nat.le_refl _)) hPr (by rw [hPs]; omega) hT8' (v := true) (fun m h1 h2 => cl_less h1 (by rw [HPL.out, HT'.out]))
              clear k1 k2 k3 hcode hB2 hBx hb1 hPr hcell HK hLaid
              go_wp2_with fail
              rw [← hW2]
              clear hW2
              refine cv.mono ?_
              rintro e w3 ⟨rfl, hb3⟩
              clear cv
              go_wp2
              go_ret
              exact ⟨rfl, hBw.trans (hb3.mono hBw.size)⟩
      · have h4t : Int.tmod how 4 = 3 := by rw [Int.tmod_eq_emod_of_nonneg q0]; exact h4
        by_cases hk0 : 0 = i
        · have hk1 : ¬ (0 : Int) < (i : Int) := by omega
          have hk2 : ¬ 0 < i := by omega
          rcases hsp with f1 | ⟨f1, f2⟩
          rotate_left
          · exfalso; omega
          clear hk0
          go_wp2_with (at_builtin; refine wpList_append_own_at _ rfl (.tmp 66) (.tmp 69) 33 rfl wa.heap.size 38 i0 (.agg #[.int .i64 0, .int .i64 0, .int .i64 0, .slice none 0 0]) 4 48 Tryz.underlying33 hi hz0 hz1 hz2 rfl (by decide) _ i _ rfl ((hown.alloc _).alloc _) ⟨wr.heap.size + 1, 0, none⟩ 2 2 (PI.cells ⟨16, 1, 0⟩ ++ PI.cells ⟨11, 0, 0⟩) rfl rfl (cells_new2 wr _ (PI.cells ⟨16, 1, 0⟩ ++ PI.cells ⟨11, 0, 0⟩) 38) (by intro u hu; simp [PI.cells] at hu; rcases hu with rfl | rfl | rfl | rfl | rfl | rfl | rfl | rfl <;> rfl) (by unfold maxLen; omega) (by omega) (by simp; omega) ?_)
          intro v1 x1 hown1 hgrow _ _
          have hb1 := ((hbr.alloc hsz _).alloc (by simp; omega) _).grown hgrow (by simp; omega) (fun q hq => (hown.lt q hq).1)
          obtain ⟨vp1, vc1, rfl⟩ := own_any hown1
          have hown2 : x1.ownsRow wa.heap.size 38 4 (.slice vp1 (i + 2) vc1) (i + 2) (codeCells (T.map bk ++ callE 1)) := by rw [call_cells]; exact hown1
          have hl2 : (T.map bk ++ callE 1).length = i + 2 := by rw [List.length_append, List.length_map, HK.out]; rfl
          have hcode : CodeAt x1 vp1 ((T.map bk ++ callE 1).map insOf) := call_own (by rw [hl2]; exact hown2) (bk_in T 1 (by omega)) (by rw [hl2]; omega)
          clear hgrow hown1 hown hown2 hbr hsz
          obtain ⟨W2, hW2⟩ : ∃ W, W = (((x1.alloc (.cells #[.string ⟨#[]⟩, .string ⟨#[126]⟩, .string P, .string ⟨#[126]⟩] 51)).alloc (.cells #[.int .i64 66, .int .i64 0, .int .i64 0, .slice none 0 0, .int .i64 11, .int .i64 0, .int .i64 0, .slice none 0 0] 38)).alloc (.cells #[.int .i64 0, .string ⟨#[]⟩, .slice vp1 (i + 2) vc1, .int .i64 1, .string ⟨#[]⟩, .slice (some ⟨x1.heap.size + 1, 0, none⟩) 2 2] 35)).alloc (.cells #[.slice (some ⟨x1.heap.size, 0, none⟩) 2 2, .slice (some ⟨x1.heap.size + 1 + 1, 0, none⟩) 2 2, .slice none 0 0, .slice none 0 0, .slice none 0 0, .int .i64 (-1), .slice none 0 0] 31) := ⟨_, rfl⟩
          have hB2 : Below x1.heap.size x1 W2 := by rw [hW2]; exact ((((Below.refl _ _).alloc (Nat.le_refl _) _).alloc (by simp only [push_size7]; omega) _).alloc (by simp only [push_size7]; omega) _).alloc (by simp only [push_size7]; omega) _
          have k1 : W2.heap[x1.heap.size]? = some (.cells #[.string ⟨#[]⟩, .string ⟨#[126]⟩, .string P, .string ⟨#[126]⟩] 51) := by rw [hW2]; simp only [push7, push_size7]; rw [if_neg (by omega), if_neg (by omega), if_neg (by omega), if_pos trivial]
          have k2 : W2.heap[x1.heap.size + 1]? = some (.cells #[.int .i64 66, .int .i64 0, .int .i64 0, .slice none 0 0, .int .i64 11, .int .i64 0, .int .i64 0, .slice none 0 0] 38) := by rw [hW2]; simp only [push7, push_size7]; rw [if_neg (by omega), if_neg (by omega), if_pos trivial]
          have k3 : W2.heap[x1.heap.size + 1 + 1]? = some (.cells #[.int .i64 0, .string ⟨#[]⟩, .slice vp1 (i + 2) vc1, .int .i64 1, .string ⟨#[]⟩, .slice (some ⟨x1.heap.size + 1, 0, none⟩) 2 2] 35) := by rw [hW2]; simp only [push7, push_size7]; rw [if_neg (by omega), if_pos trivial]
          have hBx := hba.trans (hb1.mono hba.size)
          have hBw : Below w.heap.size w W2 := hBx.trans (hB2.mono hBx.size)
          have cv := cl_module (k := 1) (bs := T) (P := P) (hLaid.below hBw) (by omega) (n := (i + 2)) hl2 k1 k2 k3 (hcode.below hB2 (Nat.le_refl _)) hPr (by rw [hPs]; omega) hT8 (v := false) (fun m h1 h2 => cl_good h1 HPL.out)
          clear k1 k2 k3 hcode hB2 hBx hb1 hPr hcell HK hLaid
          go_wp2_with fail
          rw [← hW2]
          clear hW2
          refine cv.mono ?_
          rintro e w3 ⟨rfl, hb3⟩
          clear cv
          go_wp2
          go_ret
          exact ⟨rfl, hBw.trans (hb3.mono hBw.size)⟩
        · have hk1 : (0 : Int) < (i : Int) := by omega
          have hk2 : 0 < i := by omega
          obtain ⟨b0, T', hT'⟩ : ∃ b0 T', T = b0 :: T' := by
            cases T with
            | nil => exact absurd HK.out (by show ¬ 0 = i; omega)
            | cons a b => exact ⟨a, b, rfl⟩
          obtain ⟨k', hk'⟩ : ∃ k', i = k' + 1 := ⟨i - 1, by omega⟩
          have hlen' : T'.length = k' := by have := HK.out; rw [hT', hk'] at this; simpa using this
          have hT8' : T'.length ≤ 8 := by omega
          have hlen2 : T'.length = i - 1 := by omega
          obtain ⟨g, cap, cur, hv, hgb, hgg, hnc, hcm, hcs, htk⟩ := own_parts hown hk2
          injection hv with hv1 hv2 hv3
          subst hv1 hv3
          have hgl := heap_in hgg
          have s1 : (1 : Int) ≤ (i : Int) := by omega
          have s2 : (i : Int) ≤ (vc0 : Int) := by omega
          have s3 : 1 ≤ i := by omega
          have HT' := Lib.hid hT'
          have HL' := Lib.hid hlen2
          have HTK := Lib.hid htk
          clear hT' hk' hlen' hlen2 htk hv2 hk0
          rcases hsp with f1 | ⟨f1, f2⟩
          all_goals
            obtain ⟨oA, hoA⟩ : ∃ n, (bk b0).op = n := ⟨_, rfl⟩
            obtain ⟨oB, hoB⟩ : ∃ n, (bk (!b0)).op = n := ⟨_, rfl⟩
            have hsub : IntKind.i64.wrap (131 - oA) = oB := by rw [← hoA, ← hoB]; cases b0 <;> decide
            have hc0 : ∀ o1, (wr.alloc o1).cell? ⟨g, 0, none⟩ = some (.int .i64 oA) := fun o1 => by
              rw [(hown.alloc o1).cellAt 0 (by omega), HT'.out, ← hoA]
              rfl
            have hz0' : ∀ o1, (wr.alloc o1).frozen? ⟨g, 0, none⟩ = false := fun o1 => (hown.alloc o1).frozenAt 0
            have hcw : wr.cell? ⟨g, 0, none⟩ = some (.int .i64 oA) := by
              rw [hown.cellAt 0 (by omega), HT'.out, ← hoA]
              rfl
            have hfw : wr.frozen? ⟨g, 0, none⟩ = false := hown.frozenAt 0
            have hne : ¬ wr.heap.size = g := by omega
            have hne2 : ¬ g = wr.heap.size := by omega
            have s4 : (0 : Int) < (i : Int) := by omega
            have hst := (hown.stored 0 (.int .i64 oB)).1
            rw [HT'.out, ← hoB, turn_cells] at hst
            have HOB := Lib.hid hoB
            rw [hoB] at hst
            clear hoA hoB
            go_wp2_with (at_builtin; refine wpList_append_own_at _ rfl (.tmp 66) (.tmp 69) 33 rfl wa.heap.size 38 i0 (.agg #[.int .i64 0, .int .i64 0, .int .i64 0, .slice none 0 0]) 4 48 Tryz.underlying33 hi hz0 hz1 hz2 rfl (by decide) _ i _ rfl ((hst.alloc _).alloc _) ⟨wr.heap.size + 1, 0, none⟩ 2 2 (PI.cells ⟨16, 1, 0⟩ ++ PI.cells ⟨11, 0, 0⟩) rfl rfl (cells_new3 wr _ _ _ (PI.cells ⟨16, 1, 0⟩ ++ PI.cells ⟨11, 0, 0⟩) 38) (by intro u hu; simp [PI.cells] at hu; rcases hu with rfl | rfl | rfl | rfl | rfl | rfl | rfl | rfl <;> rfl) (by unfold maxLen; omega) (by omega) (by simp [World.setCell]; omega) ?_)
            intro v1 x1 hown1 hgrow _ _
            have hb1 := (((hbr.setCell (show wa.heap.size ≤ g from hgb) _).alloc (by simp [World.setCell]; omega) _).alloc (by simp [World.setCell]; omega) _).grown hgrow (by simp [World.setCell]; omega) (fun q hq => (hst.lt q hq).1)
            obtain ⟨vp1, vc1, rfl⟩ := own_any hown1
            have hown2 : x1.ownsRow wa.heap.size 38 4 (.slice vp1 (i + 2) vc1) (i + 2) (codeCells (((!b0) :: T').map bk ++ callE 1)) := by rw [call_cells]; exact hown1
            have hl2 : (((!b0) :: T').map bk ++ callE 1).length = i + 2 := by rw [List.length_append, List.length_map, List.length_cons, HL'.out]; show i - 1 + 1 + 2 = _; omega
            have hcode : CodeAt x1 vp1 ((((!b0) :: T').map bk ++ callE 1).map insOf) := call_own (by rw [hl2]; exact hown2) (bk_in ((!b0) :: T') 1 (by omega)) (by rw [hl2]; omega)
            have hT9 : ((!b0) :: T').length ≤ 8 := by rw [List.length_cons, HL'.out]; omega
            clear hgrow hown1 hown hown2 hbr hsz hst hcw hfw hc0 hz0' hgg hgl hcs hcm hgb hnc s1 s2 s3 s4 hne hne2 hsub HOB
            obtain ⟨W2, hW2⟩ : ∃ W, W = (((x1.alloc (.cells #[.string ⟨#[]⟩, .string ⟨#[126]⟩, .string P, .string ⟨#[126]⟩] 51)).alloc (.cells #[.int .i64 66, .int .i64 0, .int .i64 0, .slice none 0 0, .int .i64 11, .int .i64 0, .int .i64 0, .slice none 0 0] 38)).alloc (.cells #[.int .i64 0, .string ⟨#[]⟩, .slice vp1 (i + 2) vc1, .int .i64 1, .string ⟨#[]⟩, .slice (some ⟨x1.heap.size + 1, 0, none⟩) 2 2] 35)).alloc (.cells #[.slice (some ⟨x1.heap.size, 0, none⟩) 2 2, .slice (some ⟨x1.heap.size + 1 + 1, 0, none⟩) 2 2, .slice none 0 0, .slice none 0 0, .slice none 0 0, .int .i64 (-1), .slice none 0 0] 31) := ⟨_, rfl⟩
            have hB2 : Below x1.heap.size x1 W2 := by rw [hW2]; exact ((((Below.refl _ _).alloc (Nat.le_refl _) _).alloc (by simp only [push_size7]; omega) _).alloc (by simp only [push_size7]; omega) _).alloc (by simp only [push_size7]; omega) _
            have k1 : W2.heap[x1.heap.size]? = some (.cells #[.string ⟨#[]⟩, .string ⟨#[126]⟩, .string P, .string ⟨#[126]⟩] 51) := by rw [hW2]; simp only [push7, push_size7]; rw [if_neg (by omega), if_neg (by omega), if_neg (by omega), if_pos trivial]
            have k2 : W2.heap[x1.heap.size + 1]? = some (.cells #[.int .i64 66, .int .i64 0, .int .i64 0, .slice none 0 0, .int .i64 11, .int .i64 0, .int .i64 0, .slice none 0 0] 38) := by rw [hW2]; simp only [push7, push_size7]; rw [if_neg (by omega), if_neg (by omega), if_pos trivial]
            have k3 : W2.heap[x1.heap.size + 1 + 1]? = some (.cells #[.int .i64 0, .string ⟨#[]⟩, .slice vp1 (i + 2) vc1, .int .i64 1, .string ⟨#[]⟩, .slice (some ⟨x1.heap.size + 1, 0, none⟩) 2 2] 35) := by rw [hW2]; simp only [push7, push_size7]; rw [if_neg (by omega), if_pos trivial]
            have hBx := hba.trans (hb1.mono hba.size)
            have hBw : Below w.heap.size w W2 := hBx.trans (hB2.mono hBx.size)
            have cv := cl_module (k := 1) (bs := ((!b0) :: T')) (P := P) (hLaid.below hBw) (by omega) (n := (i + 2)) hl2 k1 k2 k3 (hcode.below hB2 (Nat.le_refl _)) hPr (by rw [hPs]; omega) hT9 (v := true) (fun m h1 h2 => cl_turn h1 (by rw [HPL.out, HT'.out]))
            clear k1 k2 k3 hcode hB2 hBx hb1 hPr hcell HK hLaid
            go_wp2_with fail
            rw [← hW2]
            clear hW2
            refine cv.mono ?_
            rintro e w3 ⟨rfl, hb3⟩
            clear cv
            go_wp2
            go_ret
            exact ⟨rfl, hBw.trans (hb3.mono hBw.size)⟩
end Go.Proofs.YtomffpibdinkaaaGreatDoor
