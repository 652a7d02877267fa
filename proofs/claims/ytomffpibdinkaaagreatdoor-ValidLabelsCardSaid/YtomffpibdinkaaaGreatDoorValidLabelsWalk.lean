/-
  A label is one of the blocks that are open, or the function's own; a place further out there is none: walked. A contract that the proofs call.
-/
import Derived.Test.YtomffpibdinkaaaGreatDoorValCodes
namespace Go.Proofs.YtomffpibdinkaaaGreatDoor
open Go.RowKit Go.Maps
set_option linter.unusedVariables false
set_option linter.unusedSimpArgs false

theorem snoc_code {w : World} {B : Nat} {v : Value} {n : Nat} {c : List PI} {x : PI} (h : w.ownsRow B 38 4 v (n + 1) (codeCells c ++ x.cells)) : w.ownsRow B 38 4 v (n + 1) (codeCells (c ++ [x])) := by
  rw [codeCells_snoc]
  exact h
/-- Blocks, a branch, so many ends. -/
def brF (i n j : Nat) : List PI := opF i ++ [(⟨12, n, 0⟩ : PI)] ++ endF j
theorem brF_zero (i n : Nat) : opF i ++ [(⟨12, n, 0⟩ : PI)] = brF i n 0 := by unfold brF; rw [endF, List.append_nil]
theorem brF_succ (i n j : Nat) : brF i n (j + 1) = brF i n j ++ [(⟨11, 0, 0⟩ : PI)] := by unfold brF; rw [endF, ← List.append_assoc]
theorem brF_len (i n j : Nat) : (brF i n j).length = i + 1 + j := by unfold brF; rw [List.length_append, List.length_append, opF_len, endF_len]; rfl
set_option maxRecDepth 100000 in
set_option maxHeartbeats 8000000 in
theorem validLabels_walk (a0 a1 : Int) (h0 : 0 ≤ a0 ∧ a0 ≤ 255) (h1 : 0 ≤ a1 ∧ a1 ≤ 255) (w : World) (hLaid : Laid w) :
    Calls Tryz.prog 7 #[.int .u8 a0, .int .u8 a1] w fun e w' => e = .returned (.bool true) ∧ Below w.heap.size w w' := by
  obtain ⟨q0, q1⟩ := h0
  obtain ⟨q2, q3⟩ := h1
  obtain ⟨k, hk, hk1⟩ : ∃ k : Nat, a0 % 20 = (k : Int) ∧ k < 20 := ⟨(a0 % 20).toNat, by omega, by omega⟩
  obtain ⟨n, hn, hn1⟩ : ∃ n : Nat, a1 % 24 = (n : Int) ∧ n < 24 := ⟨(a1 % 24).toNat, by omega, by omega⟩
  obtain ⟨i0, hi, hz0, hz1, hz2⟩ := info_parts instr_info
  have hh := examples7 w hLaid
  go_enter Tryz.func7, Tryz.ntmps7
  go_wp2_with (go_at_call 9; (with_reducible refine hh.mono ?_); rintro e wa ⟨rfl, hba⟩)
  clear hh
  rw [hk]
  go_loopw [7, 8] (fun v x wr => ∃ i : Nat, i ≤ k ∧ x = .int .i64 i ∧ wr.ownsRow wa.heap.size 38 4 v i (codeCells (opF i)) ∧ Below wa.heap.size wa wr) (fun _ x _ => (k - (intOf x).toNat))
  case atStart => exact ⟨0, Nat.zero_le _, rfl, World.ownsRow_nil _ _ _ _, Below.refl _ _⟩
  case round =>
    obtain ⟨i, hik, rfl, hown, hbr⟩ := hrel
    have hsz := hbr.size
    by_cases hlt : i < k
    · go_wp2_with (at_builtin; refine wpList_append_own_at _ rfl (.tmp 22) (.tmp 27) 33 rfl wa.heap.size 38 i0 (.agg #[.int .i64 0, .int .i64 0, .int .i64 0, .slice none 0 0]) 4 48 Tryz.underlying33 hi hz0 hz1 hz2 rfl (by decide) _ i _ rfl (hown.alloc _) ⟨wr.heap.size, 0, none⟩ 1 1 (PI.cells ⟨2 + (i : Int) % 2, 64, 0⟩) rfl rfl (cells_new wr (PI.cells ⟨2 + (i : Int) % 2, 64, 0⟩) 38) (by intro u hu; simp [PI.cells] at hu; rcases hu with rfl | rfl | rfl | rfl <;> rfl) (by unfold maxLen; omega) (by omega) (by simp; omega) ?_)
      intro v1 x1 hown1 hgrow _ _
      have hb1 := (hbr.alloc hsz _).grown hgrow (by simp; omega) (fun q hq => (hown.lt q hq).1)
      have hown2 := snoc_code hown1
      obtain ⟨vp1, vc1, rfl⟩ := own_any hown1
      clear hgrow hown1 hown
      go_wp2
      go_roundw
      case rel => exact ⟨i + 1, by omega, by go_num, hown2, hb1⟩
      case measure => simp [intOf]; omega
    · have e : i = k := by omega
      subst e
      go_wp2_with (at_builtin; refine wpList_append_own_at _ rfl (.tmp 29) (.tmp 34) 33 rfl wa.heap.size 38 i0 (.agg #[.int .i64 0, .int .i64 0, .int .i64 0, .slice none 0 0]) 4 48 Tryz.underlying33 hi hz0 hz1 hz2 rfl (by decide) _ i _ rfl (hown.alloc _) ⟨wr.heap.size, 0, none⟩ 1 1 (PI.cells ⟨12, n, 0⟩) rfl rfl (cells_new wr (PI.cells ⟨12, n, 0⟩) 38) (by intro u hu; simp [PI.cells] at hu; rcases hu with rfl | rfl | rfl | rfl <;> rfl) (by unfold maxLen; omega) (by omega) (by simp; omega) ?_)
      intro v1 x1 hown1 hgrow _ _
      have hb1 := (hbr.alloc hsz _).grown hgrow (by simp; omega) (fun q hq => (hown.lt q hq).1)
      have hown2 := snoc_code hown1
      obtain ⟨vp1, vc1, rfl⟩ := own_any hown1
      clear hgrow hown1 hown hbr hsz
      go_wp2
      go_loopw [7, 9] (fun v x wr => ∃ j : Nat, j ≤ i + 1 ∧ x = .int .i64 j ∧ wr.ownsRow wa.heap.size 38 4 v (i + 1 + j) (codeCells (brF i n j)) ∧ Below wa.heap.size wa wr) (fun _ x _ => (i + 1 - (intOf x).toNat))
      case atStart => exact ⟨0, Nat.zero_le _, rfl, by rw [← brF_zero]; exact hown2, hb1⟩
      case round =>
        clear hown2 hb1
        obtain ⟨j, hjk, rfl, hown, hbr⟩ := hrel
        have hsz := hbr.size
        by_cases hlt2 : j < i + 1
        · go_wp2_with (at_builtin; refine wpList_append_own_at _ rfl (.tmp 41) (.tmp 43) 33 rfl wa.heap.size 38 i0 (.agg #[.int .i64 0, .int .i64 0, .int .i64 0, .slice none 0 0]) 4 48 Tryz.underlying33 hi hz0 hz1 hz2 rfl (by decide) _ (i + 1 + j) _ rfl (hown.alloc _) ⟨wr.heap.size, 0, none⟩ 1 1 (PI.cells ⟨11, 0, 0⟩) rfl rfl (cells_new wr (PI.cells ⟨11, 0, 0⟩) 38) (by intro u hu; simp [PI.cells] at hu; rcases hu with rfl | rfl | rfl | rfl <;> rfl) (by unfold maxLen; omega) (by omega) (by simp; omega) ?_)
          intro v1 x1 hown1 hgrow _ _
          have hb1 := (hbr.alloc hsz _).grown hgrow (by simp; omega) (fun q hq => (hown.lt q hq).1)
          have hown2 : x1.ownsRow wa.heap.size 38 4 v1 (i + 1 + j + 1) (codeCells (brF i n (j + 1))) := by
            rw [brF_succ]
            exact snoc_code hown1
          obtain ⟨vp1, vc1, rfl⟩ := own_any hown1
          clear hgrow hown1 hown
          go_wp2
          go_roundw
          case rel => exact ⟨j + 1, by omega, by go_num, hown2, hb1⟩
          case measure => simp [intOf]; omega
        · have e : j = i + 1 := by omega
          subst e
          obtain ⟨vp2, vc2, rfl⟩ := own_any hown
          have hlen : (brF i n (i + 1)).length = i + 1 + (i + 1) := brF_len _ _ _
          have hm := code_own (w := wr) (lo := wa.heap.size) (cap := vc2) (p := vp2) (code := brF i n (i + 1)) (by rw [hlen]; exact hown) (fun x hx => by
            unfold brF at hx
            rcases List.mem_append.1 hx with h | h
            · rcases List.mem_append.1 h with h | h
              · rcases opF_mem i x h with rfl | rfl
                · exact ⟨⟨by decide, by decide⟩, ⟨by decide, by decide⟩, ⟨by decide, by decide⟩⟩
                · exact ⟨⟨by decide, by decide⟩, ⟨by decide, by decide⟩, ⟨by decide, by decide⟩⟩
              · rw [List.mem_singleton.1 h]
                exact ⟨⟨by show -9223372036854775808 ≤ (12 : Int); decide, by show (12 : Int) ≤ 9223372036854775807; decide⟩, ⟨by show -9223372036854775808 ≤ (n : Int); omega, by show (n : Int) ≤ 9223372036854775807; omega⟩, ⟨by show -9223372036854775808 ≤ (0 : Int); decide, by show (0 : Int) ≤ 9223372036854775807; decide⟩⟩
            · rw [endF_mem _ x h]
              exact ⟨⟨by decide, by decide⟩, ⟨by decide, by decide⟩, ⟨by decide, by decide⟩⟩) (by rw [hlen]; omega)
          have hlm : ((brF i n (i + 1)).map insOf).length = i + 1 + (i + 1) := by rw [List.length_map, hlen]
          obtain ⟨W2, hW2⟩ : ∃ W, W = (wr.alloc (.cells #[.string ⟨#[]⟩, .string ⟨#[]⟩] 51)).alloc (.cells #[.slice (some ⟨wr.heap.size, 0, none⟩) 1 1, .slice none 0 0, .slice none 0 0, .slice none 0 0, .slice none 0 0, .int .i64 (-1), .slice none 0 0] 31) := ⟨_, rfl⟩
          have hB2 : Below wr.heap.size wr W2 := by rw [hW2]; exact ((Below.refl _ _).alloc (Nat.le_refl _) _).alloc (by simp only [push_size7]; omega) _
          have k1 : W2.heap[wr.heap.size]? = some (.cells #[.string ⟨#[]⟩, .string ⟨#[]⟩] 51) := by rw [hW2]; simp only [push7, push_size7]; rw [if_neg (by omega), if_pos trivial]
          have hL2 : Laid W2 := (hLaid.below (hba.trans ((hbr.mono hba.size).trans (hB2.mono (Nat.le_trans hba.size hsz)))))
          have hm2 : ModAt W2 (alMod (some ⟨wr.heap.size, 0, none⟩) none 0 []) := alMod_at k1 RowsAt.nil (fun t ht => by cases ht) (Nat.zero_le _)
          have hf2 : FnAt W2 (blF vp2 vc2 (brF i n (i + 1))) := ⟨hm.below hB2 (Nat.le_refl _), by show (0 : Nat) ≤ _; exact Nat.zero_le _, by show inI64 0; exact ⟨by decide, by decide⟩⟩
          have cf := v_func W2 hL2 _ hm2 _ hf2 (by show ((brF i n (i + 1)).map insOf).length ≤ _; rw [hlm]; omega)
          unfold brF at cf
          rw [labels_ans _ _ _ i n hk1 hn1, show opF i ++ [(⟨12, n, 0⟩ : PI)] ++ endF (i + 1) = brF i n (i + 1) from rfl] at cf
          obtain ⟨r, hr⟩ : ∃ r : Int, (if n ≤ i then (0 : Int) else 4) = r := ⟨_, rfl⟩
          rw [hr] at cf
          have HR := Lib.hid hr
          clear hr
          unfold MoV.val alMod FnV.val blF at cf
          simp only [hlm, List.length_cons, List.length_nil, Nat.zero_add] at cf
          have hBw : Below w.heap.size w W2 := hba.trans ((hbr.mono hba.size).trans (hB2.mono (Nat.le_trans hba.size hsz)))
          clear hm hf2 hm2 hown hlen hlm k1 hL2 hLaid
          go_wp2_with fail
          rw [← hW2]
          clear hW2
          refine cf.mono ?_
          rintro e w3 ⟨rfl, hb3⟩
          clear cf
          have hB3 := hBw.trans (hb3.mono hBw.size)
          have hr := HR.out
          by_cases hle : n ≤ i
          · rw [if_pos hle] at hr
            subst hr
            clear HR
            go_wp2
            go_ret
            exact ⟨rfl, hB3⟩
          · rw [if_neg hle] at hr
            subst hr
            clear HR
            go_wp2
            go_ret
            exact ⟨rfl, hB3⟩
end Go.Proofs.YtomffpibdinkaaaGreatDoor
