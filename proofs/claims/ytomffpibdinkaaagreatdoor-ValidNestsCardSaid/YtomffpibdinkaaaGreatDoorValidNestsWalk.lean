/-
  As many blocks as may be in one another may be; one more is too deep: walked. A contract that the proofs call.
-/
import Derived.Test.YtomffpibdinkaaaGreatDoorValCodes
namespace Go.Proofs.YtomffpibdinkaaaGreatDoor
open Go.RowKit Go.Maps
set_option linter.unusedVariables false
set_option linter.unusedSimpArgs false

theorem snoc_own {w : World} {B : Nat} {v : Value} {n : Nat} {c : List PI} {x : PI} (h : w.ownsRow B 38 4 v (n + 1) (codeCells c ++ x.cells)) : w.ownsRow B 38 4 v (n + 1) (codeCells (c ++ [x])) := by
  rw [codeCells_snoc]
  exact h
set_option maxRecDepth 100000 in
set_option maxHeartbeats 8000000 in
theorem validNests_walk (a0 : Int) (h0 : 0 ≤ a0 ∧ a0 ≤ 65535) (w : World) (hLaid : Laid w) :
    Calls Tryz.prog 5 #[.int .u16 a0] w fun e w' => e = .returned (.bool true) ∧ Below w.heap.size w w' := by
  obtain ⟨q0, q1⟩ := h0
  obtain ⟨k, hk, hk1⟩ : ∃ k : Nat, a0 % 301 = (k : Int) ∧ k ≤ 300 := ⟨(a0 % 301).toNat, by omega, by omega⟩
  obtain ⟨i0, hi, hz0, hz1, hz2⟩ := info_parts instr_info
  have hh := examples7 w hLaid
  go_enter Tryz.func5, Tryz.ntmps5
  go_wp2_with (go_at_call 9; (with_reducible refine hh.mono ?_); rintro e wa ⟨rfl, hba⟩)
  clear hh
  rw [hk]
  go_loopw [5, 6] (fun v x wr => ∃ i : Nat, i ≤ k ∧ x = .int .i64 i ∧ wr.ownsRow wa.heap.size 38 4 v i (codeCells (opF i)) ∧ Below wa.heap.size wa wr) (fun _ x _ => (k - (intOf x).toNat))
  case atStart => exact ⟨0, Nat.zero_le _, rfl, World.ownsRow_nil _ _ _ _, Below.refl _ _⟩
  case round =>
    obtain ⟨i, hik, rfl, hown, hbr⟩ := hrel
    have hsz := hbr.size
    by_cases hlt : i < k
    · go_wp2_with (at_builtin; refine wpList_append_own_at _ rfl (.tmp 21) (.tmp 26) 33 rfl wa.heap.size 38 i0 (.agg #[.int .i64 0, .int .i64 0, .int .i64 0, .slice none 0 0]) 4 48 Tryz.underlying33 hi hz0 hz1 hz2 rfl (by decide) _ i _ rfl (hown.alloc _) ⟨wr.heap.size, 0, none⟩ 1 1 (PI.cells ⟨2 + (i : Int) % 2, 64, 0⟩) rfl rfl (cells_new wr (PI.cells ⟨2 + (i : Int) % 2, 64, 0⟩) 38) (by intro u hu; simp [PI.cells] at hu; rcases hu with rfl | rfl | rfl | rfl <;> rfl) (by unfold maxLen; omega) (by omega) (by simp; omega) ?_)
      intro v1 x1 hown1 hgrow _ _
      have hb1 := (hbr.alloc hsz _).grown hgrow (by simp; omega) (fun q hq => (hown.lt q hq).1)
      have hown2 := snoc_own hown1
      obtain ⟨vp1, vc1, rfl⟩ := own_any hown1
      clear hgrow hown1 hown
      go_wp2
      go_roundw
      case rel => exact ⟨i + 1, by omega, by go_num, hown2, hb1⟩
      case measure => simp [intOf]; omega
    · have e : i = k := by omega
      subst e
      obtain ⟨vp, vc, rfl⟩ := own_any hown
      go_wp2
      go_loopw [5, 7] (fun v x wr => ∃ j : Nat, j ≤ i + 1 ∧ x = .int .i64 j ∧ wr.ownsRow wa.heap.size 38 4 v (i + j) (codeCells (opF i ++ endF j)) ∧ Below wa.heap.size wa wr) (fun _ x _ => (i + 1 - (intOf x).toNat))
      case atStart => exact ⟨0, Nat.zero_le _, rfl, by rw [endF, List.append_nil]; exact hown, hbr⟩
      case round =>
        clear hown hbr hsz
        obtain ⟨j, hjk, rfl, hown, hbr⟩ := hrel
        have hsz := hbr.size
        by_cases hlt2 : j < i + 1
        · go_wp2_with (at_builtin; refine wpList_append_own_at _ rfl (.tmp 34) (.tmp 36) 33 rfl wa.heap.size 38 i0 (.agg #[.int .i64 0, .int .i64 0, .int .i64 0, .slice none 0 0]) 4 48 Tryz.underlying33 hi hz0 hz1 hz2 rfl (by decide) _ (i + j) _ rfl (hown.alloc _) ⟨wr.heap.size, 0, none⟩ 1 1 (PI.cells ⟨11, 0, 0⟩) rfl rfl (cells_new wr (PI.cells ⟨11, 0, 0⟩) 38) (by intro u hu; simp [PI.cells] at hu; rcases hu with rfl | rfl | rfl | rfl <;> rfl) (by unfold maxLen; omega) (by omega) (by simp; omega) ?_)
          intro v1 x1 hown1 hgrow _ _
          have hb1 := (hbr.alloc hsz _).grown hgrow (by simp; omega) (fun q hq => (hown.lt q hq).1)
          have hown2 := snoc_own hown1
          rw [List.append_assoc] at hown2
          obtain ⟨vp1, vc1, rfl⟩ := own_any hown1
          clear hgrow hown1 hown
          go_wp2
          go_roundw
          case rel => exact ⟨j + 1, by omega, by go_num, hown2, hb1⟩
          case measure => simp [intOf]; omega
        · have e : j = i + 1 := by omega
          subst e
          obtain ⟨vp2, vc2, rfl⟩ := own_any hown
          have hlen : (opF i ++ endF (i + 1)).length = i + (i + 1) := by rw [List.length_append, opF_len, endF_len]
          have hm := code_own (w := wr) (lo := wa.heap.size) (cap := vc2) (p := vp2) (code := opF i ++ endF (i + 1)) (by rw [hlen]; exact hown) (fun x hx => by
            rcases List.mem_append.1 hx with h | h
            · rcases opF_mem i x h with rfl | rfl
              · exact ⟨⟨by decide, by decide⟩, ⟨by decide, by decide⟩, ⟨by decide, by decide⟩⟩
              · exact ⟨⟨by decide, by decide⟩, ⟨by decide, by decide⟩, ⟨by decide, by decide⟩⟩
            · rw [endF_mem _ x h]
              exact ⟨⟨by decide, by decide⟩, ⟨by decide, by decide⟩, ⟨by decide, by decide⟩⟩) (by rw [hlen]; omega)
          have hlm : ((opF i ++ endF (i + 1)).map insOf).length = i + (i + 1) := by rw [List.length_map, hlen]
          obtain ⟨W2, hW2⟩ : ∃ W, W = (wr.alloc (.cells #[.string ⟨#[]⟩, .string ⟨#[]⟩] 51)).alloc (.cells #[.slice (some ⟨wr.heap.size, 0, none⟩) 1 1, .slice none 0 0, .slice none 0 0, .slice none 0 0, .slice none 0 0, .int .i64 (-1), .slice none 0 0] 31) := ⟨_, rfl⟩
          have hB2 : Below wr.heap.size wr W2 := by rw [hW2]; exact ((Below.refl _ _).alloc (Nat.le_refl _) _).alloc (by simp only [push_size7]; omega) _
          have k1 : W2.heap[wr.heap.size]? = some (.cells #[.string ⟨#[]⟩, .string ⟨#[]⟩] 51) := by rw [hW2]; simp only [push7, push_size7]; rw [if_neg (by omega), if_pos trivial]
          have hL2 : Laid W2 := (hLaid.below (hba.trans ((hbr.mono hba.size).trans (hB2.mono (Nat.le_trans hba.size hsz)))))
          have hm2 : ModAt W2 (alMod (some ⟨wr.heap.size, 0, none⟩) none 0 []) := alMod_at k1 RowsAt.nil (fun t ht => by cases ht) (Nat.zero_le _)
          have hf2 : FnAt W2 (blF vp2 vc2 (opF i ++ endF (i + 1))) := ⟨hm.below hB2 (Nat.le_refl _), by show (0 : Nat) ≤ _; exact Nat.zero_le _, by show inI64 0; exact ⟨by decide, by decide⟩⟩
          have cf := v_func W2 hL2 _ hm2 _ hf2 (by show ((opF i ++ endF (i + 1)).map insOf).length ≤ _; rw [hlm]; omega)
          rw [nests_ans] at cf
          obtain ⟨r, hr⟩ : ∃ r : Int, (if i ≤ 256 then (0 : Int) else 5) = r := ⟨_, rfl⟩
          rw [hr] at cf
          have HR := Lib.hid hr
          clear hr
          unfold MoV.val alMod FnV.val blF at cf
          simp only [hlm, List.length_cons, List.length_nil, Nat.zero_add] at cf
          have cn := fun W (hW : Below W2.heap.size W2 W) => v_nest W vp2 vc2 _ ((hm.below hB2 (Nat.le_refl _)).below hW (Nat.le_refl _)) (by rw [hlm]; omega)
          rw [ops_ins, nests_nest] at cn
          simp only [hlm] at cn
          have hBw : Below w.heap.size w W2 := hba.trans ((hbr.mono hba.size).trans (hB2.mono (Nat.le_trans hba.size hsz)))
          clear hm hf2 hm2 hown hlen hlm k1 hL2 hLaid
          go_wp2_with fail
          rw [← hW2]
          clear hW2
          refine cf.mono ?_
          rintro e w3 ⟨rfl, hb3⟩
          have cn3 := cn _ hb3
          clear cf cn
          have hB3 := hBw.trans (hb3.mono hBw.size)
          have hr := HR.out
          by_cases hle : i ≤ 256
          · rw [if_pos hle] at hr
            subst hr
            clear HR
            go_wp2_with (go_at_call 13; (with_reducible refine cn3.mono ?_); rintro e w4 ⟨rfl, hb4⟩)
            go_ret
            exact ⟨rfl, hB3.trans (hb4.mono hB3.size)⟩
          · rw [if_neg hle] at hr
            subst hr
            clear HR
            go_wp2_with (go_at_call 13; (with_reducible refine cn3.mono ?_); rintro e w4 ⟨rfl, hb4⟩)
            go_ret
            exact ⟨rfl, hB3.trans (hb4.mono hB3.size)⟩
end Go.Proofs.YtomffpibdinkaaaGreatDoor
