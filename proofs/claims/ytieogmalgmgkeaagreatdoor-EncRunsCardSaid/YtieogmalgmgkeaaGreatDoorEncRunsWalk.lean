/-
  The statement on runs of locals, walked. Only its frame proves it.
-/
import Derived.Test.YtieogmalgmgkeaaGreatDoorDrawInv
import Derived.Test.YtieogmalgmgkeaaGreatDoorModMadeAt
namespace Go.Proofs.YtieogmalgmgkeaaGreatDoor
open Go.RowKit
set_option linter.unusedVariables false

def endIns : InsV := ⟨11, 0, 0, none, 0, []⟩
def runM (H : Nat) (s : ByteArray) : MoV := ⟨some ⟨H, 0, none⟩, 1, [⟨⟨#[]⟩, ⟨#[]⟩⟩], some ⟨H + 2, 0, none⟩, 1, [⟨0, s, some ⟨H + 1, 0, none⟩, 1, [endIns]⟩], none, 0, [], none, 0, [], none, 0, [], -1, none, 0, []⟩
def runB (s : List UInt8) : List UInt8 := [0, 97, 115, 109, 1, 0, 0, 0] ++ [1, 4, 1, 96, 0, 0] ++ [3, 2, 1, 0] ++ (one5 10 ++ txt5 (putU 1 ++ txt5 (runs5 s ++ [11])))
theorem run_bytes (H : Nat) (s : ByteArray) : mod5 (runM H s) = runB s.data.toList := by
  have e1 : sect5 1 (0 + 1) (ty5 ⟨⟨#[]⟩, ⟨#[]⟩⟩) = [1, 4, 1, 96, 0, 0] := by decide +kernel
  have e2 : sect5 3 1 (putU 0) = [3, 2, 1, 0] := by decide +kernel
  have e3 : ins5 endIns = [11] := by decide +kernel
  unfold mod5 runM runB
  simp only [List.length_cons, List.length_nil, e1, List.flatMap_cons, List.flatMap_nil, List.append_nil, e2]
  have e4 : ∀ (id : Int) (l : List UInt8), sect5 id 0 l = [] := fun id l => if_pos rfl
  have e5 : start5 (-1) = [] := if_pos rfl
  have e6 : ∀ l : List UInt8, sect5 10 1 l = one5 10 ++ txt5 (putU 1 ++ l) := fun l => if_neg (by decide)
  simp only [e4, e5, List.append_nil, e6, code5, List.flatMap_cons, List.flatMap_nil, e3]
theorem run_right (H : Nat) (s : ByteArray) : rightMod (runM H s) = vtypes s.data.toList 4096 := by
  have e1 : [endIns].all rightIns = true := by decide +kernel
  have e2 : runs (opsOf [endIns]) [] = true := by decide +kernel
  have e3 : rightTy ⟨⟨#[]⟩, ⟨#[]⟩⟩ = true := by decide +kernel
  have hf : fewMod (runM H s) := by unfold fewMod runM; simp
  unfold rightMod
  rw [decide_eq_true hf]
  unfold runM
  simp only [List.all_cons, List.all_nil, Bool.and_true, Bool.true_and, e3]
  unfold rightFn
  simp only [e1, e2, Bool.true_and, Bool.and_true]
  rw [show word4 0 = true by decide, Bool.true_and]
def runN (s : List UInt8) : Int := if vtypes s 4096 then (if 1048576 < (runB s).length then 0 else (runB s).length) else 0
theorem putU_one {n : Int} (h0 : 0 ≤ n) (h1 : n < 128) : (putU n).length = 1 := by
  have h := (putU_len n h0 0).2 (by omega)
  have := List.length_pos_iff.2 (putU_ne n)
  omega
theorem txt5_one {s : List UInt8} (h : s.length < 128) : (txt5 s).length = 1 + s.length := by
  unfold txt5
  rw [List.length_append, putU_one (by omega) (by omega)]
theorem runB_len {s : List UInt8} (h : (grp s).length ≤ 3) (hc : ∀ x ∈ grp s, x.2 ≤ 100) : (runB s).length = 24 + 2 * (grp s).length := by
  have h1 : (runs5 s).length = 1 + 2 * (grp s).length := by
    unfold runs5
    rw [List.length_append, putU_one (by omega) (by omega)]
    have : ∀ l : List (UInt8 × Nat), (∀ x ∈ l, x.2 ≤ 100) → (l.flatMap fun x => putU x.2 ++ [x.1]).length = 2 * l.length := by
      intro l
      induction l with
      | nil => intro _; rfl
      | cons x r ih =>
        intro hx
        rw [List.flatMap_cons, List.length_append, ih fun y hy => hx y (by simp [hy]), List.length_append, putU_one (by omega) (by have := hx x (by simp); omega)]
        simp
        omega
    rw [this _ hc]
  unfold runB
  have h2 : (runs5 s ++ [11]).length = 2 + 2 * (grp s).length := by rw [List.length_append, h1]; simp; omega
  have h3 : (txt5 (runs5 s ++ [11])).length = 3 + 2 * (grp s).length := by rw [txt5_one (by omega), h2]; omega
  have h4 : (putU 1 ++ txt5 (runs5 s ++ [11])).length = 4 + 2 * (grp s).length := by rw [List.length_append, putU_one (by omega) (by omega), h3]; omega
  have h5 : (txt5 (putU 1 ++ txt5 (runs5 s ++ [11]))).length = 5 + 2 * (grp s).length := by rw [txt5_one (by omega), h4]; omega
  simp only [List.length_append, h5, one5_len, List.length_cons, List.length_nil]
  omega
theorem runN_of {s : List UInt8} (hv : vtypes s 4096 = true) (h : (grp s).length ≤ 3) (hc : ∀ x ∈ grp s, x.2 ≤ 100) : runN s = 24 + 2 * (grp s).length := by
  have := runB_len h hc
  unfold runN
  rw [if_pos hv, if_neg (by omega), this]
  omega

theorem run_at (w : World) (s : ByteArray) (hs : s.size ≤ maxLen) :
    ModAt (((w.alloc (.cells #[.string ⟨#[]⟩, .string ⟨#[]⟩] 51)).alloc (.cells #[.int .i64 11, .int .i64 0, .int .i64 0, .slice none 0 0] 33)).alloc (.cells #[.int .i64 0, .string s, .slice (some ⟨w.heap.size + 1, 0, none⟩) 1 1] 46)) (runM w.heap.size s) := by
  have k : ∀ (w : World) (o : Obj) (b : Nat) (q : Obj), w.heap[b]? = some q → (w.alloc o).heap[b]? = some q := fun w o b q h => by rw [Below.heap_alloc w o b (heap_in h)]; exact h
  have nw : ∀ (w : World) (o : Obj) (b : Nat), w.heap.size = b → (w.alloc o).heap[b]? = some o := fun w o b h => by subst h; exact heap_alloc_new w o
  exact {
    types := rows_block (k _ _ _ _ (k _ _ _ _ (nw _ _ _ rfl))) rfl (fun x _ => rfl)
    typesIn := fun x hx => by rw [List.mem_singleton.1 hx]; exact ⟨by decide, by decide⟩
    typesMost := by show 1 ≤ mostThings; decide
    funcs := rows_block (nw _ _ _ (by simp)) (by simp [runM, FnV.row, endIns]) (fun x _ => rfl)
    funcsIn := fun x hx => by
      rw [List.mem_singleton.1 hx]
      refine ⟨⟨rows_block (k _ _ _ _ (nw _ _ _ (by simp))) rfl (fun x _ => rfl), fun y hy => ?_, by simp⟩, hs, (⟨by decide, by decide⟩ : inI64 0)⟩
      rw [List.mem_singleton.1 hy]
      exact ⟨fun j hj => absurd hj (by simp [endIns]), by simp [endIns], ⟨by decide, by decide⟩, ⟨by decide, by decide⟩, ⟨by decide, by decide⟩, fun n hn => by cases hn⟩
    funcsMost := by show 1 ≤ mostThings; decide
    memory := RowsAt.nil
    memoryIn := fun x hx => by cases hx
    memoryMost := by simp [runM]
    globals := RowsAt.nil
    globalsIn := fun x hx => by cases hx
    globalsMost := by simp [runM]
    exports := RowsAt.nil
    exportsIn := fun x hx => by cases hx
    exportsMost := by simp [runM]
    startIn := (⟨by decide, by decide⟩ : inI64 (-1))
    data := RowsAt.nil
    dataIn := fun x hx => by cases hx
    dataMost := by simp [runM] }

set_option maxRecDepth 100000 in
set_option maxHeartbeats 4000000 in
theorem size_of (s : ByteArray) (hs : s.size ≤ maxLen) (w : World) (hL : Laid w) :
    Calls Tryz.prog 13 #[.string s] w fun e w' => e = .returned (.int .i64 (runN s.data.toList)) ∧ Below w.heap.size w w' := by
  have cM : ∀ (o1 o2 o3 : Obj), o1 = .cells #[.string ⟨#[]⟩, .string ⟨#[]⟩] 51 → o2 = .cells #[.int .i64 11, .int .i64 0, .int .i64 0, .slice none 0 0] 33 → o3 = .cells #[.int .i64 0, .string s, .slice (some ⟨w.heap.size + 1, 0, none⟩) 1 1] 46 →
      Calls Tryz.prog 9 #[.agg #[.slice (some ⟨w.heap.size, 0, none⟩) 1 1, .slice (some ⟨w.heap.size + 2, 0, none⟩) 1 1, .slice none 0 0, .slice none 0 0, .slice none 0 0, .int .i64 (-1), .slice none 0 0]] (((w.alloc o1).alloc o2).alloc o3) fun e w' => e = .returned (.tuple #[.string (bs (ans5 (runM w.heap.size s)).1), .int .i64 (ans5 (runM w.heap.size s)).2]) ∧ Below (((w.alloc o1).alloc o2).alloc o3).heap.size (((w.alloc o1).alloc o2).alloc o3) w' := fun o1 o2 o3 h1 h2 h3 => by
    subst h1 h2 h3
    exact enc_mod (runM w.heap.size s) _ (((hL.alloc _).alloc _).alloc _) (run_at w s hs)
  have hB : ∀ {o1 o2 o3 : Obj} {w' : World}, Below (((w.alloc o1).alloc o2).alloc o3).heap.size (((w.alloc o1).alloc o2).alloc o3) w' → Below w.heap.size w w' := fun h => ((((Below.refl _ w).alloc (Nat.le_refl _) _).alloc (by simp) _).alloc (by simp; omega) _).trans (h.mono (by simp; omega))
  have hans : ans5 (runM w.heap.size s) = if vtypes s.data.toList 4096 then (if 1048576 < (runB s.data.toList).length then ([], 5) else (runB s.data.toList, 0)) else ([], 1) := by
    unfold ans5
    rw [run_right, run_bytes]
  unfold runN
  generalize runB s.data.toList = Z at *
  generalize ans5 (runM w.heap.size s) = R at *
  cases hv : vtypes s.data.toList 4096 with
  | false =>
    rw [hv] at hans
    subst hans
    go_enter Tryz.func13, Tryz.ntmps13
    go_wp2_with (go_at_call 9; refine (cM _ _ _ rfl rfl rfl).mono ?_; rintro e w1 ⟨rfl, hb1⟩)
    go_ret
    exact ⟨rfl, hB hb1⟩
  | true =>
    rw [hv] at hans
    by_cases hz : 1048576 < Z.length
    · rw [if_pos hz] at hans ⊢
      subst hans
      go_enter Tryz.func13, Tryz.ntmps13
      go_wp2_with (go_at_call 9; refine (cM _ _ _ rfl rfl rfl).mono ?_; rintro e w1 ⟨rfl, hb1⟩)
      go_ret
      exact ⟨rfl, hB hb1⟩
    · rw [if_neg hz] at hans ⊢
      subst hans
      go_enter Tryz.func13, Tryz.ntmps13
      go_wp2_with (go_at_call 9; refine (cM _ _ _ rfl rfl rfl).mono ?_; rintro e w1 ⟨rfl, hb1⟩)
      go_ret
      exact ⟨by simp [bs_size], hB hb1⟩

theorem grp_one (b : UInt8) (k : Nat) : grp (List.replicate (k + 1) b) = [(b, k + 1)] := by
  have := grp_run b [] (fun c hc => by cases hc) k
  rwa [List.append_nil] at this
theorem grp_two (b c : UInt8) (hbc : b ≠ c) (k j : Nat) : grp (List.replicate (k + 1) b ++ List.replicate (j + 1) c) = [(b, k + 1), (c, j + 1)] := by
  rw [grp_run b _ (fun d hd => by rw [List.replicate_succ] at hd; injection hd with hd; subst hd; exact hbc) k, grp_one]
theorem grp_three (b c : UInt8) (hbc : b ≠ c) (k j i : Nat) : grp (List.replicate (k + 1) b ++ List.replicate (j + 1) c ++ List.replicate (i + 1) b) = [(b, k + 1), (c, j + 1), (b, i + 1)] := by
  rw [List.append_assoc, grp_run b _ (fun d hd => by rw [List.replicate_succ] at hd; injection hd with hd; subst hd; exact hbc) k, grp_two c b (fun e => hbc e.symm)]
theorem vtypes_rep {s : List UInt8} (h : ∀ b ∈ s, b = 127 ∨ b = 126) (hl : s.length ≤ 4096) : vtypes s 4096 = true := by
  unfold vtypes
  simp only [Bool.and_eq_true, decide_eq_true_eq]
  refine ⟨?_, by omega⟩
  first
    | exact List.all_eq_true.2 fun b hb => by rcases h b hb with rfl | rfl <;> decide
    | (intro b hb; rcases h b hb with rfl | rfl <;> decide)
theorem runN_0 : runN [] = 24 := by
  have := runN_of (s := []) (vtypes_rep (fun b hb => by cases hb) (by simp)) (by simp [grp]) (fun x hx => by simp [grp] at hx)
  rw [this]; rfl
theorem runN_1 {k : Nat} (hk : k ≤ 99) : runN (List.replicate (k + 1) 127) = 26 := by
  have hg := grp_one 127 k
  have := runN_of (s := List.replicate (k + 1) 127) (vtypes_rep (fun b hb => .inl (List.eq_of_mem_replicate hb)) (by simp; omega)) (by rw [hg]; simp) (fun x hx => by rw [hg] at hx; rw [List.mem_singleton.1 hx]; simp; omega)
  rw [this, hg]; rfl
theorem runN_2 {k j : Nat} (hk : k ≤ 99) (hj : j ≤ 99) : runN (List.replicate (k + 1) 127 ++ List.replicate (j + 1) 126) = 28 := by
  have hg := grp_two 127 126 (by decide) k j
  have := runN_of (s := List.replicate (k + 1) 127 ++ List.replicate (j + 1) 126) (vtypes_rep (fun b hb => by rcases List.mem_append.1 hb with h | h; exact .inl (List.eq_of_mem_replicate h); exact .inr (List.eq_of_mem_replicate h)) (by simp; omega)) (by rw [hg]; simp) (fun x hx => by rw [hg] at hx; simp at hx; rcases hx with rfl | rfl <;> simp <;> omega)
  rw [this, hg]; rfl
theorem runN_3 {k j i : Nat} (hk : k ≤ 99) (hj : j ≤ 99) (hi : i ≤ 99) : runN (List.replicate (k + 1) 127 ++ List.replicate (j + 1) 126 ++ List.replicate (i + 1) 127) = 30 := by
  have hg := grp_three 127 126 (by decide) k j i
  have := runN_of (s := List.replicate (k + 1) 127 ++ List.replicate (j + 1) 126 ++ List.replicate (i + 1) 127) (vtypes_rep (fun b hb => by
    rcases List.mem_append.1 hb with h | h
    · rcases List.mem_append.1 h with h | h
      · exact .inl (List.eq_of_mem_replicate h)
      · exact .inr (List.eq_of_mem_replicate h)
    · exact .inl (List.eq_of_mem_replicate h)) (by simp; omega)) (by rw [hg]; simp) (fun x hx => by rw [hg] at hx; simp at hx; rcases hx with rfl | rfl | rfl <;> simp <;> omega)
  rw [this, hg]; rfl
theorem runN_4 : runN [125] = 0 := by decide +kernel
theorem bs_nil : (⟨#[]⟩ : ByteArray) = bs [] := rfl
theorem bs_toList (l : List UInt8) : (bs l).data.toList = l := by simp [bs]

set_option maxRecDepth 100000 in
set_option maxHeartbeats 8000000 in
theorem encRuns_walk (a b c : Int) (ha : 0 ≤ a ∧ a < 256) (hb : 0 ≤ b ∧ b < 256) (hc : 0 ≤ c ∧ c < 256) (w : World) (hLaid : Laid w) :
    Calls Tryz.prog 5 #[.int .u8 a, .int .u8 b, .int .u8 c] w fun e w' => e = .returned (.bool true) ∧ Below w.heap.size w w' := by
  have cH := head5 w hLaid
  obtain ⟨ka, hka, hka2⟩ : ∃ r : Nat, a.tmod 100 = (r : Int) ∧ r ≤ 99 := ⟨(a % 100).toNat, by rw [Int.tmod_eq_emod_of_nonneg ha.1]; omega, by omega⟩
  obtain ⟨kb, hkb, hkb2⟩ : ∃ r : Nat, b.tmod 100 = (r : Int) ∧ r ≤ 99 := ⟨(b % 100).toNat, by rw [Int.tmod_eq_emod_of_nonneg hb.1]; omega, by omega⟩
  obtain ⟨kc, hkc, hkc2⟩ : ∃ r : Nat, c.tmod 100 = (r : Int) ∧ r ≤ 99 := ⟨(c % 100).toNat, by rw [Int.tmod_eq_emod_of_nonneg hc.1]; omega, by omega⟩
  go_enter Tryz.func5, Tryz.ntmps5
  go_wp2_with (go_at_call 7; (with_reducible refine cH.mono ?_); rintro e w1 ⟨rfl, hB1⟩)
  go_loopw [9, 10] (fun s i wr => ∃ k : Nat, k ≤ ka + 1 ∧ i = .int .i64 k ∧ s = .string (bs (List.replicate k 127)) ∧ w1 = wr) (fun _ i _ => ka + 1 - (intOf i).toNat)
  case atStart => exact ⟨0, by omega, rfl, rfl, rfl⟩
  case round =>
    obtain ⟨k, hk, rfl, rfl, rfl⟩ := hrel
    by_cases hlt : k < ka + 1
    · have h1 : (k : Int) < 1 + ka := by omega
      have hsz : ¬ 9223372036854775807 < (bs (List.replicate k 127)).size + 1 := by rw [bs_size, List.length_replicate]; omega
      go_wp2
      go_roundw
      case rel => exact ⟨k + 1, by omega, by go_num, congrArg Value.string (by rw [show (⟨#[127]⟩ : ByteArray) = bs [127] from rfl, bs_app, List.replicate_succ']), by first | rfl | trivial⟩
      case measure => simp [intOf]; omega
    · obtain rfl : k = ka + 1 := by omega
      have h1 : ¬ (((ka + 1 : Nat) : Int) < 1 + ka) := by omega
      go_wp2
      clear h1 hlt hk
      go_loopw [11, 12] (fun s i wr => ∃ k : Nat, k ≤ kb + 1 ∧ i = .int .i64 k ∧ s = .string (bs (List.replicate k 126)) ∧ w1 = wr) (fun _ i _ => kb + 1 - (intOf i).toNat)
      case atStart => exact ⟨0, by omega, rfl, rfl, rfl⟩
      case round =>
        obtain ⟨k, hk, rfl, rfl, rfl⟩ := hrel
        by_cases hlt : k < kb + 1
        · have h1 : (k : Int) < 1 + kb := by omega
          have hsz : ¬ 9223372036854775807 < (bs (List.replicate k 126)).size + 1 := by rw [bs_size, List.length_replicate]; omega
          go_wp2
          go_roundw
          case rel => exact ⟨k + 1, by omega, by go_num, congrArg Value.string (by rw [show (⟨#[126]⟩ : ByteArray) = bs [126] from rfl, bs_app, List.replicate_succ']), by first | rfl | trivial⟩
          case measure => simp [intOf]; omega
        · obtain rfl : k = kb + 1 := by omega
          have h1 : ¬ (((kb + 1 : Nat) : Int) < 1 + kb) := by omega
          go_wp2
          clear h1 hlt hk
          go_loopw [13, 14] (fun s i wr => ∃ k : Nat, k ≤ kc + 1 ∧ i = .int .i64 k ∧ s = .string (bs (List.replicate k 127)) ∧ w1 = wr) (fun _ i _ => kc + 1 - (intOf i).toNat)
          case atStart => exact ⟨0, by omega, rfl, rfl, rfl⟩
          case round =>
            obtain ⟨k, hk, rfl, rfl, rfl⟩ := hrel
            by_cases hlt : k < kc + 1
            · have h1 : (k : Int) < 1 + kc := by omega
              have hsz : ¬ 9223372036854775807 < (bs (List.replicate k 127)).size + 1 := by rw [bs_size, List.length_replicate]; omega
              go_wp2
              go_roundw
              case rel => exact ⟨k + 1, by omega, by go_num, congrArg Value.string (by rw [show (⟨#[127]⟩ : ByteArray) = bs [127] from rfl, bs_app, List.replicate_succ']), by first | rfl | trivial⟩
              case measure => simp [intOf]; omega
            · obtain rfl : k = kc + 1 := by omega
              have h1 : ¬ (((kc + 1 : Nat) : Int) < 1 + kc) := by omega
              have hx : (List.replicate (ka + 1) (127 : UInt8)).length ≤ 100 := by rw [List.length_replicate]; omega
              have hy : (List.replicate (kb + 1) (126 : UInt8)).length ≤ 100 := by rw [List.length_replicate]; omega
              have hz : (List.replicate (kc + 1) (127 : UInt8)).length ≤ 100 := by rw [List.length_replicate]; omega
              have r0 := runN_0
              have r1 := runN_1 hka2
              have r2 := runN_2 hka2 hkb2
              have r3 := runN_3 hka2 hkb2 hkc2
              generalize List.replicate (ka + 1) (127 : UInt8) = X at *
              generalize List.replicate (kb + 1) (126 : UInt8) = Y at *
              generalize List.replicate (kc + 1) (127 : UInt8) = Z at *
              have hL1 := hLaid.below hB1
              have c0 : ∀ W, Laid W → Calls Tryz.prog 13 #[.string ⟨#[]⟩] W fun e w' => e = .returned (.int .i64 24) ∧ Below W.heap.size W w' := fun W hW => by
                have := size_of ⟨#[]⟩ (by decide) W hW
                rwa [show (⟨#[]⟩ : ByteArray).data.toList = [] from rfl, r0] at this
              have c1 : ∀ W, Laid W → Calls Tryz.prog 13 #[.string (bs X)] W fun e w' => e = .returned (.int .i64 26) ∧ Below W.heap.size W w' := fun W hW => by
                have := size_of (bs X) (by rw [bs_size]; unfold maxLen; omega) W hW
                rwa [bs_toList, r1] at this
              have c2 : ∀ W, Laid W → Calls Tryz.prog 13 #[.string (bs X ++ bs Y)] W fun e w' => e = .returned (.int .i64 28) ∧ Below W.heap.size W w' := fun W hW => by
                have := size_of (bs X ++ bs Y) (by rw [bs_app, bs_size, List.length_append]; unfold maxLen; omega) W hW
                rwa [bs_app, bs_toList, r2, ← bs_app] at this
              have c3 : ∀ W, Laid W → Calls Tryz.prog 13 #[.string (bs X ++ bs Y ++ bs Z)] W fun e w' => e = .returned (.int .i64 30) ∧ Below W.heap.size W w' := fun W hW => by
                have := size_of (bs X ++ bs Y ++ bs Z) (by rw [bs_app, bs_app, bs_size, List.length_append, List.length_append]; unfold maxLen; omega) W hW
                rwa [bs_app, bs_app, bs_toList, r3, ← bs_app, ← bs_app] at this
              have c4 : ∀ W, Laid W → Calls Tryz.prog 13 #[.string ⟨#[125]⟩] W fun e w' => e = .returned (.int .i64 0) ∧ Below W.heap.size W w' := fun W hW => by
                have := size_of ⟨#[125]⟩ (by decide) W hW
                rwa [show (⟨#[125]⟩ : ByteArray).data.toList = [125] from rfl, runN_4] at this
              have s1 : ¬ 9223372036854775807 < (bs X).size + (bs Y).size := by rw [bs_size, bs_size]; omega
              have s2 : ¬ 9223372036854775807 < (bs X).size + (bs Y).size + (bs Z).size := by rw [bs_size, bs_size, bs_size]; omega
              clear r0 r1 r2 r3 hx hy hz
              go_wp2_with (first
                | (go_at_call 13; (with_reducible refine (c0 _ hL1).mono ?_); rintro e w2 ⟨rfl, hb2⟩; have hL2 := hL1.below hb2)
                | (go_at_call 13; (with_reducible refine (c1 _ hL2).mono ?_); rintro e w3 ⟨rfl, hb3⟩; have hL3 := hL2.below hb3)
                | (go_at_call 13; (with_reducible refine (c2 _ hL3).mono ?_); rintro e w4 ⟨rfl, hb4⟩; have hL4 := hL3.below hb4)
                | (go_at_call 13; (with_reducible refine (c3 _ hL4).mono ?_); rintro e w5 ⟨rfl, hb5⟩; have hL5 := hL4.below hb5)
                | (go_at_call 13; (with_reducible refine (c4 _ hL5).mono ?_); rintro e w6 ⟨rfl, hb6⟩))
              go_ret
              exact ⟨rfl, belt (belt (belt (belt (belt hB1 (Nat.le_refl _) hb2) (Nat.le_refl _) hb3) (Nat.le_refl _) hb4) (Nat.le_refl _) hb5) (Nat.le_refl _) hb6⟩
end Go.Proofs.YtieogmalgmgkeaaGreatDoor
