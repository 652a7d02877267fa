/-
  Package enc parts locals into runs: walked. A contract that the proofs call; no statement is proved here.
-/
import Derived.Test.YthfipknfdnfalaaGreatDoorKbEncPuts
namespace Go.Proofs.YthfipknfdnfalaaGreatDoor
set_option maxRecDepth 100000
set_option maxHeartbeats 16000000
open Go.RowKit
set_option linter.unusedVariables false
def snocRun : List (UInt8 × Nat) → UInt8 → List (UInt8 × Nat)
  | [], b => [(b, 1)]
  | [(c, k)], b => if c = b then [(c, k + 1)] else [(c, k), (b, 1)]
  | x :: y :: r, b => x :: snocRun (y :: r) b
def consRun (a : UInt8) : List (UInt8 × Nat) → List (UInt8 × Nat)
  | [] => [(a, 1)]
  | (c, k) :: r => if a = c then (c, k + 1) :: r else (a, 1) :: (c, k) :: r
theorem grp_consRun (a : UInt8) (l : List UInt8) : grp (a :: l) = consRun a (grp l) := by
  rw [grp_cons]
  cases grp l with
  | nil => rfl
  | cons x r => obtain ⟨c, k⟩ := x; rfl
theorem cons_snoc (a b : UInt8) : ∀ rs, consRun a (snocRun rs b) = snocRun (consRun a rs) b
  | [] => by
    by_cases h : a = b <;> simp [consRun, snocRun, h]
  | [(c, k)] => by
    by_cases h : c = b <;> by_cases h2 : a = c <;> simp [consRun, snocRun, h, h2] <;> (try (subst h; simp [snocRun, h2])) <;> (try (subst h2; simp [snocRun, h]))
  | (c, k) :: y :: r => by
    by_cases h2 : a = c <;> first | (simp [snocRun, h2]; done) | simp [consRun, snocRun, h2]
theorem grp_snoc (b : UInt8) : ∀ p : List UInt8, grp (p ++ [b]) = snocRun (grp p) b
  | [] => by simp [grp, snocRun]
  | a :: p => by rw [List.cons_append, grp_consRun, grp_snoc b p, cons_snoc, grp_consRun]
theorem snoc_new (b : UInt8) : ∀ (rs : List (UInt8 × Nat)) (_ : ∀ c k, rs.getLast? = some (c, k) → c ≠ b), snocRun rs b = rs ++ [(b, 1)]
  | [], _ => rfl
  | [(c, k)], h => by simp [snocRun, h c k rfl]
  | x :: y :: r, h => by
    rw [snocRun, snoc_new b (y :: r) (fun c k hk => h c k (by simpa using hk))]; rfl
theorem snoc_same (b : UInt8) (k : Nat) : ∀ rs : List (UInt8 × Nat), snocRun (rs ++ [(b, k)]) b = rs ++ [(b, k + 1)]
  | [] => by simp [snocRun]
  | [x] => by simp [snocRun]
  | x :: y :: r => by
    have := snoc_same b k (y :: r)
    simp only [List.cons_append] at this ⊢
    rw [snocRun, this]
theorem snoc_last (b : UInt8) : ∀ rs : List (UInt8 × Nat), ∃ r k, snocRun rs b = r ++ [(b, k)]
  | [] => ⟨[], 1, rfl⟩
  | [(c, k)] => by
    by_cases h : c = b
    · exact ⟨[], k + 1, by simp [snocRun, h]⟩
    · exact ⟨[(c, k)], 1, by simp [snocRun, h]⟩
  | x :: y :: r => by
    obtain ⟨r', k, h⟩ := snoc_last b (y :: r)
    exact ⟨x :: r', k, by rw [snocRun, h]; rfl⟩
theorem grp_last (b : UInt8) (p : List UInt8) : ∃ r k, grp (p ++ [b]) = r ++ [(b, k)] := by rw [grp_snoc]; exact snoc_last b _
theorem grp_many : ∀ (s : List UInt8) (x : UInt8 × Nat), x ∈ grp s → x.2 ≤ s.length
  | [], x, h => by simp [grp] at h
  | a :: l, x, h => by
    rw [grp_consRun] at h
    cases hg : grp l with
    | nil => rw [hg] at h; simp [consRun] at h; simp [h]
    | cons y r =>
      obtain ⟨c, k⟩ := y
      have ih := fun x hx => grp_many l x (by rw [hg]; exact hx)
      rw [hg] at h
      rw [show consRun a ((c, k) :: r) = if a = c then (c, k + 1) :: r else (a, 1) :: (c, k) :: r from rfl] at h
      split at h
      · rcases List.mem_cons.1 h with rfl | h
        · have := ih (c, k) (by simp); simp at this ⊢; omega
        · have := ih x (by simp [h]); simp; omega
      · rcases List.mem_cons.1 h with rfl | h
        · simp
        · have := ih x h; simp; omega
def runV (x : UInt8 × Nat) : RunV := ⟨x.2, x.1⟩
def runCells (rs : List (UInt8 × Nat)) : List Value := rs.flatMap fun x => (runV x).row
theorem runCells_snoc (rs : List (UInt8 × Nat)) (x : UInt8 × Nat) : runCells (rs ++ [x]) = runCells rs ++ (runV x).row := by simp [runCells]
theorem runCells_len (rs : List (UInt8 × Nat)) : (runCells rs).length = rs.length * 2 := by
  induction rs with
  | nil => rfl
  | cons x l ih => simp [runCells, runV, RunV.row] at ih ⊢; omega
theorem run_info : (Tryz.prog.info? 292).map (fun i => (i.zero, i.size, i.bytes)) = some (some (.agg #[.int .i64 0, .int .u8 0]), 2, 16) := by kernel_rfl
theorem runCells_set (rs : List (UInt8 × Nat)) (c : UInt8) (k : Nat) (u : Value) : (runCells (rs ++ [(c, k)])).set (rs.length * 2) u = runCells rs ++ [u, .int .u8 c.toNat] := by
  rw [runCells_snoc, List.set_append_right _ _ (by rw [runCells_len]; omega), runCells_len]
  simp [runV, RunV.row]
theorem own_some9 {w : World} {base : Nat} {e : TypeId} {size : Nat} {v : Value} {n : Nat} {xs : List Value} (h : w.ownsRow base e size v n xs) (hn : 0 < n) : ∃ g cap, v = .slice (some ⟨g, 0, none⟩) n cap ∧ base ≤ g := by
  rcases h.2 with ⟨_, h0⟩ | ⟨g, cap, cur, rfl, hb, _⟩
  · omega
  · exact ⟨g, cap, rfl, hb⟩
theorem own_drewN {w : World} {base : Nat} {e : TypeId} {size : Nat} {v : Value} {n : Nat} {xs : List Value} (h : w.ownsRow base e size v n xs) (q : Nat) : (w.drewN q).ownsRow base e size v n xs := h
theorem own_below9 {w : World} {base : Nat} {e : TypeId} {size : Nat} {v : Value} {n : Nat} {xs : List Value} (h : w.ownsRow base e size v n xs) (o : Obj) : (w.alloc o).ownsRow base e size v n xs := World.ownsRow.alloc h o
theorem run_one (b : UInt8) : ∀ u ∈ [Value.int .i64 0, .int .u8 b.toNat], u.oneCell' = true := by
  intro u hu; simp at hu; rcases hu with rfl | rfl <;> rfl
theorem run_new (w : World) (x y : Value) (t : TypeId) : ∀ j u, [x, y][j]? = some u → (w.alloc (.cells #[x, y] t)).cell? ((⟨w.heap.size, 0, none⟩ : Addr).add j) = some u := by
  intro j u hj
  have hadd : (⟨w.heap.size, 0, none⟩ : Addr).add j = ⟨w.heap.size, j, none⟩ := by unfold Addr.add; split <;> simp_all
  rw [hadd, World.cell?_alloc_new]
  simpa using hj
theorem bump {W : World} {base g cap N : Nat} {r0 : List (UInt8 × Nat)} {c : UInt8} {m : Nat} (h : W.ownsRow base 292 2 (.slice (some ⟨g, 0, none⟩) N cap) (r0 ++ [(c, m)]).length (runCells (r0 ++ [(c, m)]))) :
    (W.setCell ⟨g, r0.length * 2, none⟩ (.int .i64 ((m : Int) + 1))).ownsRow base 292 2 (.slice (some ⟨g, 0, none⟩) N cap) (r0 ++ [(c, m + 1)]).length (runCells (r0 ++ [(c, m + 1)])) ∧ W.grownBy (W.setCell ⟨g, r0.length * 2, none⟩ (.int .i64 ((m : Int) + 1))) (some g) := by
  have hN : (r0 ++ [(c, m)]).length = N := by
    rcases h.2 with ⟨h0, _⟩ | ⟨g', cap', cur, he, _⟩
    · cases h0
    · injection he with _ h1 _; exact h1.symm
  rw [hN] at h
  have h2 := World.ownsRow.stored h (r0.length * 2) (.int .i64 ((m : Int) + 1))
  rw [runCells_set] at h2
  have e : runCells (r0 ++ [(c, m + 1)]) = runCells r0 ++ [.int .i64 ((m : Int) + 1), .int .u8 c.toNat] := by rw [runCells_snoc]; simp [runV, RunV.row]
  have hN2 : (r0 ++ [(c, m + 1)]).length = N := by rw [← hN]; simp
  rw [e, hN2]
  exact h2
theorem run_cell {W : World} {base g cap N : Nat} {r0 : List (UInt8 × Nat)} {c : UInt8} {m : Nat} (h : W.ownsRow base 292 2 (.slice (some ⟨g, 0, none⟩) N cap) (r0 ++ [(c, m)]).length (runCells (r0 ++ [(c, m)]))) :
    N = r0.length + 1 ∧ W.cell? ⟨g, r0.length * 2, none⟩ = some (.int .i64 m) ∧ W.frozen? ⟨g, r0.length * 2, none⟩ = false := by
  have hN : (r0 ++ [(c, m)]).length = N := by
    rcases h.2 with ⟨h0, _⟩ | ⟨g', cap', cur, he, _⟩
    · cases h0
    · injection he with _ h1 _; exact h1.symm
  rw [hN] at h
  refine ⟨by rw [← hN]; simp, ?_, h.frozenAt _⟩
  rw [h.cellAt _ (by rw [← hN, List.length_append, List.length_singleton]; omega), runCells_snoc, List.getElem?_append_right (by rw [runCells_len]; omega), runCells_len]
  simp [runV, RunV.row]
theorem app_new {W : World} {base : Nat} {v : Value} {rs : List (UInt8 × Nat)} {c : UInt8} {nn : Nat} (h5 : W.ownsRow base 292 2 v (nn + 1) (runCells rs ++ [.int .i64 0, .int .u8 c.toNat])) (hnn : nn = rs.length) (hl : nn ≤ 5000) :
    ∃ g cap N, v = .slice (some ⟨g, 0, none⟩) N cap ∧ base ≤ g ∧ nn < N ∧ (N : Int) ≤ 5001 ∧ IntKind.i64.wrap ((N : Int) - 1) = (nn : Int) ∧ (W.cell? ⟨g, nn * 2, none⟩ = some (.int .i64 0) ∧ W.frozen? ⟨g, nn * 2, none⟩ = false) ∧
      Hid ((W.setCell ⟨g, nn * 2, none⟩ (.int .i64 1)).ownsRow base 292 2 (.slice (some ⟨g, 0, none⟩) N cap) (rs ++ [(c, 0 + 1)]).length (runCells (rs ++ [(c, 0 + 1)])) ∧ W.grownBy (W.setCell ⟨g, nn * 2, none⟩ (.int .i64 1)) (some g)) := by
  subst hnn
  have h6 : W.ownsRow base 292 2 v (rs ++ [(c, 0)]).length (runCells (rs ++ [(c, 0)])) := by
    rw [runCells_snoc, List.length_append]
    exact h5
  obtain ⟨g, cap, rfl, hg⟩ := own_some9 h6 (by simp)
  obtain ⟨hN, e0, f0⟩ := run_cell h6
  have h7 := bump h6
  exact ⟨g, cap, _, rfl, hg, by omega, by omega, by rw [IntKind.wrap_i64]; omega, ⟨e0, f0⟩, Lib.hid h7⟩
theorem below_app {w wr w5 : World} {q : Nat} {e : TypeId} {size n : Nat} {xs : List Value} {v : Value} {o : Obj} (hB : Below w.heap.size w wr) (hown : wr.ownsRow w.heap.size e size v n xs) (hg : ((wr.drewN q).alloc o).grownBy w5 v.ownBlock) : Below w.heap.size w w5 ∧ w.heap.size ≤ w5.heap.size := by
  have hd : Below w.heap.size w (wr.drewN q) := ⟨hB.os, hB.tape, hB.output, hB.size, hB.block⟩
  have h := (hd.alloc hd.size o).grown hg (Nat.le_trans hd.size ((Below.refl (wr.drewN q).heap.size (wr.drewN q)).alloc (Nat.le_refl _) o).size) (fun g hgg => (World.ownsRow.lt hown g hgg).1)
  exact ⟨h, h.size⟩
theorem take_snoc9 (s : ByteArray) (k : Nat) (h : k < s.size) : s.data.toList.take (k + 1) = s.data.toList.take k ++ [s[k]] := by
  rw [List.take_succ_eq_append_getElem (by rw [show s.data.toList.length = s.size from Array.length_toList]; exact h)]; rfl
theorem enc_runs (s : ByteArray) (hs : s.size ≤ 4096) (w : World) :
    Calls Tryz.prog 243 #[.string s] w fun e w' => (∃ v, e = .returned v ∧ w'.ownsRow w.heap.size 292 2 v (grp s.data.toList).length (runCells (grp s.data.toList))) ∧ Below w.heap.size w w' := by
  obtain ⟨i0, hi, hz0, hz1, hz2⟩ := info_parts run_info
  obtain ⟨l, hl⟩ : ∃ l, l = s.data.toList := ⟨_, rfl⟩
  rw [← hl]
  have HL := Lib.hid hl
  clear hl
  go_enter Tryz.func243, Tryz.ntmps243
  go_wp2
  go_loopw [3, 7] (fun v i wr => ∃ (k : Nat) (rs : List (UInt8 × Nat)), k ≤ s.size ∧ i = .int .i64 k ∧ wr.ownsRow w.heap.size 292 2 v rs.length (runCells rs) ∧ Hid (grp (l.take k) = rs) ∧ rs.length ≤ k ∧ Below w.heap.size w wr) (fun _ i _ => s.size - (intOf i).toNat)
  case atStart => exact ⟨0, [], by omega, rfl, World.ownsRow_nil w _ _ 2, Lib.hid (by simp [grp]), by simp, Below.refl _ _⟩
  case round =>
    obtain ⟨k, rs, hk, rfl, hown, HR, hrl, hB⟩ := hrel
    have hsz := hB.size
    by_cases hlt : k < s.size
    · have hbk : s[k].toNat < 256 := UInt8.toNat_lt _
      have HT : Hid (l.take (k + 1) = l.take k ++ [s[k]]) := Lib.hid (by rw [HL.out]; exact take_snoc9 s k hlt)
      by_cases h0 : k = 0
      · subst h0
        have hrs : rs = [] := by rw [← HR.out]; simp [grp]
        subst hrs
        have hlt0 : 0 < s.size := hlt
        have HNX : Hid (grp (l.take (0 + 1)) = [] ++ [(s[0], 0 + 1)]) := Lib.hid (by rw [HT.out, grp_snoc, HR.out]; rfl)
        have nn0 : (0 : Nat) = ([] : List (UInt8 × Nat)).length := rfl
        have HNN := Lib.hid nn0
        have HO := Lib.hid hown
        have hz9 : ∀ q o, w.heap.size ≤ ((wr.drewN q).alloc o).heap.size := fun q o => Nat.le_trans hsz ((Below.refl (wr.drewN q).heap.size (wr.drewN q)).alloc (Nat.le_refl _) o).size
        clear hown nn0
        go_wp2
        go_quiet (fail)
        go_wp2_with (at_builtin; refine wpList_append_own_at _ rfl (.tmp 22) (.tmp 27) 293 rfl w.heap.size 292 i0 (.agg #[.int .i64 0, .int .u8 0]) 2 16 Tryz.underlying293 hi hz0 hz1 hz2 rfl (by decide) _ 0 _ rfl (own_below9 (own_drewN HO.out nq) _) ⟨wr.heap.size, 0, none⟩ 1 1 [.int .i64 0, .int .u8 s[0].toNat] rfl rfl (run_new (wr.drewN nq) _ _ _) (run_one _) (by unfold maxLen; omega) (by omega) (hz9 _ _) ?_; intro v5 w5 h5 g5 _ _; have BB := below_app hB HO.out g5; obtain ⟨g, cap, N, rfl, hg, hnN, hN5, hw2, ⟨e0, f0⟩, HF⟩ := app_new h5 HNN.out (by omega); clear h5 g5)
        go_roundw
        case rel =>
          refine ⟨0 + 1, [] ++ [(s[0], 0 + 1)], by omega, by simp, HF.out.1, HNX, by have := HNN.out; rw [List.length_append, List.length_singleton]; omega, ?_⟩
          exact BB.1.grown HF.out.2 BB.2 (fun x hx => by injection hx with hx; omega)
        case measure => simp [intOf]; omega
      · have h00 : ((k : Int) == 0) = false := beq_eq_false_iff_ne.2 (by omega)
        obtain ⟨j, hj⟩ : ∃ j, k = j + 1 := ⟨k - 1, by omega⟩
        have hw1 : IntKind.i64.wrap ((k : Int) - 1) = (j : Int) := by rw [IntKind.wrap_i64]; omega
        have hlt2 : j < s.size := by omega
        have hbj : s[j].toNat < 256 := UInt8.toNat_lt _
        have HJ : Hid (l.take k = l.take j ++ [s[j]]) := Lib.hid (by rw [hj, HL.out]; exact take_snoc9 s j hlt2)
        obtain ⟨r0, m, hr0⟩ := grp_last s[j] (l.take j)
        rw [← HJ.out, HR.out] at hr0
        have HM : Hid (m ≤ 4096) := Lib.hid (by
          have := grp_many (l.take k) (s[j], m) (by rw [HR.out, hr0]; simp)
          simp at this; omega)
        clear hj
        by_cases he : s[k] = s[j]
        · have hee : ((s[k].toNat : Int) != (s[j].toNat : Int)) = false := by rw [he]; simp
          have HNX : Hid (grp (l.take (k + 1)) = r0 ++ [(s[j], m + 1)]) := Lib.hid (by rw [HT.out, grp_snoc, HR.out, hr0, he, snoc_same])
          subst hr0
          have hm9 : m ≤ 4096 := HM.out
          obtain ⟨g, cap, rfl, hg⟩ := own_some9 hown (by simp)
          obtain ⟨hN, e0, f0⟩ := run_cell hown
          have HO := Lib.hid hown
          have hr1 : r0.length + 1 ≤ k := by simpa using hrl
          obtain ⟨N, hN2⟩ : ∃ N, (r0 ++ [(s[j], m)]).length = N := ⟨_, rfl⟩
          rw [hN2] at hN ⊢
          have hw2 : IntKind.i64.wrap ((N : Int) - 1) = (r0.length : Int) := by rw [IntKind.wrap_i64]; omega
          have hNN : r0.length < N := by omega
          obtain ⟨nn, hnn⟩ : ∃ nn, nn = r0.length := ⟨_, rfl⟩
          have HNN := Lib.hid hnn
          have HN2 := Lib.hid hN2
          rw [← hnn] at hw2 hNN e0 f0
          clear he hown hN2 hnn hN hrl
          have e1 := fun q => (show (wr.drewN q).cell? ⟨g, nn * 2, none⟩ = some (.int .i64 m) from e0)
          have f1 := fun q => (show (wr.drewN q).frozen? ⟨g, nn * 2, none⟩ = false from f0)
          clear e0 f0
          go_wp2
          go_quiet (fail)
          go_wp2
          go_roundw
          case rel =>
            refine ⟨k + 1, r0 ++ [(s[j], m + 1)], by omega, by simp, ?_, HNX, by simp; omega, ?_⟩
            · have h9 := (bump (own_drewN HO.out nq)).1
              rw [HN2.out] at h9
              rw [HNN.out]
              exact h9
            · have h9 := (bump (own_drewN HO.out nq)).2
              have hb9 : Below w.heap.size w (wr.drewN nq) := ⟨hB.os, hB.tape, hB.output, hB.size, hB.block⟩
              have h8 := hb9.grown h9 hsz (fun x hx => by injection hx with hx; omega)
              rw [HNN.out]
              exact h8
          case measure => simp [intOf]; omega
        · have hee : ((s[k].toNat : Int) != (s[j].toNat : Int)) = true := by rw [bne_iff_ne]; intro h; exact he (UInt8.toNat_inj.1 (by omega))
          have HNX : Hid (grp (l.take (k + 1)) = rs ++ [(s[k], 0 + 1)]) := Lib.hid (by rw [HT.out, grp_snoc, HR.out]; exact snoc_new _ _ (fun c q hc => by rw [hr0, List.getLast?_concat] at hc; injection hc with hc; injection hc with hc _; rw [← hc]; exact fun h => he h.symm))
          clear he hr0
          obtain ⟨nn, hnn⟩ : ∃ nn, nn = rs.length := ⟨_, rfl⟩
          have HNN := Lib.hid hnn
          rw [← hnn] at hown hrl
          have HO := Lib.hid hown
          have hz9 : ∀ q o, w.heap.size ≤ ((wr.drewN q).alloc o).heap.size := fun q o => Nat.le_trans hsz ((Below.refl (wr.drewN q).heap.size (wr.drewN q)).alloc (Nat.le_refl _) o).size
          clear hown hnn
          go_wp2
          go_quiet (fail)
          go_wp2_with (at_builtin; refine wpList_append_own_at _ rfl (.tmp 22) (.tmp 27) 293 rfl w.heap.size 292 i0 (.agg #[.int .i64 0, .int .u8 0]) 2 16 Tryz.underlying293 hi hz0 hz1 hz2 rfl (by decide) _ nn _ rfl (own_below9 (own_drewN HO.out nq) _) ⟨wr.heap.size, 0, none⟩ 1 1 [.int .i64 0, .int .u8 s[k].toNat] rfl rfl (run_new (wr.drewN nq) _ _ _) (run_one _) (by unfold maxLen; omega) (by omega) (hz9 _ _) ?_; intro v5 w5 h5 g5 _ _; have BB := below_app hB HO.out g5; obtain ⟨g, cap, N, rfl, hg, hnN, hN5, hw2, ⟨e0, f0⟩, HF⟩ := app_new h5 HNN.out (by omega); clear h5 g5)
          go_roundw
          case rel =>
            refine ⟨k + 1, rs ++ [(s[k], 0 + 1)], by omega, by simp, HF.out.1, HNX, by have := HNN.out; rw [List.length_append, List.length_singleton]; omega, ?_⟩
            exact BB.1.grown HF.out.2 BB.2 (fun x hx => by injection hx with hx; omega)
          case measure => simp [intOf]; omega
    · obtain rfl : k = s.size := by omega
      have HF : Hid (grp l = rs) := Lib.hid (by rw [← HR.out, List.take_of_length_le (by rw [HL.out, show s.data.toList.length = s.size from Array.length_toList]; exact Nat.le_refl _)])
      go_wp2
      go_ret
      exact ⟨⟨_, rfl, by rw [HF.out]; exact hown⟩, hB⟩
end Go.Proofs.YthfipknfdnfalaaGreatDoor
