/-
  Package dec reads the things of a module's lists: walked. Contracts that the proofs call; no statement is proved here.
-/
import Derived.Test.YthfipknfdnfalaaGreatDoorKcDecInstr
import Derived.Test.YthfipknfdnfalaaGreatDoorKcDecShelf
namespace Go.Proofs.YthfipknfdnfalaaGreatDoor
set_option maxRecDepth 100000
set_option maxHeartbeats 16000000
open Go.RowKit
set_option linter.unusedVariables false
structure ResSt (w0 w : World) (B M : Nat) (T : TypeId) (rest : List Value) (Z : Array Value) (t : TypeId) (r : RV) (W : World) : Prop where
  rd : RdAt w0 B M T rest r W
  mov : Mov B M w W
  res : W.heap[w.heap.size]? = some (.cells Z t)
  n1 : w.heap.size ≠ B
  n2 : w.heap.size ≠ M
  hw : w0.heap.size ≤ w.heap.size
theorem ResSt.start {w0 w : World} {B M : Nat} {T : TypeId} {rest : List Value} {r : RV} (h : RdAt w0 B M T rest r w) (Z : Array Value) (t : TypeId) : ResSt w0 w B M T rest Z t r (w.alloc (.cells Z t)) := by
  have hl := h.lt
  exact ⟨h.alloc _, (Mov.refl _ _ _).alloc _, heap_alloc_new _ _, by omega, by omega, h.below.size⟩
theorem ResSt.call {w0 w : World} {B M : Nat} {T : TypeId} {rest : List Value} {Z : Array Value} {t : TypeId} {r r' : RV} {W W' : World} (h : ResSt w0 w B M T rest Z t r W) (m : Mov B M W W') (hr : RdAt w0 B M T rest r' W') : ResSt w0 w B M T rest Z t r' W' :=
  ⟨hr, h.mov.trans m, (m.block _ (in_heap6 h.res) h.n1 h.n2).trans h.res, h.n1, h.n2, h.hw⟩
theorem ResSt.alloc {w0 w : World} {B M : Nat} {T : TypeId} {rest : List Value} {Z : Array Value} {t : TypeId} {r : RV} {W : World} (h : ResSt w0 w B M T rest Z t r W) (o : Obj) : ResSt w0 w B M T rest Z t r (W.alloc o) := h.call ((Mov.refl _ _ _).alloc o) (h.rd.alloc o)
theorem ResSt.f2 {w0 w : World} {B M : Nat} {T : TypeId} {rest : List Value} {u0 u1 : Value} {t : TypeId} {r : RV} {W : World} (h : ResSt w0 w B M T rest #[u0, u1] t r W) :
    W.cell? ⟨w.heap.size, 0, none⟩ = some u0 ∧ W.cell? ⟨w.heap.size, 1, none⟩ = some u1 ∧ W.frozen? ⟨w.heap.size, 0, none⟩ = false ∧ W.frozen? ⟨w.heap.size, 1, none⟩ = false ∧ w.heap.size < W.heap.size := by
  have hb := h.res
  exact ⟨by simp [World.cell?, hb], by simp [World.cell?, hb], by simp [World.frozen?, hb], by simp [World.frozen?, hb], in_heap6 hb⟩
theorem ResSt.f3 {w0 w : World} {B M : Nat} {T : TypeId} {rest : List Value} {u0 u1 u2 : Value} {t : TypeId} {r : RV} {W : World} (h : ResSt w0 w B M T rest #[u0, u1, u2] t r W) :
    W.cell? ⟨w.heap.size, 0, none⟩ = some u0 ∧ W.cell? ⟨w.heap.size, 1, none⟩ = some u1 ∧ W.cell? ⟨w.heap.size, 2, none⟩ = some u2 ∧ W.frozen? ⟨w.heap.size, 0, none⟩ = false ∧ W.frozen? ⟨w.heap.size, 1, none⟩ = false ∧ W.frozen? ⟨w.heap.size, 2, none⟩ = false ∧ w.heap.size < W.heap.size := by
  have hb := h.res
  exact ⟨by simp [World.cell?, hb], by simp [World.cell?, hb], by simp [World.cell?, hb], by simp [World.frozen?, hb], by simp [World.frozen?, hb], by simp [World.frozen?, hb], in_heap6 hb⟩
theorem ResSt.done2 {w0 w : World} {B M : Nat} {T : TypeId} {rest : List Value} {Z : Array Value} {t : TypeId} {r : RV} {W : World} (h : ResSt w0 w B M T rest Z t r W) (v0 v1 : Value) :
    RdAt w0 B M T rest r ((W.setCell ⟨w.heap.size, 0, none⟩ v0).setCell ⟨w.heap.size, 1, none⟩ v1) ∧ Mov B M w ((W.setCell ⟨w.heap.size, 0, none⟩ v0).setCell ⟨w.heap.size, 1, none⟩ v1) :=
  ⟨(h.rd.other 0 _ h.n1 h.n2 h.hw).other 1 _ h.n1 h.n2 h.hw, (h.mov.setNew 0 _ (Nat.le_refl _)).setNew 1 _ (Nat.le_refl _)⟩
theorem ResSt.done3 {w0 w : World} {B M : Nat} {T : TypeId} {rest : List Value} {Z : Array Value} {t : TypeId} {r : RV} {W : World} (h : ResSt w0 w B M T rest Z t r W) (v0 v1 v2 : Value) :
    RdAt w0 B M T rest r (((W.setCell ⟨w.heap.size, 0, none⟩ v0).setCell ⟨w.heap.size, 1, none⟩ v1).setCell ⟨w.heap.size, 2, none⟩ v2) ∧ Mov B M w (((W.setCell ⟨w.heap.size, 0, none⟩ v0).setCell ⟨w.heap.size, 1, none⟩ v1).setCell ⟨w.heap.size, 2, none⟩ v2) :=
  ⟨((h.rd.other 0 _ h.n1 h.n2 h.hw).other 1 _ h.n1 h.n2 h.hw).other 2 _ h.n1 h.n2 h.hw, ((h.mov.setNew 0 _ (Nat.le_refl _)).setNew 1 _ (Nat.le_refl _)).setNew 2 _ (Nat.le_refl _)⟩
theorem enters_value : ∀ args w, (callFunc 282 args).run Tryz.prog w = .ok (.enter 282 args) w := enters_of Tryz.func282 (by kernel_rfl) rfl
theorem value_each (w0 : World) (B M : Nat) (T : TypeId) (rest : List Value) (r : RV) (W : World) (hr : RdAt w0 B M T rest r W) : Calls Tryz.prog 282 (#[.pointer (some ⟨B, 0, none⟩)] ++ #[]) W (Did w0 B M T rest r W pValue valU8 (fun _ _ x => 0 ≤ x ∧ x < 256)) := value_reads w0 B M T rest r W hr
theorem u8_back {n : Int} (h : 0 ≤ n ∧ n < 256) : ((u8 n).toNat : Int) = n := byte_of h.1 h.2
theorem rowU8_map (l : List Int) (h : ∀ x ∈ l, 0 ≤ x ∧ x < 256) : l.flatMap rowU8 = (l.map u8).map fun b => Value.int .u8 (b.toNat : Int) := by
  induction l with
  | nil => rfl
  | cons a l ih =>
    rw [List.flatMap_cons, ih fun x hx => h x (by simp [hx]), List.map_cons, List.map_cons, u8_back (h a (by simp))]
    rfl
theorem kinds_reads (w0 : World) : Reads6 w0 281 pKinds (fun s => .string s) (fun _ _ s => s.size ≤ 4096) := by
  intro B M T rest r w h
  have c1 := list_uint8 enters_value (value_each w0) h
  go_enter Tryz.func281, Tryz.ntmps281
  go_wp2_with (go_at_call 320; (with_reducible refine c1.mono ?_); rintro e w1 ⟨l, r1, v, rfl, g1, h1, m1, hown, hok, hl⟩; have ho : Own w1 w.heap.size 5 v (l.map u8) := (by unfold Own; rw [List.length_map, ← rowU8_map l hok]; exact hown); have hs := own_string (P := Tryz.prog) w1 24 9 5 w.heap.size 5 v (l.map u8) Tryz.underlying24 Tryz.underlying5 Tryz.underlying9 ho)
  go_ret
  exact ⟨_, r1, rfl, g1.map fun l => bs (l.map u8), h1, m1, by simp [ByteArray.size]; exact hl⟩
def okTy (_ _ : World) (t : TyV) : Prop := t.params.size ≤ 4096 ∧ t.results.size ≤ 4096
theorem functype_reads (w0 : World) : Reads6 w0 207 pTy valTy okTy := by
  intro B M T rest r w h
  have S0 := ResSt.start h #[.string ⟨#[]⟩, .string ⟨#[]⟩] 81
  have c1 := is_reads S0.rd 96
  clear h
  go_enter Tryz.func207, Tryz.ntmps207
  go_wp2_with (first
    | (go_at_call 152; (with_reducible refine c1.mono ?_); rintro e w1 ⟨u, r1, rfl, g1, h1, m1, _⟩; have S1 := S0.call m1 h1; have c2 := kinds_reads w0 B M T rest r1 w1 h1; clear c1 S0 h1 m1; dsimp only [valUnit])
    | (go_at_call 281; (with_reducible refine c2.mono ?_); rintro e w2 ⟨p, r2, rfl, g2, h2, m2, hp⟩; have S2 := S1.call m2 h2; have c3 := kinds_reads w0 B M T rest r2 w2 h2; clear c2 S1 h2 m2)
    | (go_at_call 281; (with_reducible refine c3.mono ?_); rintro e w3 ⟨q, r3, rfl, g3, h3, m3, hq⟩; have S3 := S2.call m3 h3; have S4 := S3.alloc (.cells #[.string p, .string q] 81); have c4 := fail_of S4.rd 3; obtain ⟨t0, t1, f0, f1, hl3⟩ := S3.f2; have hlt := S3.rd.lt; clear c3 S2 h3 m3)
    | (go_at_call 138; (with_reducible refine c4.mono ?_); rintro e w5 ⟨rfl, h5, m5⟩; have S5 := S4.call m5 h5; have hb5 := (m5.block w3.heap.size (by simp) (by omega) (by omega)).trans (heap_alloc_new w3 _); have x0 : w5.cell? ⟨w3.heap.size, 0, none⟩ = some (.string p) := (by simp [World.cell?, hb5]); have x1 : w5.cell? ⟨w3.heap.size, 1, none⟩ = some (.string q) := (by simp [World.cell?, hb5]); have hne : w.heap.size ≠ w3.heap.size := (by omega); clear t0 t1 f0 f1 hl3 c4 m5; obtain ⟨t0, t1, f0, f1, hl3⟩ := S5.f2))
  · have hgt : 1 < q.size := by
      have h0 : (1 : Int) < q.size := by assumption
      omega
    refine bodyPost_ret (v := .agg #[.string p, .string q]) ?_ rfl ?_
    · rw [results_one_cell rfl]; go_simp
    · have hd := S5.done2 (.string p) (.string q)
      exact ⟨⟨p, q⟩, _, rfl, g1.and (g2.and (g3.and (by rw [if_pos hgt]; exact Got.no (by decide) _ _))), hd.1, hd.2, hp, hq⟩
  · have hle : ¬ 1 < q.size := by
      have h0 : (q.size : Int) ≤ 1 := by assumption
      omega
    refine bodyPost_ret (v := .agg #[.string p, .string q]) ?_ rfl ?_
    · rw [results_one_cell rfl]; go_simp
    · have hd := S3.done2 (.string p) (.string q)
      exact ⟨⟨p, q⟩, r3, rfl, g1.and (g2.and (g3.and (by rw [if_neg hle]; exact Got.val _ _))), hd.1.alloc _, hd.2.alloc _, hp, hq⟩
theorem Got.on {α β : Type} {P : Pr α} {Q : Pr β} {r r1 r2 : RV} {x : α} {y : β} (g : Got P r r1 x) (he : r1.e ≠ 0) (h : Got Q r1 r2 y) (z : α) : Got P r r2 z := by
  have e2 : r2.e = r1.e := by
    rcases h.2 with ⟨_, h2⟩ | ⟨h1, _⟩ | ⟨h1, _⟩
    · exact h2
    · exact absurd h1 he
    · exact absurd h1 he
  refine ⟨h.1.trans g.1, ?_⟩
  rcases g.2 with ⟨g1, g2⟩ | ⟨_, g2, _⟩ | ⟨g1, g2, g3⟩
  · exact .inl ⟨g1, e2.trans g2⟩
  · exact absurd g2 he
  · exact .inr (.inr ⟨g1, by rw [e2]; exact g2, by rw [e2]; exact g3⟩)
theorem Got.e {α : Type} {P : Pr α} {r r1 : RV} {x : α} (g : Got P r r1 x) (he : r.e ≠ 0) : r1.e ≠ 0 := by
  rcases g.2 with ⟨_, h2⟩ | ⟨h1, _⟩ | ⟨h1, _⟩
  · rw [h2]; exact he
  · exact absurd h1 he
  · exact absurd h1 he
theorem bad_keep {r : RV} {k : Int} (he : r.e ≠ 0) : r.bad k = r := by unfold RV.bad; rw [if_neg he]
theorem bad_not {r : RV} {k : Int} (hk : k ≠ 0) : (r.bad k).e ≠ 0 := bad_e hk
theorem const_65y {w0 : World} {B M : Nat} {T : TypeId} {rest : List Value} {r : RV} {w : World} (h : RdAt w0 B M T rest r w) (kind : Int) (hk : 0 ≤ kind ∧ kind < 256) (r1 : RV) (g1 : Got pOne r r1 65) (hy : kind = 127)
    (c1 : ∀ (B M : Nat) (T : TypeId) (rest : List Value) (w : World), RdAt w0 B M T rest r w → Calls Tryz.prog 137 #[.pointer (some ⟨B, 0, none⟩)] w fun e w' => e = .returned (.int .u8 65) ∧ RdAt w0 B M T rest r1 w' ∧ Mov B M w w') :
    Calls Tryz.prog 283 #[.pointer (some ⟨B, 0, none⟩), .int .u8 kind] w (Did w0 B M T rest r w (pConst kind) valInt okI64) := by
  have hq : (kind == 127) = true := beq_iff_eq.2 hy
  have HY := Lib.hid hy
  clear hy
  go_enter Tryz.func283, Tryz.ntmps283
  go_wp2_with (first
    | (go_at_call 137; (with_reducible refine (c1 _ _ _ _ _ h).mono ?_); rintro e w1 ⟨rfl, h1, m1⟩; have mm1 := m1; have c3 := signed_reads h1 65; clear c1 h)
    | (go_at_call 153; (with_reducible refine c3.mono ?_); rintro e w3 ⟨x, r3, rfl, g3, h3, m3, ok3⟩; have c5 := is_reads h3 11; have b0 := ok3.1; have b1 := ok3.2; clear c3; dsimp only [valInt])
    | (go_at_call 152; (with_reducible refine c5.mono ?_); rintro e w5 ⟨u, r5, rfl, g5, h5, m5, _⟩; clear c5; dsimp only [valUnit]))
  go_ret
  exact ⟨x, r5, rfl, g1.and (by rw [if_neg (by decide), if_pos (by decide)]; exact g3.and (by rw [if_pos (by simp [HY.out])]; exact g5.map fun _ => x)), h5, ((mm1.trans m3).trans m5), b0, b1⟩
theorem const_65n {w0 : World} {B M : Nat} {T : TypeId} {rest : List Value} {r : RV} {w : World} (h : RdAt w0 B M T rest r w) (kind : Int) (hk : 0 ≤ kind ∧ kind < 256) (r1 : RV) (g1 : Got pOne r r1 65) (hy : ¬ kind = 127)
    (c1 : ∀ (B M : Nat) (T : TypeId) (rest : List Value) (w : World), RdAt w0 B M T rest r w → Calls Tryz.prog 137 #[.pointer (some ⟨B, 0, none⟩)] w fun e w' => e = .returned (.int .u8 65) ∧ RdAt w0 B M T rest r1 w' ∧ Mov B M w w') :
    Calls Tryz.prog 283 #[.pointer (some ⟨B, 0, none⟩), .int .u8 kind] w (Did w0 B M T rest r w (pConst kind) valInt okI64) := by
  have hq : (kind == 127) = false := beq_eq_false_iff_ne.2 hy
  have HY := Lib.hid hy
  clear hy
  go_enter Tryz.func283, Tryz.ntmps283
  go_wp2_with (first
    | (go_at_call 137; (with_reducible refine (c1 _ _ _ _ _ h).mono ?_); rintro e w1 ⟨rfl, h1, m1⟩; have mm1 := m1; have c3 := signed_reads h1 65; clear c1 h)
    | (go_at_call 153; (with_reducible refine c3.mono ?_); rintro e w3 ⟨x, r3, rfl, g3, h3, m3, ok3⟩; have c4 := fail_of h3 4; have b0 := ok3.1; have b1 := ok3.2; clear c3; dsimp only [valInt])
    | (go_at_call 138; (with_reducible refine c4.mono ?_); rintro e w4 ⟨rfl, h4, m4⟩; have c5 := is_reads h4 11; clear c4)
    | (go_at_call 152; (with_reducible refine c5.mono ?_); rintro e w5 ⟨u, r5, rfl, g5, h5, m5, _⟩; clear c5; dsimp only [valUnit]))
  go_ret
  exact ⟨x, r5, rfl, g1.and (by rw [if_neg (by decide), if_pos (by decide)]; exact g3.and (by rw [if_neg (by simp [HY.out])]; exact (Got.no (by decide) x r3).on (bad_not (by decide)) g5 x)), h5, (((mm1.trans m3).trans m4).trans m5), b0, b1⟩
theorem const_66y {w0 : World} {B M : Nat} {T : TypeId} {rest : List Value} {r : RV} {w : World} (h : RdAt w0 B M T rest r w) (kind : Int) (hk : 0 ≤ kind ∧ kind < 256) (r1 : RV) (g1 : Got pOne r r1 66) (hy : kind = 127)
    (c1 : ∀ (B M : Nat) (T : TypeId) (rest : List Value) (w : World), RdAt w0 B M T rest r w → Calls Tryz.prog 137 #[.pointer (some ⟨B, 0, none⟩)] w fun e w' => e = .returned (.int .u8 66) ∧ RdAt w0 B M T rest r1 w' ∧ Mov B M w w') :
    Calls Tryz.prog 283 #[.pointer (some ⟨B, 0, none⟩), .int .u8 kind] w (Did w0 B M T rest r w (pConst kind) valInt okI64) := by
  have hq : (kind == 127) = true := beq_iff_eq.2 hy
  have HY := Lib.hid hy
  clear hy
  go_enter Tryz.func283, Tryz.ntmps283
  go_wp2_with (first
    | (go_at_call 137; (with_reducible refine (c1 _ _ _ _ _ h).mono ?_); rintro e w1 ⟨rfl, h1, m1⟩; have mm1 := m1; have c3 := signed_reads h1 66; clear c1 h)
    | (go_at_call 153; (with_reducible refine c3.mono ?_); rintro e w3 ⟨x, r3, rfl, g3, h3, m3, ok3⟩; have c4 := fail_of h3 4; have b0 := ok3.1; have b1 := ok3.2; clear c3; dsimp only [valInt])
    | (go_at_call 138; (with_reducible refine c4.mono ?_); rintro e w4 ⟨rfl, h4, m4⟩; have c5 := is_reads h4 11; clear c4)
    | (go_at_call 152; (with_reducible refine c5.mono ?_); rintro e w5 ⟨u, r5, rfl, g5, h5, m5, _⟩; clear c5; dsimp only [valUnit]))
  go_ret
  exact ⟨x, r5, rfl, g1.and (by rw [if_neg (by decide), if_pos (by decide)]; exact g3.and (by rw [if_neg (by simp [HY.out])]; exact (Got.no (by decide) x r3).on (bad_not (by decide)) g5 x)), h5, (((mm1.trans m3).trans m4).trans m5), b0, b1⟩
theorem const_66n {w0 : World} {B M : Nat} {T : TypeId} {rest : List Value} {r : RV} {w : World} (h : RdAt w0 B M T rest r w) (kind : Int) (hk : 0 ≤ kind ∧ kind < 256) (r1 : RV) (g1 : Got pOne r r1 66) (hy : ¬ kind = 127)
    (c1 : ∀ (B M : Nat) (T : TypeId) (rest : List Value) (w : World), RdAt w0 B M T rest r w → Calls Tryz.prog 137 #[.pointer (some ⟨B, 0, none⟩)] w fun e w' => e = .returned (.int .u8 66) ∧ RdAt w0 B M T rest r1 w' ∧ Mov B M w w') :
    Calls Tryz.prog 283 #[.pointer (some ⟨B, 0, none⟩), .int .u8 kind] w (Did w0 B M T rest r w (pConst kind) valInt okI64) := by
  have hq : (kind == 127) = false := beq_eq_false_iff_ne.2 hy
  have HY := Lib.hid hy
  clear hy
  go_enter Tryz.func283, Tryz.ntmps283
  go_wp2_with (first
    | (go_at_call 137; (with_reducible refine (c1 _ _ _ _ _ h).mono ?_); rintro e w1 ⟨rfl, h1, m1⟩; have mm1 := m1; have c3 := signed_reads h1 66; clear c1 h)
    | (go_at_call 153; (with_reducible refine c3.mono ?_); rintro e w3 ⟨x, r3, rfl, g3, h3, m3, ok3⟩; have c5 := is_reads h3 11; have b0 := ok3.1; have b1 := ok3.2; clear c3; dsimp only [valInt])
    | (go_at_call 152; (with_reducible refine c5.mono ?_); rintro e w5 ⟨u, r5, rfl, g5, h5, m5, _⟩; clear c5; dsimp only [valUnit]))
  go_ret
  exact ⟨x, r5, rfl, g1.and (by rw [if_neg (by decide), if_pos (by decide)]; exact g3.and (by rw [if_pos (by simp [HY.out])]; exact g5.map fun _ => x)), h5, ((mm1.trans m3).trans m5), b0, b1⟩
theorem const_35y {w0 : World} {B M : Nat} {T : TypeId} {rest : List Value} {r : RV} {w : World} (h : RdAt w0 B M T rest r w) (kind : Int) (hk : 0 ≤ kind ∧ kind < 256) (r1 : RV) (g1 : Got pOne r r1 35) (hy : kind = 127)
    (c1 : ∀ (B M : Nat) (T : TypeId) (rest : List Value) (w : World), RdAt w0 B M T rest r w → Calls Tryz.prog 137 #[.pointer (some ⟨B, 0, none⟩)] w fun e w' => e = .returned (.int .u8 35) ∧ RdAt w0 B M T rest r1 w' ∧ Mov B M w w') :
    Calls Tryz.prog 283 #[.pointer (some ⟨B, 0, none⟩), .int .u8 kind] w (Did w0 B M T rest r w (pConst kind) valInt okI64) := by
  have hq : (kind == 127) = true := beq_iff_eq.2 hy
  have HY := Lib.hid hy
  clear hy
  go_enter Tryz.func283, Tryz.ntmps283
  go_wp2_with (first
    | (go_at_call 137; (with_reducible refine (c1 _ _ _ _ _ h).mono ?_); rintro e w1 ⟨rfl, h1, m1⟩; have c2 := fail_of h1 3; clear c1 h)
    | (go_at_call 138; (with_reducible refine c2.mono ?_); rintro e w2 ⟨rfl, h2, m2⟩; have mm1 := m1.trans m2; have c3 := signed_reads h2 35; clear c2)
    | (go_at_call 153; (with_reducible refine c3.mono ?_); rintro e w3 ⟨x, r3, rfl, g3, h3, m3, ok3⟩; have c4 := fail_of h3 4; have b0 := ok3.1; have b1 := ok3.2; clear c3; dsimp only [valInt])
    | (go_at_call 138; (with_reducible refine c4.mono ?_); rintro e w4 ⟨rfl, h4, m4⟩; have c5 := is_reads h4 11; clear c4)
    | (go_at_call 152; (with_reducible refine c5.mono ?_); rintro e w5 ⟨u, r5, rfl, g5, h5, m5, _⟩; clear c5; dsimp only [valUnit]))
  go_ret
  exact ⟨x, r5, rfl, g1.and (by rw [if_pos (by decide)]; exact ((((Got.no (by decide) x r1).on (bad_not (by decide)) g3 x)).on (g3.e (bad_not (by decide))) (by rw [bad_keep (g3.e (bad_not (by decide)))] at g5; exact g5) x)), h5, (((mm1.trans m3).trans m4).trans m5), b0, b1⟩
theorem const_35n {w0 : World} {B M : Nat} {T : TypeId} {rest : List Value} {r : RV} {w : World} (h : RdAt w0 B M T rest r w) (kind : Int) (hk : 0 ≤ kind ∧ kind < 256) (r1 : RV) (g1 : Got pOne r r1 35) (hy : ¬ kind = 127)
    (c1 : ∀ (B M : Nat) (T : TypeId) (rest : List Value) (w : World), RdAt w0 B M T rest r w → Calls Tryz.prog 137 #[.pointer (some ⟨B, 0, none⟩)] w fun e w' => e = .returned (.int .u8 35) ∧ RdAt w0 B M T rest r1 w' ∧ Mov B M w w') :
    Calls Tryz.prog 283 #[.pointer (some ⟨B, 0, none⟩), .int .u8 kind] w (Did w0 B M T rest r w (pConst kind) valInt okI64) := by
  have hq : (kind == 127) = false := beq_eq_false_iff_ne.2 hy
  have HY := Lib.hid hy
  clear hy
  go_enter Tryz.func283, Tryz.ntmps283
  go_wp2_with (first
    | (go_at_call 137; (with_reducible refine (c1 _ _ _ _ _ h).mono ?_); rintro e w1 ⟨rfl, h1, m1⟩; have c2 := fail_of h1 3; clear c1 h)
    | (go_at_call 138; (with_reducible refine c2.mono ?_); rintro e w2 ⟨rfl, h2, m2⟩; have mm1 := m1.trans m2; have c3 := signed_reads h2 35; clear c2)
    | (go_at_call 153; (with_reducible refine c3.mono ?_); rintro e w3 ⟨x, r3, rfl, g3, h3, m3, ok3⟩; have c5 := is_reads h3 11; have b0 := ok3.1; have b1 := ok3.2; clear c3; dsimp only [valInt])
    | (go_at_call 152; (with_reducible refine c5.mono ?_); rintro e w5 ⟨u, r5, rfl, g5, h5, m5, _⟩; clear c5; dsimp only [valUnit]))
  go_ret
  exact ⟨x, r5, rfl, g1.and (by rw [if_pos (by decide)]; exact (((Got.no (by decide) x r1).on (bad_not (by decide)) g3 x).on (g3.e (bad_not (by decide))) g5 x)), h5, ((mm1.trans m3).trans m5), b0, b1⟩
theorem const_67y {w0 : World} {B M : Nat} {T : TypeId} {rest : List Value} {r : RV} {w : World} (h : RdAt w0 B M T rest r w) (kind : Int) (hk : 0 ≤ kind ∧ kind < 256) (r1 : RV) (g1 : Got pOne r r1 67) (hy : kind = 127)
    (c1 : ∀ (B M : Nat) (T : TypeId) (rest : List Value) (w : World), RdAt w0 B M T rest r w → Calls Tryz.prog 137 #[.pointer (some ⟨B, 0, none⟩)] w fun e w' => e = .returned (.int .u8 67) ∧ RdAt w0 B M T rest r1 w' ∧ Mov B M w w') :
    Calls Tryz.prog 283 #[.pointer (some ⟨B, 0, none⟩), .int .u8 kind] w (Did w0 B M T rest r w (pConst kind) valInt okI64) := by
  have hq : (kind == 127) = true := beq_iff_eq.2 hy
  have HY := Lib.hid hy
  clear hy
  go_enter Tryz.func283, Tryz.ntmps283
  go_wp2_with (first
    | (go_at_call 137; (with_reducible refine (c1 _ _ _ _ _ h).mono ?_); rintro e w1 ⟨rfl, h1, m1⟩; have c2 := fail_of h1 3; clear c1 h)
    | (go_at_call 138; (with_reducible refine c2.mono ?_); rintro e w2 ⟨rfl, h2, m2⟩; have mm1 := m1.trans m2; have c3 := signed_reads h2 67; clear c2)
    | (go_at_call 153; (with_reducible refine c3.mono ?_); rintro e w3 ⟨x, r3, rfl, g3, h3, m3, ok3⟩; have c4 := fail_of h3 4; have b0 := ok3.1; have b1 := ok3.2; clear c3; dsimp only [valInt])
    | (go_at_call 138; (with_reducible refine c4.mono ?_); rintro e w4 ⟨rfl, h4, m4⟩; have c5 := is_reads h4 11; clear c4)
    | (go_at_call 152; (with_reducible refine c5.mono ?_); rintro e w5 ⟨u, r5, rfl, g5, h5, m5, _⟩; clear c5; dsimp only [valUnit]))
  go_ret
  exact ⟨x, r5, rfl, g1.and (by rw [if_pos (by decide)]; exact ((((Got.no (by decide) x r1).on (bad_not (by decide)) g3 x)).on (g3.e (bad_not (by decide))) (by rw [bad_keep (g3.e (bad_not (by decide)))] at g5; exact g5) x)), h5, (((mm1.trans m3).trans m4).trans m5), b0, b1⟩
theorem const_67n {w0 : World} {B M : Nat} {T : TypeId} {rest : List Value} {r : RV} {w : World} (h : RdAt w0 B M T rest r w) (kind : Int) (hk : 0 ≤ kind ∧ kind < 256) (r1 : RV) (g1 : Got pOne r r1 67) (hy : ¬ kind = 127)
    (c1 : ∀ (B M : Nat) (T : TypeId) (rest : List Value) (w : World), RdAt w0 B M T rest r w → Calls Tryz.prog 137 #[.pointer (some ⟨B, 0, none⟩)] w fun e w' => e = .returned (.int .u8 67) ∧ RdAt w0 B M T rest r1 w' ∧ Mov B M w w') :
    Calls Tryz.prog 283 #[.pointer (some ⟨B, 0, none⟩), .int .u8 kind] w (Did w0 B M T rest r w (pConst kind) valInt okI64) := by
  have hq : (kind == 127) = false := beq_eq_false_iff_ne.2 hy
  have HY := Lib.hid hy
  clear hy
  go_enter Tryz.func283, Tryz.ntmps283
  go_wp2_with (first
    | (go_at_call 137; (with_reducible refine (c1 _ _ _ _ _ h).mono ?_); rintro e w1 ⟨rfl, h1, m1⟩; have c2 := fail_of h1 3; clear c1 h)
    | (go_at_call 138; (with_reducible refine c2.mono ?_); rintro e w2 ⟨rfl, h2, m2⟩; have mm1 := m1.trans m2; have c3 := signed_reads h2 67; clear c2)
    | (go_at_call 153; (with_reducible refine c3.mono ?_); rintro e w3 ⟨x, r3, rfl, g3, h3, m3, ok3⟩; have c5 := is_reads h3 11; have b0 := ok3.1; have b1 := ok3.2; clear c3; dsimp only [valInt])
    | (go_at_call 152; (with_reducible refine c5.mono ?_); rintro e w5 ⟨u, r5, rfl, g5, h5, m5, _⟩; clear c5; dsimp only [valUnit]))
  go_ret
  exact ⟨x, r5, rfl, g1.and (by rw [if_pos (by decide)]; exact (((Got.no (by decide) x r1).on (bad_not (by decide)) g3 x).on (g3.e (bad_not (by decide))) g5 x)), h5, ((mm1.trans m3).trans m5), b0, b1⟩
theorem const_68y {w0 : World} {B M : Nat} {T : TypeId} {rest : List Value} {r : RV} {w : World} (h : RdAt w0 B M T rest r w) (kind : Int) (hk : 0 ≤ kind ∧ kind < 256) (r1 : RV) (g1 : Got pOne r r1 68) (hy : kind = 127)
    (c1 : ∀ (B M : Nat) (T : TypeId) (rest : List Value) (w : World), RdAt w0 B M T rest r w → Calls Tryz.prog 137 #[.pointer (some ⟨B, 0, none⟩)] w fun e w' => e = .returned (.int .u8 68) ∧ RdAt w0 B M T rest r1 w' ∧ Mov B M w w') :
    Calls Tryz.prog 283 #[.pointer (some ⟨B, 0, none⟩), .int .u8 kind] w (Did w0 B M T rest r w (pConst kind) valInt okI64) := by
  have hq : (kind == 127) = true := beq_iff_eq.2 hy
  have HY := Lib.hid hy
  clear hy
  go_enter Tryz.func283, Tryz.ntmps283
  go_wp2_with (first
    | (go_at_call 137; (with_reducible refine (c1 _ _ _ _ _ h).mono ?_); rintro e w1 ⟨rfl, h1, m1⟩; have c2 := fail_of h1 3; clear c1 h)
    | (go_at_call 138; (with_reducible refine c2.mono ?_); rintro e w2 ⟨rfl, h2, m2⟩; have mm1 := m1.trans m2; have c3 := signed_reads h2 68; clear c2)
    | (go_at_call 153; (with_reducible refine c3.mono ?_); rintro e w3 ⟨x, r3, rfl, g3, h3, m3, ok3⟩; have c4 := fail_of h3 4; have b0 := ok3.1; have b1 := ok3.2; clear c3; dsimp only [valInt])
    | (go_at_call 138; (with_reducible refine c4.mono ?_); rintro e w4 ⟨rfl, h4, m4⟩; have c5 := is_reads h4 11; clear c4)
    | (go_at_call 152; (with_reducible refine c5.mono ?_); rintro e w5 ⟨u, r5, rfl, g5, h5, m5, _⟩; clear c5; dsimp only [valUnit]))
  go_ret
  exact ⟨x, r5, rfl, g1.and (by rw [if_pos (by decide)]; exact ((((Got.no (by decide) x r1).on (bad_not (by decide)) g3 x)).on (g3.e (bad_not (by decide))) (by rw [bad_keep (g3.e (bad_not (by decide)))] at g5; exact g5) x)), h5, (((mm1.trans m3).trans m4).trans m5), b0, b1⟩
theorem const_68n {w0 : World} {B M : Nat} {T : TypeId} {rest : List Value} {r : RV} {w : World} (h : RdAt w0 B M T rest r w) (kind : Int) (hk : 0 ≤ kind ∧ kind < 256) (r1 : RV) (g1 : Got pOne r r1 68) (hy : ¬ kind = 127)
    (c1 : ∀ (B M : Nat) (T : TypeId) (rest : List Value) (w : World), RdAt w0 B M T rest r w → Calls Tryz.prog 137 #[.pointer (some ⟨B, 0, none⟩)] w fun e w' => e = .returned (.int .u8 68) ∧ RdAt w0 B M T rest r1 w' ∧ Mov B M w w') :
    Calls Tryz.prog 283 #[.pointer (some ⟨B, 0, none⟩), .int .u8 kind] w (Did w0 B M T rest r w (pConst kind) valInt okI64) := by
  have hq : (kind == 127) = false := beq_eq_false_iff_ne.2 hy
  have HY := Lib.hid hy
  clear hy
  go_enter Tryz.func283, Tryz.ntmps283
  go_wp2_with (first
    | (go_at_call 137; (with_reducible refine (c1 _ _ _ _ _ h).mono ?_); rintro e w1 ⟨rfl, h1, m1⟩; have c2 := fail_of h1 3; clear c1 h)
    | (go_at_call 138; (with_reducible refine c2.mono ?_); rintro e w2 ⟨rfl, h2, m2⟩; have mm1 := m1.trans m2; have c3 := signed_reads h2 68; clear c2)
    | (go_at_call 153; (with_reducible refine c3.mono ?_); rintro e w3 ⟨x, r3, rfl, g3, h3, m3, ok3⟩; have c5 := is_reads h3 11; have b0 := ok3.1; have b1 := ok3.2; clear c3; dsimp only [valInt])
    | (go_at_call 152; (with_reducible refine c5.mono ?_); rintro e w5 ⟨u, r5, rfl, g5, h5, m5, _⟩; clear c5; dsimp only [valUnit]))
  go_ret
  exact ⟨x, r5, rfl, g1.and (by rw [if_pos (by decide)]; exact (((Got.no (by decide) x r1).on (bad_not (by decide)) g3 x).on (g3.e (bad_not (by decide))) g5 x)), h5, ((mm1.trans m3).trans m5), b0, b1⟩
theorem const_oy {w0 : World} {B M : Nat} {T : TypeId} {rest : List Value} {r : RV} {w : World} (h : RdAt w0 B M T rest r w) (kind : Int) (hk : 0 ≤ kind ∧ kind < 256) (n : Int) (r1 : RV) (g1 : Got pOne r r1 n) (hn : 0 ≤ n ∧ n < 256) (hne : n ≠ 65 ∧ n ≠ 66 ∧ n ≠ 35 ∧ n ≠ 67 ∧ n ≠ 68) (hy : kind = 127)
    (c1 : ∀ (B M : Nat) (T : TypeId) (rest : List Value) (w : World), RdAt w0 B M T rest r w → Calls Tryz.prog 137 #[.pointer (some ⟨B, 0, none⟩)] w fun e w' => e = .returned (.int .u8 n) ∧ RdAt w0 B M T rest r1 w' ∧ Mov B M w w') :
    Calls Tryz.prog 283 #[.pointer (some ⟨B, 0, none⟩), .int .u8 kind] w (Did w0 B M T rest r w (pConst kind) valInt okI64) := by
  have hq : (kind == 127) = true := beq_iff_eq.2 hy
  have HY := Lib.hid hy
  clear hy
  have q1 : (n == 65) = false := beq_eq_false_iff_ne.2 hne.1
  have q2 : (n == 66) = false := beq_eq_false_iff_ne.2 hne.2.1
  have q3 : (n == 35) = false := beq_eq_false_iff_ne.2 hne.2.2.1
  have q4 : (n == 67) = false := beq_eq_false_iff_ne.2 hne.2.2.2.1
  have q5 : (n == 68) = false := beq_eq_false_iff_ne.2 hne.2.2.2.2
  have n0 := hn.1
  have n1 := hn.2
  go_enter Tryz.func283, Tryz.ntmps283
  go_wp2_with (first
    | (go_at_call 137; (with_reducible refine (c1 _ _ _ _ _ h).mono ?_); rintro e w1 ⟨rfl, h1, m1⟩; have c2 := fail_of h1 2; clear c1 h)
    | (go_at_call 138; (with_reducible refine c2.mono ?_); rintro e w2 ⟨rfl, h2, m2⟩; have mm1 := m1.trans m2; have c3 := signed_reads h2 n; clear c2)
    | (go_at_call 153; (with_reducible refine c3.mono ?_); rintro e w3 ⟨x, r3, rfl, g3, h3, m3, ok3⟩; have c4 := fail_of h3 4; have b0 := ok3.1; have b1 := ok3.2; clear c3; dsimp only [valInt])
    | (go_at_call 138; (with_reducible refine c4.mono ?_); rintro e w4 ⟨rfl, h4, m4⟩; have c5 := is_reads h4 11; clear c4)
    | (go_at_call 152; (with_reducible refine c5.mono ?_); rintro e w5 ⟨u, r5, rfl, g5, h5, m5, _⟩; clear c5; dsimp only [valUnit]))
  go_ret
  exact ⟨x, r5, rfl, g1.and (by rw [if_neg (by omega), if_neg (by omega)]; exact ((((Got.no (by decide) x r1).on (bad_not (by decide)) g3 x)).on (g3.e (bad_not (by decide))) (by rw [bad_keep (g3.e (bad_not (by decide)))] at g5; exact g5) x)), h5, (((mm1.trans m3).trans m4).trans m5), b0, b1⟩
theorem const_on {w0 : World} {B M : Nat} {T : TypeId} {rest : List Value} {r : RV} {w : World} (h : RdAt w0 B M T rest r w) (kind : Int) (hk : 0 ≤ kind ∧ kind < 256) (n : Int) (r1 : RV) (g1 : Got pOne r r1 n) (hn : 0 ≤ n ∧ n < 256) (hne : n ≠ 65 ∧ n ≠ 66 ∧ n ≠ 35 ∧ n ≠ 67 ∧ n ≠ 68) (hy : ¬ kind = 127)
    (c1 : ∀ (B M : Nat) (T : TypeId) (rest : List Value) (w : World), RdAt w0 B M T rest r w → Calls Tryz.prog 137 #[.pointer (some ⟨B, 0, none⟩)] w fun e w' => e = .returned (.int .u8 n) ∧ RdAt w0 B M T rest r1 w' ∧ Mov B M w w') :
    Calls Tryz.prog 283 #[.pointer (some ⟨B, 0, none⟩), .int .u8 kind] w (Did w0 B M T rest r w (pConst kind) valInt okI64) := by
  have hq : (kind == 127) = false := beq_eq_false_iff_ne.2 hy
  have HY := Lib.hid hy
  clear hy
  have q1 : (n == 65) = false := beq_eq_false_iff_ne.2 hne.1
  have q2 : (n == 66) = false := beq_eq_false_iff_ne.2 hne.2.1
  have q3 : (n == 35) = false := beq_eq_false_iff_ne.2 hne.2.2.1
  have q4 : (n == 67) = false := beq_eq_false_iff_ne.2 hne.2.2.2.1
  have q5 : (n == 68) = false := beq_eq_false_iff_ne.2 hne.2.2.2.2
  have n0 := hn.1
  have n1 := hn.2
  go_enter Tryz.func283, Tryz.ntmps283
  go_wp2_with (first
    | (go_at_call 137; (with_reducible refine (c1 _ _ _ _ _ h).mono ?_); rintro e w1 ⟨rfl, h1, m1⟩; have c2 := fail_of h1 2; clear c1 h)
    | (go_at_call 138; (with_reducible refine c2.mono ?_); rintro e w2 ⟨rfl, h2, m2⟩; have mm1 := m1.trans m2; have c3 := signed_reads h2 n; clear c2)
    | (go_at_call 153; (with_reducible refine c3.mono ?_); rintro e w3 ⟨x, r3, rfl, g3, h3, m3, ok3⟩; have c5 := is_reads h3 11; have b0 := ok3.1; have b1 := ok3.2; clear c3; dsimp only [valInt])
    | (go_at_call 152; (with_reducible refine c5.mono ?_); rintro e w5 ⟨u, r5, rfl, g5, h5, m5, _⟩; clear c5; dsimp only [valUnit]))
  go_ret
  exact ⟨x, r5, rfl, g1.and (by rw [if_neg (by omega), if_neg (by omega)]; exact (((Got.no (by decide) x r1).on (bad_not (by decide)) g3 x).on (g3.e (bad_not (by decide))) g5 x)), h5, ((mm1.trans m3).trans m5), b0, b1⟩
theorem constant_reads {w0 : World} {B M : Nat} {T : TypeId} {rest : List Value} {r : RV} {w : World} (h : RdAt w0 B M T rest r w) (kind : Int) (hk : 0 ≤ kind ∧ kind < 256) :
    Calls Tryz.prog 283 #[.pointer (some ⟨B, 0, none⟩), .int .u8 kind] w (Did w0 B M T rest r w (pConst kind) valInt okI64) := by
  obtain ⟨n, r1, n0, n1, g1, c1⟩ := one_det w0 r
  by_cases hy : kind = 127
  · rcases (show n = 65 ∨ n = 66 ∨ n = 35 ∨ n = 67 ∨ n = 68 ∨ (n ≠ 65 ∧ n ≠ 66 ∧ n ≠ 35 ∧ n ≠ 67 ∧ n ≠ 68) by omega) with rfl | rfl | rfl | rfl | rfl | hne
    · exact const_65y h kind hk r1 g1 hy c1
    · exact const_66y h kind hk r1 g1 hy c1
    · exact const_35y h kind hk r1 g1 hy c1
    · exact const_67y h kind hk r1 g1 hy c1
    · exact const_68y h kind hk r1 g1 hy c1
    · exact const_oy h kind hk n r1 g1 ⟨n0, n1⟩ hne hy c1
  · rcases (show n = 65 ∨ n = 66 ∨ n = 35 ∨ n = 67 ∨ n = 68 ∨ (n ≠ 65 ∧ n ≠ 66 ∧ n ≠ 35 ∧ n ≠ 67 ∧ n ≠ 68) by omega) with rfl | rfl | rfl | rfl | rfl | hne
    · exact const_65n h kind hk r1 g1 hy c1
    · exact const_66n h kind hk r1 g1 hy c1
    · exact const_35n h kind hk r1 g1 hy c1
    · exact const_67n h kind hk r1 g1 hy c1
    · exact const_68n h kind hk r1 g1 hy c1
    · exact const_on h kind hk n r1 g1 ⟨n0, n1⟩ hne hy c1
def okMem (_ _ : World) (t : MemV) : Prop := inI64 t.min ∧ inI64 t.max
def okGlob (_ _ : World) (t : GlobV) : Prop := inI64 t.type ∧ inI64 t.init
def okExp (_ _ : World) (t : ExpV) : Prop := t.name.size ≤ 281474976710656 ∧ inI64 t.kind ∧ inI64 t.index
def okDat (_ _ : World) (t : DatV) : Prop := inI64 t.offset ∧ t.bytes.size ≤ 281474976710656
theorem bs_len6 (l : List UInt8) : (bs l).size = l.length := by simp [bs, ByteArray.size]
theorem i64_word {n : Int} (h : 0 ≤ n ∧ n < 4294967296) : inI64 n := by unfold inI64; omega
theorem i64_byte {n : Int} (h : 0 ≤ n ∧ n < 256) : inI64 n := by unfold inI64; omega
theorem memory_reads (w0 : World) : Reads6 w0 211 pMem valMem okMem := by
  intro B M T rest r w h
  obtain ⟨n, r1, n0, n1, g1, c1⟩ := one_det w0 r
  have S0 := ResSt.start h #[.int .i64 0, .int .i64 0] 78
  clear h
  rcases (show n = 0 ∨ n = 1 ∨ (n ≠ 0 ∧ n ≠ 1) by omega) with rfl | rfl | hne
  · go_enter Tryz.func211, Tryz.ntmps211
    go_wp2_with (first
      | (go_at_call 137; (with_reducible refine (c1 _ _ _ _ _ S0.rd).mono ?_); rintro e w1 ⟨rfl, h1, m1⟩; have S1 := S0.call m1 h1; have c2 := number_reads w0 B M T rest r1 w1 h1; clear c1 S0 h1 m1)
      | (go_at_call 150; (with_reducible refine c2.mono ?_); rintro e w2 ⟨a, r2, rfl, g2, h2, m2, ok2⟩; have S2 := S1.call m2 h2; obtain ⟨t0, t1, f0, f1, hl⟩ := S2.f2; clear c2 S1 h2 m2; dsimp only [valInt]))
    refine bodyPost_ret (v := .agg #[.int .i64 a, .int .i64 (-1)]) ?_ rfl ?_
    · rw [results_one_cell rfl]; go_simp
    · have hd := S2.done2 (.int .i64 a) (.int .i64 (-1))
      exact ⟨⟨a, -1⟩, r2, rfl, g1.and (by rw [if_pos rfl]; exact g2.map fun a => (⟨a, -1⟩ : MemV)), hd.1, hd.2, i64_word ok2, (by show inI64 (-1); exact ⟨by decide, by decide⟩)⟩
  · go_enter Tryz.func211, Tryz.ntmps211
    go_wp2_with (first
      | (go_at_call 137; (with_reducible refine (c1 _ _ _ _ _ S0.rd).mono ?_); rintro e w1 ⟨rfl, h1, m1⟩; have S1 := S0.call m1 h1; have c2 := number_reads w0 B M T rest r1 w1 h1; clear c1 S0 h1 m1)
      | (go_at_call 150; (with_reducible refine c2.mono ?_); rintro e w2 ⟨a, r2, rfl, g2, h2, m2, ok2⟩; have S2 := S1.call m2 h2; have c3 := number_reads w0 B M T rest r2 w2 h2; clear c2 S1 h2 m2; dsimp only [valInt])
      | (go_at_call 150; (with_reducible refine c3.mono ?_); rintro e w3 ⟨b, r3, rfl, g3, h3, m3, ok3⟩; have S3 := S2.call m3 h3; obtain ⟨t0, t1, f0, f1, hl⟩ := S3.f2; clear c3 S2 h3 m3; dsimp only [valInt]))
    refine bodyPost_ret (v := .agg #[.int .i64 a, .int .i64 b]) ?_ rfl ?_
    · rw [results_one_cell rfl]; go_simp
    · have hd := S3.done2 (.int .i64 a) (.int .i64 b)
      exact ⟨⟨a, b⟩, r3, rfl, g1.and (by rw [if_neg (by decide), if_pos rfl]; exact g2.and (g3.map fun b => (⟨a, b⟩ : MemV))), hd.1, hd.2, i64_word ok2, i64_word ok3⟩
  · have q0 : (n == 0) = false := beq_eq_false_iff_ne.2 hne.1
    have q1 : (n == 1) = false := beq_eq_false_iff_ne.2 hne.2
    go_enter Tryz.func211, Tryz.ntmps211
    go_wp2_with (first
      | (go_at_call 137; (with_reducible refine (c1 _ _ _ _ _ S0.rd).mono ?_); rintro e w1 ⟨rfl, h1, m1⟩; have S1 := S0.call m1 h1; have c2 := fail_of h1 2; clear c1 S0 h1 m1)
      | (go_at_call 138; (with_reducible refine c2.mono ?_); rintro e w2 ⟨rfl, h2, m2⟩; have S2 := S1.call m2 h2; obtain ⟨t0, t1, f0, f1, hl⟩ := S2.f2; clear c2 S1 h2 m2))
    refine bodyPost_ret (v := .agg #[.int .i64 0, .int .i64 0]) ?_ rfl ?_
    · rw [results_one_cell rfl]; go_simp
    · have hd := S2.done2 (.int .i64 0) (.int .i64 0)
      exact ⟨⟨0, 0⟩, _, rfl, g1.and (by rw [if_neg hne.1, if_neg hne.2]; exact Got.no (by decide) _ _), hd.1, hd.2, ⟨by decide, by decide⟩, ⟨by decide, by decide⟩⟩
theorem data_reads (w0 : World) : Reads6 w0 218 pDat valDat okDat := by
  intro B M T rest r w h
  have S0 := ResSt.start h #[.int .i64 0, .string ⟨#[]⟩] 94
  have c1 := number_reads w0 B M T rest r _ S0.rd
  clear h
  go_enter Tryz.func218, Tryz.ntmps218
  go_wp2_with (first
    | (go_at_call 150; (with_reducible refine c1.mono ?_); rintro e w1 ⟨n, r1, rfl, g1, h1, m1, ok1⟩; have S1 := S0.call m1 h1; have c2 := fail_of h1 3; have c3 := constant_reads h1 127 ⟨by decide, by decide⟩; clear c1 S0 h1 m1; dsimp only [valInt])
    | (go_at_call 138; (with_reducible refine c2.mono ?_); rintro e w2 ⟨rfl, h2, m2⟩; have S2 := S1.call m2 h2; have c3b := constant_reads h2 127 ⟨by decide, by decide⟩; clear c2 c3 S1 h2 m2)
    | (go_at_call 283; (with_reducible refine c3.mono ?_); rintro e w3 ⟨o, r3, rfl, g3, h3, m3, ok3⟩; have S3 := S1.call m3 h3; have c4 := text_reads h3; clear c3 S1 h3 m3; dsimp only [valInt])
    | (go_at_call 283; (with_reducible refine c3b.mono ?_); rintro e w3 ⟨o, r3, rfl, g3, h3, m3, ok3⟩; have S3 := S2.call m3 h3; have c4 := text_reads h3; clear c3b S2 h3 m3; dsimp only [valInt])
    | (go_at_call 219; (with_reducible refine c4.mono ?_); rintro e w4 ⟨l, r4, rfl, g4, h4, m4, hl1, hl2⟩; have S4 := S3.call m4 h4; have hsz : (bs l).size ≤ 281474976710656 := (by have e1 : r4.s = r3.s := g4.1; have e2 := h4.size; have e3 := h4.pos; rw [bs_len6]; omega); have c5 := lib_clone (bs l) w4 hsz; have HL := Lib.hid hl2; clear hl2 c4 S3 h4 m4)
    | (go_at_call 284; (with_reducible refine c5.mono ?_); rintro e w5 ⟨rfl, hb5⟩; have S5 := S4.call (Mov.of_below hb5) (S4.rd.at' hb5); obtain ⟨t0, t1, f0, f1, hl⟩ := S5.f2; clear c5 S4 hb5))
  · have hn : n ≠ 0 := by
      have h0 : (n != 0) = true := by assumption
      simpa using h0
    refine bodyPost_ret (v := .agg #[.int .i64 o, .string (bs l)]) ?_ rfl ?_
    · rw [results_one_cell rfl]; go_simp
    · have hd := S5.done2 (.int .i64 o) (.string (bs l))
      exact ⟨⟨o, bs l⟩, r4, rfl, g1.and (by rw [if_neg hn]; exact ((Got.no (by decide) (⟨o, bs l⟩ : DatV) r1).on (bad_not (by decide)) g3 ⟨o, bs l⟩).on (g3.e (bad_not (by decide))) g4 _), hd.1, hd.2, ok3, hsz⟩
  · have hn : n = 0 := by
      have h0 : (n != 0) = false := by assumption
      simpa using h0
    refine bodyPost_ret (v := .agg #[.int .i64 o, .string (bs l)]) ?_ rfl ?_
    · rw [results_one_cell rfl]; go_simp
    · have hd := S5.done2 (.int .i64 o) (.string (bs l))
      exact ⟨⟨o, bs l⟩, r4, rfl, g1.and (by rw [if_pos hn]; exact g3.and (g4.map fun s => (⟨o, bs s⟩ : DatV))), hd.1, hd.2, ok3, hsz⟩
theorem name_reads {w0 : World} (hLaid : Laid w0) {B M : Nat} {T : TypeId} {rest : List Value} {r : RV} {w : World} (h : RdAt w0 B M T rest r w) :
    Calls Tryz.prog 205 #[.pointer (some ⟨B, 0, none⟩)] w (Did w0 B M T rest r w pName valStr (fun _ _ l => l.length ≤ 281474976710656)) := by
  have c1 := text_reads h
  clear h
  go_enter Tryz.func205, Tryz.ntmps205
  go_wp2_with (first
    | (go_at_call 219; (with_reducible refine c1.mono ?_); rintro e w1 ⟨l, r1, rfl, g1, h1, m1, hl1, hl2⟩; have hsz : l.length ≤ 281474976710656 := (by have e2 := h1.size; have e3 := h1.pos; omega); have c2 := mod_name (bs l) (by rw [bs_len6]; unfold maxLen; omega) w1 (hLaid.below h1.below); clear c1 hl2)
    | (go_at_call 29; (with_reducible refine c2.mono ?_); rintro e w2 ⟨rfl, hb2⟩; have h2 := h1.at' hb2; have m2 := m1.then hb2; have c3 := fail_of h2 2; clear c2 h1 m1)
    | (go_at_call 138; (with_reducible refine c3.mono ?_); rintro e w3 ⟨rfl, h3, m3⟩))
  · have hn : isName l = false := by
      have h0 : (!isName (bs l).data.toList) = true := by assumption
      rw [bs_list6] at h0
      simpa using h0
    go_ret
    exact ⟨l, _, rfl, g1.and (by rw [if_neg (by rw [hn]; decide)]; exact Got.no (by decide) _ _), h3, m2.trans m3, hsz⟩
  · have hn : isName l = true := by
      have h0 : (!isName (bs l).data.toList) = false := by assumption
      rw [bs_list6] at h0
      simpa using h0
    go_ret
    exact ⟨l, r1, rfl, g1.and (by rw [if_pos hn]; exact Got.val _ _), h2, m2, hsz⟩
theorem global_reads (w0 : World) : Reads6 w0 213 pGlob valGlob okGlob := by
  intro B M T rest r w h
  have S0 := ResSt.start h #[.int .i64 0, .bool false, .int .i64 0] 91
  have c1 := value_reads w0 B M T rest r _ S0.rd
  clear h
  go_enter Tryz.func213, Tryz.ntmps213
  go_wp2_with (first
    | (go_at_call 282; (with_reducible refine c1.mono ?_); rintro e w1 ⟨t, r1, rfl, g1, h1, m1, ok1⟩; have S1 := S0.call m1 h1; have c2 := one_reads w0 B M T rest r1 w1 h1; have b0 := ok1.1; have b1 := ok1.2; clear c1 S0 h1 m1; dsimp only [valU8])
    | (go_at_call 137; (with_reducible refine c2.mono ?_); rintro e w2 ⟨k, r2, rfl, g2, h2, m2, ok2⟩; have S2 := S1.call m2 h2; have c3 := fail_of h2 2; have c4 := constant_reads h2 t ok1; clear c2 S1 h2 m2; dsimp only [valU8])
    | (go_at_call 138; (with_reducible refine c3.mono ?_); rintro e w3 ⟨rfl, h3, m3⟩; have S3 := S2.call m3 h3; have c5 := constant_reads h3 t ok1; clear c3 c4 S2 h3 m3)
    | (go_at_call 283; (with_reducible refine c4.mono ?_); rintro e w4 ⟨n, r4, rfl, g4, h4, m4, ok4⟩; have S4 := S2.call m4 h4; obtain ⟨t0, t1, t2, f0, f1, f2, hl⟩ := S4.f3; clear c4 S2 h4 m4; dsimp only [valInt])
    | (go_at_call 283; (with_reducible refine c5.mono ?_); rintro e w4 ⟨n, r4, rfl, g4, h4, m4, ok4⟩; have S4 := S3.call m4 h4; obtain ⟨t0, t1, t2, f0, f1, f2, hl⟩ := S4.f3; clear c5 S3 h4 m4; dsimp only [valInt]))
  · have hk : k = 0 := by assumption
    have hkk : decide (k = 1) = false := decide_eq_false (by omega)
    refine bodyPost_ret (v := .agg #[.int .i64 t, .bool false, .int .i64 n]) ?_ rfl ?_
    · rw [results_one_cell rfl]; go_simp
    · have hd := S4.done3 (.int .i64 t) (.bool false) (.int .i64 n)
      exact ⟨⟨t, decide (k = 1), n⟩, r4, by show _ = Ending.returned (.agg #[.int .i64 t, .bool (decide (k = 1)), .int .i64 n]); rw [hkk], g1.and (g2.and (by rw [if_pos (.inl hk)]; exact g4.map fun n => (⟨t, decide (k = 1), n⟩ : GlobV))), hd.1, hd.2, i64_byte ok1, ok4⟩
  · have hk0 : ¬ k = 0 := by assumption
    have hk1 : ¬ k = 1 := by
      have h0 : (k != 0) = true ∧ (k != 1) = true := by assumption
      simpa using h0.2
    refine bodyPost_ret (v := .agg #[.int .i64 t, .bool (k == 1), .int .i64 n]) ?_ rfl ?_
    · rw [results_one_cell rfl]; go_simp
    · have hd := S4.done3 (.int .i64 t) (.bool (k == 1)) (.int .i64 n)
      exact ⟨⟨t, (k == 1), n⟩, r4, rfl, g1.and (g2.and (by rw [if_neg (by omega)]; exact (Got.no (by decide) (⟨t, (k == 1), n⟩ : GlobV) r2).on (bad_not (by decide)) g4 _)), hd.1, hd.2, i64_byte ok1, ok4⟩
  · have hk : k = 1 := by
      have hk0 : ¬ k = 0 := by assumption
      have h0 : (k != 0) = false ∨ (k != 1) = false := by assumption
      rcases h0 with h0 | h0
      · exact absurd (by simpa using h0) hk0
      · simpa using h0
    refine bodyPost_ret (v := .agg #[.int .i64 t, .bool (k == 1), .int .i64 n]) ?_ rfl ?_
    · rw [results_one_cell rfl]; go_simp
    · have hd := S4.done3 (.int .i64 t) (.bool (k == 1)) (.int .i64 n)
      exact ⟨⟨t, decide (k = 1), n⟩, r4, rfl, g1.and (g2.and (by rw [if_pos (.inr hk)]; exact g4.map fun n => (⟨t, decide (k = 1), n⟩ : GlobV))), hd.1, hd.2, i64_byte ok1, ok4⟩
theorem export_reads {w0 : World} (hLaid : Laid w0) {B M : Nat} {T : TypeId} {rest : List Value} {r : RV} {w : World} (h : RdAt w0 B M T rest r w) :
    Calls Tryz.prog 215 #[.pointer (some ⟨B, 0, none⟩)] w (Did w0 B M T rest r w pExp valExp okExp) := by
  have S0 := ResSt.start h #[.string ⟨#[]⟩, .int .i64 0, .int .i64 0] 76
  have c1 := name_reads hLaid S0.rd
  clear h
  go_enter Tryz.func215, Tryz.ntmps215
  go_wp2_with (first
    | (go_at_call 205; (with_reducible refine c1.mono ?_); rintro e w1 ⟨s, r1, rfl, g1, h1, m1, ok1⟩; have S1 := S0.call m1 h1; have c2 := lib_clone (bs s) w1 (by rw [bs_len6]; exact ok1); clear c1 S0 h1 m1; dsimp only [valStr])
    | (go_at_call 284; (with_reducible refine c2.mono ?_); rintro e w2 ⟨rfl, hb2⟩; have S2 := S1.call (Mov.of_below hb2) (S1.rd.at' hb2); have c3 := one_reads w0 B M T rest r1 w2 S2.rd; clear c2 S1 hb2)
    | (go_at_call 137; (with_reducible refine c3.mono ?_); rintro e w3 ⟨k, r3, rfl, g3, h3, m3, ok3⟩; have S3 := S2.call m3 h3; have c4 := fail_of h3 3; have c5 := fail_of h3 2; have c6 := number_reads w0 B M T rest r3 w3 h3; have b0 := ok3.1; have b1 := ok3.2; clear c3 S2 h3 m3; dsimp only [valU8])
    | (go_at_call 138; (with_reducible refine c4.mono ?_); rintro e w4 ⟨rfl, h4, m4⟩; have S4 := S3.call m4 h4; have c7 := number_reads w0 B M T rest _ w4 h4; clear c4 c5 c6 S3 h4 m4)
    | (go_at_call 138; (with_reducible refine c5.mono ?_); rintro e w4 ⟨rfl, h4, m4⟩; have S4 := S3.call m4 h4; have c7 := number_reads w0 B M T rest _ w4 h4; clear c4 c5 c6 S3 h4 m4)
    | (go_at_call 150; (with_reducible refine c6.mono ?_); rintro e w5 ⟨n, r5, rfl, g5, h5, m5, ok5⟩; have S5 := S3.call m5 h5; obtain ⟨t0, t1, t2, f0, f1, f2, hl⟩ := S5.f3; clear c4 c5 c6 S3 h5 m5; dsimp only [valInt])
    | (go_at_call 150; (with_reducible refine c7.mono ?_); rintro e w5 ⟨n, r5, rfl, g5, h5, m5, ok5⟩; have S5 := S4.call m5 h5; obtain ⟨t0, t1, t2, f0, f1, f2, hl⟩ := S5.f3; clear c7 S4 h5 m5; dsimp only [valInt]))
  · have hk : k = 0 := by
      have h0 : (k == 0) = true := by assumption
      simpa using h0
    refine bodyPost_ret (v := .agg #[.string (bs s), .int .i64 k, .int .i64 n]) ?_ rfl ?_
    · rw [results_one_cell rfl]; go_simp
    · have hd := S5.done3 (.string (bs s)) (.int .i64 k) (.int .i64 n)
      exact ⟨⟨bs s, k, n⟩, r5, rfl, g1.and (g3.and (by rw [if_pos (by omega)]; exact g5.map fun n => (⟨bs s, k, n⟩ : ExpV))), hd.1, hd.2, (by show (bs s).size ≤ _; rw [bs_len6]; exact ok1), i64_byte ok3, i64_word ok5⟩
  · have hk : k = 2 := by
      have h0 : (k == 2) = true := by assumption
      simpa using h0
    refine bodyPost_ret (v := .agg #[.string (bs s), .int .i64 k, .int .i64 n]) ?_ rfl ?_
    · rw [results_one_cell rfl]; go_simp
    · have hd := S5.done3 (.string (bs s)) (.int .i64 k) (.int .i64 n)
      exact ⟨⟨bs s, k, n⟩, r5, rfl, g1.and (g3.and (by rw [if_pos (by omega)]; exact g5.map fun n => (⟨bs s, k, n⟩ : ExpV))), hd.1, hd.2, (by show (bs s).size ≤ _; rw [bs_len6]; exact ok1), i64_byte ok3, i64_word ok5⟩
  · have hk : k = 3 := by
      have h0 : (k == 3) = true := by assumption
      simpa using h0
    refine bodyPost_ret (v := .agg #[.string (bs s), .int .i64 k, .int .i64 n]) ?_ rfl ?_
    · rw [results_one_cell rfl]; go_simp
    · have hd := S5.done3 (.string (bs s)) (.int .i64 k) (.int .i64 n)
      exact ⟨⟨bs s, k, n⟩, r5, rfl, g1.and (g3.and (by rw [if_pos (by omega)]; exact g5.map fun n => (⟨bs s, k, n⟩ : ExpV))), hd.1, hd.2, (by show (bs s).size ≤ _; rw [bs_len6]; exact ok1), i64_byte ok3, i64_word ok5⟩
  · have j0 : ¬ k = 0 := by
      have h0 : (k == 0) = false := by assumption
      simpa using h0
    have j2 : ¬ k = 2 := by
      have h0 : (k == 2) = false := by assumption
      simpa using h0
    have j3 : ¬ k = 3 := by
      have h0 : (k == 3) = false := by assumption
      simpa using h0
    have hk : k = 1 := by
      have h0 : (k == 1) = true := by assumption
      simpa using h0
    refine bodyPost_ret (v := .agg #[.string (bs s), .int .i64 k, .int .i64 n]) ?_ rfl ?_
    · rw [results_one_cell rfl]; go_simp
    · have hd := S5.done3 (.string (bs s)) (.int .i64 k) (.int .i64 n)
      exact ⟨⟨bs s, k, n⟩, r5, rfl, g1.and (g3.and (by rw [if_neg (by omega), if_pos hk]; exact (Got.no (by decide) (⟨bs s, k, n⟩ : ExpV) r3).on (bad_not (by decide)) g5 _)), hd.1, hd.2, (by show (bs s).size ≤ _; rw [bs_len6]; exact ok1), i64_byte ok3, i64_word ok5⟩
  · have j0 : ¬ k = 0 := by
      have h0 : (k == 0) = false := by assumption
      simpa using h0
    have j2 : ¬ k = 2 := by
      have h0 : (k == 2) = false := by assumption
      simpa using h0
    have j3 : ¬ k = 3 := by
      have h0 : (k == 3) = false := by assumption
      simpa using h0
    have j1 : ¬ k = 1 := by
      have h0 : (k == 1) = false := by assumption
      simpa using h0
    refine bodyPost_ret (v := .agg #[.string (bs s), .int .i64 k, .int .i64 n]) ?_ rfl ?_
    · rw [results_one_cell rfl]; go_simp
    · have hd := S5.done3 (.string (bs s)) (.int .i64 k) (.int .i64 n)
      exact ⟨⟨bs s, k, n⟩, r5, rfl, g1.and (g3.and (by rw [if_neg (by omega), if_neg (by omega)]; exact (Got.no (by decide) (⟨bs s, k, n⟩ : ExpV) r3).on (bad_not (by decide)) g5 _)), hd.1, hd.2, (by show (bs s).size ≤ _; rw [bs_len6]; exact ok1), i64_byte ok3, i64_word ok5⟩
def pLoc1 (left : Int) : Pr (Int × Int) := pNum.and fun k => pValue.and fun t => if left < k then .no 5 else .val (k, t)
theorem pLocals_succ (n : Nat) (left : Int) (l : List UInt8) : pLocals (n + 1) left l = ((pLoc1 left).and fun x => (pLocals n (left - x.1)).and fun s => .val (List.replicate x.1.toNat (u8 x.2) ++ s)) l := by
  show (pNum.and fun k => pValue.and fun t => if left < k then .no 5 else (pLocals n (left - k)).and fun s => .val (List.replicate k.toNat (u8 t) ++ s)) l = _
  unfold pLoc1
  cases hk : pNum l with
  | bad e => rw [and_bad hk]; rw [and_bad (and_bad hk)]
  | ok k m =>
    rw [and_ok hk]
    cases ht : pValue m with
    | bad e =>
      rw [and_bad ht]
      rw [and_bad ((and_ok hk).trans (and_bad ht))]
    | ok t m2 =>
      rw [and_ok ht]
      by_cases hl : left < k
      · rw [if_pos hl]
        rw [and_bad ((and_ok hk).trans ((and_ok ht).trans (by rw [if_pos hl]; rfl)))]
        rfl
      · rw [if_neg hl]
        rw [and_ok ((and_ok hk).trans ((and_ok ht).trans (by rw [if_neg hl]; rfl)))]
theorem enc_small : ∀ k : Fin 256, (Utf8.encode ((k.1 : Nat) : Int)).size ≤ 4 := by decide +kernel
theorem enc_size {t : Int} (h : 0 ≤ t ∧ t < 256) : (Utf8.encode t).size ≤ 4 := by
  have := enc_small ⟨t.toNat, by omega⟩
  rwa [show (((⟨t.toNat, by omega⟩ : Fin 256).1 : Nat) : Int) = t by simp; omega] at this
theorem enc_kind {t : Int} (h : t = 127 ∨ t = 126) : Utf8.encode t = ⟨#[u8 t]⟩ := by rcases h with rfl | rfl <;> rfl
theorem MovF.setF {B M F : Nat} {w w' : World} (h : MovF B M F w w') (j : Nat) (v : Value) : MovF B M F w (w'.setCell ⟨F, j, none⟩ v) :=
  h.trans ⟨rfl, rfl, rfl, by simp [World.setCell], fun k _ _ _ h3 => Below.heap_setCell _ _ _ _ h3⟩
theorem MovF.then {B M F : Nat} {w w1 w2 : World} (h : MovF B M F w w1) (k : Below w1.heap.size w1 w2) : MovF B M F w w2 := h.trans ((Mov.of_below k).on F)
theorem lib_repeat_i (s : ByteArray) (c : Int) (w : World) (h0 : 0 ≤ c) (hc : c ≤ 1000000) (hs : s.size ≤ 10) :
    Calls Tryz.prog 325 #[.string s, .int .i64 c] w fun e w' => e = .returned (.string (bs (Lib.repeatL s.data.toList c.toNat))) ∧ Below w.heap.size w w' := by
  obtain ⟨k, rfl⟩ := Int.eq_ofNat_of_zero_le h0
  exact lib_repeat s k w (by omega) hs
def DidLoc (w0 : World) (B M bL : Nat) (T : TypeId) (rest : List Value) (r : RV) (w : World) (left : Int) (e : Ending) (w' : World) : Prop :=
  ∃ (x : ByteArray) (kt : Int × Int) (r' : RV) (left' : Int), e = .returned (.string x) ∧ Got (pLoc1 left) r r' kt ∧ RdAt w0 B M T rest r' w' ∧ MovF B M bL w w' ∧ w'.heap[bL]? = some (.cells #[.int .i64 left'] 3) ∧ 0 ≤ left' ∧ left' ≤ left ∧ (x.size : Int) ≤ 4 * (left - left') ∧ (r'.e = 0 → left' = left - kt.1 ∧ 0 ≤ kt.1 ∧ x = bs (List.replicate kt.1.toNat (u8 kt.2)))
theorem Got.val_of {r1 r2 : RV} {t : Int} (h : Got pValue r1 r2 t) (he : r2.e = 0) : t = 127 ∨ t = 126 := by
  rcases h.2 with ⟨h1, h2⟩ | ⟨_, _, h3⟩ | ⟨_, h2, _⟩
  · exact absurd (h2.symm.trans he) h1
  · exact pValue_of h3
  · exact absurd he h2
theorem loc_reads {w0 : World} {B M : Nat} {T : TypeId} {rest : List Value} {r : RV} {w : World} (h : RdAt w0 B M T rest r w) (bL : Nat) (left : Int) (hbx : w.heap[bL]? = some (.cells #[.int .i64 left] 3)) (n1 : bL ≠ B) (n2 : bL ≠ M) (hw : w0.heap.size ≤ bL) (hl : 0 ≤ left ∧ left ≤ 4096) :
    Calls Tryz.prog 324 #[.pointer (some ⟨B, 0, none⟩), .pointer (some ⟨bL, 0, none⟩)] w (DidLoc w0 B M bL T rest r w left) := by
  have c1 := number_reads w0 B M T rest r w h
  have l0 := hl.1
  have l1 := hl.2
  clear h
  go_enter Tryz.func324, Tryz.ntmps324
  go_wp2_with (first
    | (go_at_call 150; (with_reducible refine c1.mono ?_); rintro e w1 ⟨k, r1, rfl, g1, h1, m1, ok1⟩; have hbx1 := (m1.block _ (in_heap6 hbx) n1 n2).trans hbx; have c2 := value_reads w0 B M T rest r1 w1 h1; have k0 := ok1.1; have k1 := ok1.2; clear c1 hbx h1; dsimp only [valInt])
    | (go_at_call 282; (with_reducible refine c2.mono ?_); rintro e w2 ⟨t, r2, rfl, g2, h2, m2, ok2⟩; have hbx2 := (m2.block _ (in_heap6 hbx1) n1 n2).trans hbx1; have mm := m1.trans m2; have c3 := fail_of h2 5; have t0 := ok2.1; have t1 := ok2.2; have x0 : w2.cell? ⟨bL, 0, none⟩ = some (.int .i64 left) := (by simp [World.cell?, hbx2]); have y0 : w2.frozen? ⟨bL, 0, none⟩ = false := (by simp [World.frozen?, hbx2]); clear c2 hbx1 m1 m2; dsimp only [valU8])
    | (go_at_call 138; (with_reducible refine c3.mono ?_); rintro e w3 ⟨rfl, h3, m3⟩; have hbx3 := (m3.block _ (in_heap6 hbx2) n1 n2).trans hbx2; clear x0 y0 c3)
    | (go_at_call 325; have hkl : k ≤ left := (by assumption); (with_reducible refine (lib_repeat_i (Utf8.encode t) k _ k0 (by omega) (by have := enc_size ok2; omega)).mono ?_); rintro e w3 ⟨rfl, hb3⟩))
  · have hlk : left < k := by assumption
    go_ret
    exact ⟨⟨#[]⟩, (k, t), _, left, rfl, g1.and (g2.and (by rw [if_pos hlk]; exact Got.no (by decide) _ _)), h3, (mm.trans m3).on bL, hbx3, l0, Int.le_refl _, by rw [show (⟨#[]⟩ : ByteArray).size = 0 from rfl]; omega, fun e => absurd e (bad_not (by decide))⟩
  · have hlk0 : k ≤ left := by assumption
    have hlk : ¬ left < k := by omega
    refine (lib_repeat_i (Utf8.encode t) k _ k0 (by omega) (by have := enc_size ok2; omega)).mono ?_
    rintro e w3 ⟨rfl, hb3⟩
    dsimp only
    go_wp2
    go_ret
    have h4 := (h2.other 0 (.int .i64 (left - k)) n1 n2 hw).at' hb3
    have m4 := ((mm.on bL).setF 0 (.int .i64 (left - k))).then hb3
    have hs2 : (w2.setCell ⟨bL, 0, none⟩ (.int .i64 (left - k))).heap[bL]? = some (.cells #[.int .i64 (left - k)] 3) := heap_setCell_same w2 bL 0 _ _ (.int .i64 (left - k)) hbx2
    have hbx4 := (hb3.block bL (in_heap6 hs2)).trans hs2
    refine ⟨_, (k, t), r2, left - k, rfl, g1.and (g2.and (by rw [if_neg (by omega)]; exact Got.val _ _)), h4, m4, hbx4, by omega, by omega, ?_, fun e => ⟨rfl, k0, ?_⟩⟩
    · rw [bs_len6, Lib.repeatL_length]
      have h5 := enc_size ok2
      have e5 : (Utf8.encode t).data.toList.length = (Utf8.encode t).size := Array.length_toList
      have h6 : k.toNat * (Utf8.encode t).data.toList.length ≤ k.toNat * 4 := Nat.mul_le_mul_left _ (by omega)
      omega
    · rw [enc_kind (g2.val_of e)]
      have h7 := Lib.repeatL_replicate (u8 t) 1 k.toNat
      rw [Nat.mul_one] at h7
      rw [← h7]
      rfl
end Go.Proofs.YthfipknfdnfalaaGreatDoor
