/-
  Facts and contracts that the proof calls.
-/
import Derived.Test.YtdinpakclmnacaaGreatDoorKfDecInsA
import Derived.Test.YtdinpakclmnacaaGreatDoorKfDecShelf
import Derived.Test.YtdinpakclmnacaaGreatDoorKfModClos
namespace Go.Proofs.YtdinpakclmnacaaGreatDoor
set_option maxRecDepth 100000
set_option maxHeartbeats 16000000
open Go.RowKit
set_option linter.unusedVariables false
structure ResSt (w0 w : World) (B M : Nat) (T : TypeId) (rest : List Value) (Z : Array Value) (t : TypeId) (r : RV) (W : World) : Prop where
  rd : RdAt w0 B M T rest r W
  mov : Mov B M w W
  res : W.heap[w.heap.size]? = some (.cells Z t)
  n1 : w.heap.size ≠ B
  n2 : w.heap.size ≠ M
  hw : w0.heap.size ≤ w.heap.size
theorem ResSt.start {w0 w : World} {B M : Nat} {T : TypeId} {rest : List Value} {r : RV} (h : RdAt w0 B M T rest r w) (Z : Array Value) (t : TypeId) : ResSt w0 w B M T rest Z t r (w.alloc (.cells Z t)) := by
  have hl := h.lt
  exact ⟨h.alloc _, (Mov.refl _ _ _).alloc _, heap_alloc_new _ _, by omega, by omega, h.below.size⟩
theorem ResSt.call {w0 w : World} {B M : Nat} {T : TypeId} {rest : List Value} {Z : Array Value} {t : TypeId} {r r' : RV} {W W' : World} (h : ResSt w0 w B M T rest Z t r W) (m : Mov B M W W') (hr : RdAt w0 B M T rest r' W') : ResSt w0 w B M T rest Z t r' W' :=
  ⟨hr, h.mov.trans m, (m.block _ (in_heap6 h.res) h.n1 h.n2).trans h.res, h.n1, h.n2, h.hw⟩
theorem ResSt.alloc {w0 w : World} {B M : Nat} {T : TypeId} {rest : List Value} {Z : Array Value} {t : TypeId} {r : RV} {W : World} (h : ResSt w0 w B M T rest Z t r W) (o : Obj) : ResSt w0 w B M T rest Z t r (W.alloc o) := h.call ((Mov.refl _ _ _).alloc o) (h.rd.alloc o)
theorem ResSt.f2 {w0 w : World} {B M : Nat} {T : TypeId} {rest : List Value} {u0 u1 : Value} {t : TypeId} {r : RV} {W : World} (h : ResSt w0 w B M T rest #[u0, u1] t r W) :
    W.cell? ⟨w.heap.size, 0, none⟩ = some u0 ∧ W.cell? ⟨w.heap.size, 1, none⟩ = some u1 ∧ W.frozen? ⟨w.heap.size, 0, none⟩ = false ∧ W.frozen? ⟨w.heap.size, 1, none⟩ = false ∧ w.heap.size < W.heap.size := by
  have hb := h.res
  exact ⟨by simp [World.cell?, hb], by simp [World.cell?, hb], by simp [World.frozen?, hb], by simp [World.frozen?, hb], in_heap6 hb⟩
theorem ResSt.f3 {w0 w : World} {B M : Nat} {T : TypeId} {rest : List Value} {u0 u1 u2 : Value} {t : TypeId} {r : RV} {W : World} (h : ResSt w0 w B M T rest #[u0, u1, u2] t r W) :
    W.cell? ⟨w.heap.size, 0, none⟩ = some u0 ∧ W.cell? ⟨w.heap.size, 1, none⟩ = some u1 ∧ W.cell? ⟨w.heap.size, 2, none⟩ = some u2 ∧ W.frozen? ⟨w.heap.size, 0, none⟩ = false ∧ W.frozen? ⟨w.heap.size, 1, none⟩ = false ∧ W.frozen? ⟨w.heap.size, 2, none⟩ = false ∧ w.heap.size < W.heap.size := by
  have hb := h.res
  exact ⟨by simp [World.cell?, hb], by simp [World.cell?, hb], by simp [World.cell?, hb], by simp [World.frozen?, hb], by simp [World.frozen?, hb], by simp [World.frozen?, hb], in_heap6 hb⟩
theorem ResSt.done2 {w0 w : World} {B M : Nat} {T : TypeId} {rest : List Value} {Z : Array Value} {t : TypeId} {r : RV} {W : World} (h : ResSt w0 w B M T rest Z t r W) (v0 v1 : Value) :
    RdAt w0 B M T rest r ((W.setCell ⟨w.heap.size, 0, none⟩ v0).setCell ⟨w.heap.size, 1, none⟩ v1) ∧ Mov B M w ((W.setCell ⟨w.heap.size, 0, none⟩ v0).setCell ⟨w.heap.size, 1, none⟩ v1) :=
  ⟨(h.rd.other 0 _ h.n1 h.n2 h.hw).other 1 _ h.n1 h.n2 h.hw, (h.mov.setNew 0 _ (Nat.le_refl _)).setNew 1 _ (Nat.le_refl _)⟩
theorem ResSt.done3 {w0 w : World} {B M : Nat} {T : TypeId} {rest : List Value} {Z : Array Value} {t : TypeId} {r : RV} {W : World} (h : ResSt w0 w B M T rest Z t r W) (v0 v1 v2 : Value) :
    RdAt w0 B M T rest r (((W.setCell ⟨w.heap.size, 0, none⟩ v0).setCell ⟨w.heap.size, 1, none⟩ v1).setCell ⟨w.heap.size, 2, none⟩ v2) ∧ Mov B M w (((W.setCell ⟨w.heap.size, 0, none⟩ v0).setCell ⟨w.heap.size, 1, none⟩ v1).setCell ⟨w.heap.size, 2, none⟩ v2) :=
  ⟨((h.rd.other 0 _ h.n1 h.n2 h.hw).other 1 _ h.n1 h.n2 h.hw).other 2 _ h.n1 h.n2 h.hw, ((h.mov.setNew 0 _ (Nat.le_refl _)).setNew 1 _ (Nat.le_refl _)).setNew 2 _ (Nat.le_refl _)⟩
theorem enters_value : ∀ args w, (callFunc 228 args).run Tryz.prog w = .ok (.enter 228 args) w := enters_of Tryz.func228 (by kernel_rfl) rfl
theorem value_each (w0 : World) (B M : Nat) (T : TypeId) (rest : List Value) (r : RV) (W : World) (hr : RdAt w0 B M T rest r W) : Calls Tryz.prog 228 (#[.pointer (some ⟨B, 0, none⟩)] ++ #[]) W (Did w0 B M T rest r W pValue valU8 (fun _ _ x => 0 ≤ x ∧ x < 256)) := value_reads w0 B M T rest r W hr
theorem u8_back {n : Int} (h : 0 ≤ n ∧ n < 256) : ((u8 n).toNat : Int) = n := byte_of h.1 h.2
theorem rowU8_map (l : List Int) (h : ∀ x ∈ l, 0 ≤ x ∧ x < 256) : l.flatMap rowU8 = (l.map u8).map fun b => Value.int .u8 (b.toNat : Int) := by
  induction l with
  | nil => rfl
  | cons a l ih =>
    rw [List.flatMap_cons, ih fun x hx => h x (by simp [hx]), List.map_cons, List.map_cons, u8_back (h a (by simp))]
    rfl
theorem kinds_reads (w0 : World) : Reads6 w0 227 pKinds (fun s => .string s) (fun _ _ s => s.size ≤ 4096) := by
  intro B M T rest r w h
  have c1 := list_uint8 enters_value (value_each w0) h
  go_enter Tryz.func227, Tryz.ntmps227
  go_wp2_with (go_at_call 255; (with_reducible refine c1.mono ?_); rintro e w1 ⟨l, r1, v, rfl, g1, h1, m1, hown, hok, hl⟩; have ho : Own w1 w.heap.size 5 v (l.map u8) := (by unfold Own; rw [List.length_map, ← rowU8_map l hok]; exact hown); have hs := own_string (P := Tryz.prog) w1 24 9 5 w.heap.size 5 v (l.map u8) Tryz.underlying24 Tryz.underlying5 Tryz.underlying9 ho)
  go_ret
  exact ⟨_, r1, rfl, g1.map fun l => bs (l.map u8), h1, m1, by simp [ByteArray.size]; exact hl⟩
def okTy (_ _ : World) (t : TyV) : Prop := t.params.size ≤ 4096 ∧ t.results.size ≤ 4096
theorem functype_reads (w0 : World) : Reads6 w0 172 pTy valTy okTy := by
  intro B M T rest r w h
  have S0 := ResSt.start h #[.string ⟨#[]⟩, .string ⟨#[]⟩] 68
  have c1 := is_reads S0.rd 96
  clear h
  go_enter Tryz.func172, Tryz.ntmps172
  go_wp2_with (first
    | (go_at_call 129; (with_reducible refine c1.mono ?_); rintro e w1 ⟨u, r1, rfl, g1, h1, m1, _⟩; have S1 := S0.call m1 h1; have c2 := kinds_reads w0 B M T rest r1 w1 h1; clear c1 S0 h1 m1; dsimp only [valUnit])
    | (go_at_call 227; (with_reducible refine c2.mono ?_); rintro e w2 ⟨p, r2, rfl, g2, h2, m2, hp⟩; have S2 := S1.call m2 h2; have c3 := kinds_reads w0 B M T rest r2 w2 h2; clear c2 S1 h2 m2)
    | (go_at_call 227; (with_reducible refine c3.mono ?_); rintro e w3 ⟨q, r3, rfl, g3, h3, m3, hq⟩; have S3 := S2.call m3 h3; have S4 := S3.alloc (.cells #[.string p, .string q] 68); have c4 := fail_of S4.rd 3; obtain ⟨t0, t1, f0, f1, hl3⟩ := S3.f2; have hlt := S3.rd.lt; clear c3 S2 h3 m3)
    | (go_at_call 115; (with_reducible refine c4.mono ?_); rintro e w5 ⟨rfl, h5, m5⟩; have S5 := S4.call m5 h5; have hb5 := (m5.block w3.heap.size (by simp) (by omega) (by omega)).trans (heap_alloc_new w3 _); have x0 : w5.cell? ⟨w3.heap.size, 0, none⟩ = some (.string p) := (by simp [World.cell?, hb5]); have x1 : w5.cell? ⟨w3.heap.size, 1, none⟩ = some (.string q) := (by simp [World.cell?, hb5]); have hne : w.heap.size ≠ w3.heap.size := (by omega); clear t0 t1 f0 f1 hl3 c4 m5; obtain ⟨t0, t1, f0, f1, hl3⟩ := S5.f2))
  · have hgt : 1 < q.size := by
      have h0 : (1 : Int) < q.size := by assumption
      omega
    refine bodyPost_ret (v := .agg #[.string p, .string q]) ?_ rfl ?_
    · rw [results_one_cell rfl]; go_simp
    · have hd := S5.done2 (.string p) (.string q)
      exact ⟨⟨p, q⟩, _, rfl, g1.and (g2.and (g3.and (by rw [if_pos hgt]; exact Got.no (by decide) _ _))), hd.1, hd.2, hp, hq⟩
  · have hle : ¬ 1 < q.size := by
      have h0 : (q.size : Int) ≤ 1 := by assumption
      omega
    refine bodyPost_ret (v := .agg #[.string p, .string q]) ?_ rfl ?_
    · rw [results_one_cell rfl]; go_simp
    · have hd := S3.done2 (.string p) (.string q)
      exact ⟨⟨p, q⟩, r3, rfl, g1.and (g2.and (g3.and (by rw [if_neg hle]; exact Got.val _ _))), hd.1.alloc _, hd.2.alloc _, hp, hq⟩
theorem Got.on {α β : Type} {P : Pr α} {Q : Pr β} {r r1 r2 : RV} {x : α} {y : β} (g : Got P r r1 x) (he : r1.e ≠ 0) (h : Got Q r1 r2 y) (z : α) : Got P r r2 z := by
  have e2 : r2.e = r1.e := by
    rcases h.2 with ⟨_, h2⟩ | ⟨h1, _⟩ | ⟨h1, _⟩
    · exact h2
    · exact absurd h1 he
    · exact absurd h1 he
  refine ⟨h.1.trans g.1, ?_⟩
  rcases g.2 with ⟨g1, g2⟩ | ⟨_, g2, _⟩ | ⟨g1, g2, g3⟩
  · exact .inl ⟨g1, e2.trans g2⟩
  · exact absurd g2 he
  · exact .inr (.inr ⟨g1, by rw [e2]; exact g2, by rw [e2]; exact g3⟩)
theorem Got.e {α : Type} {P : Pr α} {r r1 : RV} {x : α} (g : Got P r r1 x) (he : r.e ≠ 0) : r1.e ≠ 0 := by
  rcases g.2 with ⟨_, h2⟩ | ⟨h1, _⟩ | ⟨h1, _⟩
  · rw [h2]; exact he
  · exact absurd h1 he
  · exact absurd h1 he
theorem bad_keep {r : RV} {k : Int} (he : r.e ≠ 0) : r.bad k = r := by unfold RV.bad; rw [if_neg he]
theorem bad_not {r : RV} {k : Int} (hk : k ≠ 0) : (r.bad k).e ≠ 0 := bad_e hk
theorem const_65y {w0 : World} {B M : Nat} {T : TypeId} {rest : List Value} {r : RV} {w : World} (h : RdAt w0 B M T rest r w) (kind : Int) (hk : 0 ≤ kind ∧ kind < 256) (r1 : RV) (g1 : Got pOne r r1 65) (hy : kind = 127)
    (c1 : ∀ (B M : Nat) (T : TypeId) (rest : List Value) (w : World), RdAt w0 B M T rest r w → Calls Tryz.prog 114 #[.pointer (some ⟨B, 0, none⟩)] w fun e w' => e = .returned (.int .u8 65) ∧ RdAt w0 B M T rest r1 w' ∧ Mov B M w w') :
    Calls Tryz.prog 229 #[.pointer (some ⟨B, 0, none⟩), .int .u8 kind] w (Did w0 B M T rest r w (pConst kind) valInt okI64) := by
  have hq : (kind == 127) = true := beq_iff_eq.2 hy
  have HY := Lib.hid hy
  clear hy
  go_enter Tryz.func229, Tryz.ntmps229
  go_wp2_with (first
    | (go_at_call 114; (with_reducible refine (c1 _ _ _ _ _ h).mono ?_); rintro e w1 ⟨rfl, h1, m1⟩; have mm1 := m1; have c3 := signed_reads h1 65; clear c1 h)
    | (go_at_call 130; (with_reducible refine c3.mono ?_); rintro e w3 ⟨x, r3, rfl, g3, h3, m3, ok3⟩; have c5 := is_reads h3 11; have b0 := ok3.1; have b1 := ok3.2; clear c3; dsimp only [valInt])
    | (go_at_call 129; (with_reducible refine c5.mono ?_); rintro e w5 ⟨u, r5, rfl, g5, h5, m5, _⟩; clear c5; dsimp only [valUnit]))
  go_ret
  exact ⟨x, r5, rfl, g1.and (by rw [if_neg (by decide), if_pos (by decide)]; exact g3.and (by rw [if_pos (by simp [HY.out])]; exact g5.map fun _ => x)), h5, ((mm1.trans m3).trans m5), b0, b1⟩
theorem const_65n {w0 : World} {B M : Nat} {T : TypeId} {rest : List Value} {r : RV} {w : World} (h : RdAt w0 B M T rest r w) (kind : Int) (hk : 0 ≤ kind ∧ kind < 256) (r1 : RV) (g1 : Got pOne r r1 65) (hy : ¬ kind = 127)
    (c1 : ∀ (B M : Nat) (T : TypeId) (rest : List Value) (w : World), RdAt w0 B M T rest r w → Calls Tryz.prog 114 #[.pointer (some ⟨B, 0, none⟩)] w fun e w' => e = .returned (.int .u8 65) ∧ RdAt w0 B M T rest r1 w' ∧ Mov B M w w') :
    Calls Tryz.prog 229 #[.pointer (some ⟨B, 0, none⟩), .int .u8 kind] w (Did w0 B M T rest r w (pConst kind) valInt okI64) := by
  have hq : (kind == 127) = false := beq_eq_false_iff_ne.2 hy
  have HY := Lib.hid hy
  clear hy
  go_enter Tryz.func229, Tryz.ntmps229
  go_wp2_with (first
    | (go_at_call 114; (with_reducible refine (c1 _ _ _ _ _ h).mono ?_); rintro e w1 ⟨rfl, h1, m1⟩; have mm1 := m1; have c3 := signed_reads h1 65; clear c1 h)
    | (go_at_call 130; (with_reducible refine c3.mono ?_); rintro e w3 ⟨x, r3, rfl, g3, h3, m3, ok3⟩; have c4 := fail_of h3 4; have b0 := ok3.1; have b1 := ok3.2; clear c3; dsimp only [valInt])
    | (go_at_call 115; (with_reducible refine c4.mono ?_); rintro e w4 ⟨rfl, h4, m4⟩; have c5 := is_reads h4 11; clear c4)
    | (go_at_call 129; (with_reducible refine c5.mono ?_); rintro e w5 ⟨u, r5, rfl, g5, h5, m5, _⟩; clear c5; dsimp only [valUnit]))
  go_ret
  exact ⟨x, r5, rfl, g1.and (by rw [if_neg (by decide), if_pos (by decide)]; exact g3.and (by rw [if_neg (by simp [HY.out])]; exact (Got.no (by decide) x r3).on (bad_not (by decide)) g5 x)), h5, (((mm1.trans m3).trans m4).trans m5), b0, b1⟩
theorem const_66y {w0 : World} {B M : Nat} {T : TypeId} {rest : List Value} {r : RV} {w : World} (h : RdAt w0 B M T rest r w) (kind : Int) (hk : 0 ≤ kind ∧ kind < 256) (r1 : RV) (g1 : Got pOne r r1 66) (hy : kind = 127)
    (c1 : ∀ (B M : Nat) (T : TypeId) (rest : List Value) (w : World), RdAt w0 B M T rest r w → Calls Tryz.prog 114 #[.pointer (some ⟨B, 0, none⟩)] w fun e w' => e = .returned (.int .u8 66) ∧ RdAt w0 B M T rest r1 w' ∧ Mov B M w w') :
    Calls Tryz.prog 229 #[.pointer (some ⟨B, 0, none⟩), .int .u8 kind] w (Did w0 B M T rest r w (pConst kind) valInt okI64) := by
  have hq : (kind == 127) = true := beq_iff_eq.2 hy
  have HY := Lib.hid hy
  clear hy
  go_enter Tryz.func229, Tryz.ntmps229
  go_wp2_with (first
    | (go_at_call 114; (with_reducible refine (c1 _ _ _ _ _ h).mono ?_); rintro e w1 ⟨rfl, h1, m1⟩; have mm1 := m1; have c3 := signed_reads h1 66; clear c1 h)
    | (go_at_call 130; (with_reducible refine c3.mono ?_); rintro e w3 ⟨x, r3, rfl, g3, h3, m3, ok3⟩; have c4 := fail_of h3 4; have b0 := ok3.1; have b1 := ok3.2; clear c3; dsimp only [valInt])
    | (go_at_call 115; (with_reducible refine c4.mono ?_); rintro e w4 ⟨rfl, h4, m4⟩; have c5 := is_reads h4 11; clear c4)
    | (go_at_call 129; (with_reducible refine c5.mono ?_); rintro e w5 ⟨u, r5, rfl, g5, h5, m5, _⟩; clear c5; dsimp only [valUnit]))
  go_ret
  exact ⟨x, r5, rfl, g1.and (by rw [if_neg (by decide), if_pos (by decide)]; exact g3.and (by rw [if_neg (by simp [HY.out])]; exact (Got.no (by decide) x r3).on (bad_not (by decide)) g5 x)), h5, (((mm1.trans m3).trans m4).trans m5), b0, b1⟩
theorem const_66n {w0 : World} {B M : Nat} {T : TypeId} {rest : List Value} {r : RV} {w : World} (h : RdAt w0 B M T rest r w) (kind : Int) (hk : 0 ≤ kind ∧ kind < 256) (r1 : RV) (g1 : Got pOne r r1 66) (hy : ¬ kind = 127)
    (c1 : ∀ (B M : Nat) (T : TypeId) (rest : List Value) (w : World), RdAt w0 B M T rest r w → Calls Tryz.prog 114 #[.pointer (some ⟨B, 0, none⟩)] w fun e w' => e = .returned (.int .u8 66) ∧ RdAt w0 B M T rest r1 w' ∧ Mov B M w w') :
    Calls Tryz.prog 229 #[.pointer (some ⟨B, 0, none⟩), .int .u8 kind] w (Did w0 B M T rest r w (pConst kind) valInt okI64) := by
  have hq : (kind == 127) = false := beq_eq_false_iff_ne.2 hy
  have HY := Lib.hid hy
  clear hy
  go_enter Tryz.func229, Tryz.ntmps229
  go_wp2_with (first
    | (go_at_call 114; (with_reducible refine (c1 _ _ _ _ _ h).mono ?_); rintro e w1 ⟨rfl, h1, m1⟩; have mm1 := m1; have c3 := signed_reads h1 66; clear c1 h)
    | (go_at_call 130; (with_reducible refine c3.mono ?_); rintro e w3 ⟨x, r3, rfl, g3, h3, m3, ok3⟩; have c5 := is_reads h3 11; have b0 := ok3.1; have b1 := ok3.2; clear c3; dsimp only [valInt])
    | (go_at_call 129; (with_reducible refine c5.mono ?_); rintro e w5 ⟨u, r5, rfl, g5, h5, m5, _⟩; clear c5; dsimp only [valUnit]))
  go_ret
  exact ⟨x, r5, rfl, g1.and (by rw [if_neg (by decide), if_pos (by decide)]; exact g3.and (by rw [if_pos (by simp [HY.out])]; exact g5.map fun _ => x)), h5, ((mm1.trans m3).trans m5), b0, b1⟩
theorem const_35y {w0 : World} {B M : Nat} {T : TypeId} {rest : List Value} {r : RV} {w : World} (h : RdAt w0 B M T rest r w) (kind : Int) (hk : 0 ≤ kind ∧ kind < 256) (r1 : RV) (g1 : Got pOne r r1 35) (hy : kind = 127)
    (c1 : ∀ (B M : Nat) (T : TypeId) (rest : List Value) (w : World), RdAt w0 B M T rest r w → Calls Tryz.prog 114 #[.pointer (some ⟨B, 0, none⟩)] w fun e w' => e = .returned (.int .u8 35) ∧ RdAt w0 B M T rest r1 w' ∧ Mov B M w w') :
    Calls Tryz.prog 229 #[.pointer (some ⟨B, 0, none⟩), .int .u8 kind] w (Did w0 B M T rest r w (pConst kind) valInt okI64) := by
  have hq : (kind == 127) = true := beq_iff_eq.2 hy
  have HY := Lib.hid hy
  clear hy
  go_enter Tryz.func229, Tryz.ntmps229
  go_wp2_with (first
    | (go_at_call 114; (with_reducible refine (c1 _ _ _ _ _ h).mono ?_); rintro e w1 ⟨rfl, h1, m1⟩; have c2 := fail_of h1 3; clear c1 h)
    | (go_at_call 115; (with_reducible refine c2.mono ?_); rintro e w2 ⟨rfl, h2, m2⟩; have mm1 := m1.trans m2; have c3 := signed_reads h2 35; clear c2)
    | (go_at_call 130; (with_reducible refine c3.mono ?_); rintro e w3 ⟨x, r3, rfl, g3, h3, m3, ok3⟩; have c4 := fail_of h3 4; have b0 := ok3.1; have b1 := ok3.2; clear c3; dsimp only [valInt])
    | (go_at_call 115; (with_reducible refine c4.mono ?_); rintro e w4 ⟨rfl, h4, m4⟩; have c5 := is_reads h4 11; clear c4)
    | (go_at_call 129; (with_reducible refine c5.mono ?_); rintro e w5 ⟨u, r5, rfl, g5, h5, m5, _⟩; clear c5; dsimp only [valUnit]))
  go_ret
  exact ⟨x, r5, rfl, g1.and (by rw [if_pos (by decide)]; exact ((((Got.no (by decide) x r1).on (bad_not (by decide)) g3 x)).on (g3.e (bad_not (by decide))) (by rw [bad_keep (g3.e (bad_not (by decide)))] at g5; exact g5) x)), h5, (((mm1.trans m3).trans m4).trans m5), b0, b1⟩
theorem const_35n {w0 : World} {B M : Nat} {T : TypeId} {rest : List Value} {r : RV} {w : World} (h : RdAt w0 B M T rest r w) (kind : Int) (hk : 0 ≤ kind ∧ kind < 256) (r1 : RV) (g1 : Got pOne r r1 35) (hy : ¬ kind = 127)
    (c1 : ∀ (B M : Nat) (T : TypeId) (rest : List Value) (w : World), RdAt w0 B M T rest r w → Calls Tryz.prog 114 #[.pointer (some ⟨B, 0, none⟩)] w fun e w' => e = .returned (.int .u8 35) ∧ RdAt w0 B M T rest r1 w' ∧ Mov B M w w') :
    Calls Tryz.prog 229 #[.pointer (some ⟨B, 0, none⟩), .int .u8 kind] w (Did w0 B M T rest r w (pConst kind) valInt okI64) := by
  have hq : (kind == 127) = false := beq_eq_false_iff_ne.2 hy
  have HY := Lib.hid hy
  clear hy
  go_enter Tryz.func229, Tryz.ntmps229
  go_wp2_with (first
    | (go_at_call 114; (with_reducible refine (c1 _ _ _ _ _ h).mono ?_); rintro e w1 ⟨rfl, h1, m1⟩; have c2 := fail_of h1 3; clear c1 h)
    | (go_at_call 115; (with_reducible refine c2.mono ?_); rintro e w2 ⟨rfl, h2, m2⟩; have mm1 := m1.trans m2; have c3 := signed_reads h2 35; clear c2)
    | (go_at_call 130; (with_reducible refine c3.mono ?_); rintro e w3 ⟨x, r3, rfl, g3, h3, m3, ok3⟩; have c5 := is_reads h3 11; have b0 := ok3.1; have b1 := ok3.2; clear c3; dsimp only [valInt])
    | (go_at_call 129; (with_reducible refine c5.mono ?_); rintro e w5 ⟨u, r5, rfl, g5, h5, m5, _⟩; clear c5; dsimp only [valUnit]))
  go_ret
  exact ⟨x, r5, rfl, g1.and (by rw [if_pos (by decide)]; exact (((Got.no (by decide) x r1).on (bad_not (by decide)) g3 x).on (g3.e (bad_not (by decide))) g5 x)), h5, ((mm1.trans m3).trans m5), b0, b1⟩
theorem const_67y {w0 : World} {B M : Nat} {T : TypeId} {rest : List Value} {r : RV} {w : World} (h : RdAt w0 B M T rest r w) (kind : Int) (hk : 0 ≤ kind ∧ kind < 256) (r1 : RV) (g1 : Got pOne r r1 67) (hy : kind = 127)
    (c1 : ∀ (B M : Nat) (T : TypeId) (rest : List Value) (w : World), RdAt w0 B M T rest r w → Calls Tryz.prog 114 #[.pointer (some ⟨B, 0, none⟩)] w fun e w' => e = .returned (.int .u8 67) ∧ RdAt w0 B M T rest r1 w' ∧ Mov B M w w') :
    Calls Tryz.prog 229 #[.pointer (some ⟨B, 0, none⟩), .int .u8 kind] w (Did w0 B M T rest r w (pConst kind) valInt okI64) := by
  have hq : (kind == 127) = true := beq_iff_eq.2 hy
  have HY := Lib.hid hy
  clear hy
  go_enter Tryz.func229, Tryz.ntmps229
  go_wp2_with (first
    | (go_at_call 114; (with_reducible refine (c1 _ _ _ _ _ h).mono ?_); rintro e w1 ⟨rfl, h1, m1⟩; have c2 := fail_of h1 3; clear c1 h)
    | (go_at_call 115; (with_reducible refine c2.mono ?_); rintro e w2 ⟨rfl, h2, m2⟩; have mm1 := m1.trans m2; have c3 := signed_reads h2 67; clear c2)
    | (go_at_call 130; (with_reducible refine c3.mono ?_); rintro e w3 ⟨x, r3, rfl, g3, h3, m3, ok3⟩; have c4 := fail_of h3 4; have b0 := ok3.1; have b1 := ok3.2; clear c3; dsimp only [valInt])
    | (go_at_call 115; (with_reducible refine c4.mono ?_); rintro e w4 ⟨rfl, h4, m4⟩; have c5 := is_reads h4 11; clear c4)
    | (go_at_call 129; (with_reducible refine c5.mono ?_); rintro e w5 ⟨u, r5, rfl, g5, h5, m5, _⟩; clear c5; dsimp only [valUnit]))
  go_ret
  exact ⟨x, r5, rfl, g1.and (by rw [if_pos (by decide)]; exact ((((Got.no (by decide) x r1).on (bad_not (by decide)) g3 x)).on (g3.e (bad_not (by decide))) (by rw [bad_keep (g3.e (bad_not (by decide)))] at g5; exact g5) x)), h5, (((mm1.trans m3).trans m4).trans m5), b0, b1⟩
theorem const_67n {w0 : World} {B M : Nat} {T : TypeId} {rest : List Value} {r : RV} {w : World} (h : RdAt w0 B M T rest r w) (kind : Int) (hk : 0 ≤ kind ∧ kind < 256) (r1 : RV) (g1 : Got pOne r r1 67) (hy : ¬ kind = 127)
    (c1 : ∀ (B M : Nat) (T : TypeId) (rest : List Value) (w : World), RdAt w0 B M T rest r w → Calls Tryz.prog 114 #[.pointer (some ⟨B, 0, none⟩)] w fun e w' => e = .returned (.int .u8 67) ∧ RdAt w0 B M T rest r1 w' ∧ Mov B M w w') :
    Calls Tryz.prog 229 #[.pointer (some ⟨B, 0, none⟩), .int .u8 kind] w (Did w0 B M T rest r w (pConst kind) valInt okI64) := by
  have hq : (kind == 127) = false := beq_eq_false_iff_ne.2 hy
  have HY := Lib.hid hy
  clear hy
  go_enter Tryz.func229, Tryz.ntmps229
  go_wp2_with (first
    | (go_at_call 114; (with_reducible refine (c1 _ _ _ _ _ h).mono ?_); rintro e w1 ⟨rfl, h1, m1⟩; have c2 := fail_of h1 3; clear c1 h)
    | (go_at_call 115; (with_reducible refine c2.mono ?_); rintro e w2 ⟨rfl, h2, m2⟩; have mm1 := m1.trans m2; have c3 := signed_reads h2 67; clear c2)
    | (go_at_call 130; (with_reducible refine c3.mono ?_); rintro e w3 ⟨x, r3, rfl, g3, h3, m3, ok3⟩; have c5 := is_reads h3 11; have b0 := ok3.1; have b1 := ok3.2; clear c3; dsimp only [valInt])
    | (go_at_call 129; (with_reducible refine c5.mono ?_); rintro e w5 ⟨u, r5, rfl, g5, h5, m5, _⟩; clear c5; dsimp only [valUnit]))
  go_ret
  exact ⟨x, r5, rfl, g1.and (by rw [if_pos (by decide)]; exact (((Got.no (by decide) x r1).on (bad_not (by decide)) g3 x).on (g3.e (bad_not (by decide))) g5 x)), h5, ((mm1.trans m3).trans m5), b0, b1⟩
theorem const_68y {w0 : World} {B M : Nat} {T : TypeId} {rest : List Value} {r : RV} {w : World} (h : RdAt w0 B M T rest r w) (kind : Int) (hk : 0 ≤ kind ∧ kind < 256) (r1 : RV) (g1 : Got pOne r r1 68) (hy : kind = 127)
    (c1 : ∀ (B M : Nat) (T : TypeId) (rest : List Value) (w : World), RdAt w0 B M T rest r w → Calls Tryz.prog 114 #[.pointer (some ⟨B, 0, none⟩)] w fun e w' => e = .returned (.int .u8 68) ∧ RdAt w0 B M T rest r1 w' ∧ Mov B M w w') :
    Calls Tryz.prog 229 #[.pointer (some ⟨B, 0, none⟩), .int .u8 kind] w (Did w0 B M T rest r w (pConst kind) valInt okI64) := by
  have hq : (kind == 127) = true := beq_iff_eq.2 hy
  have HY := Lib.hid hy
  clear hy
  go_enter Tryz.func229, Tryz.ntmps229
  go_wp2_with (first
    | (go_at_call 114; (with_reducible refine (c1 _ _ _ _ _ h).mono ?_); rintro e w1 ⟨rfl, h1, m1⟩; have c2 := fail_of h1 3; clear c1 h)
    | (go_at_call 115; (with_reducible refine c2.mono ?_); rintro e w2 ⟨rfl, h2, m2⟩; have mm1 := m1.trans m2; have c3 := signed_reads h2 68; clear c2)
    | (go_at_call 130; (with_reducible refine c3.mono ?_); rintro e w3 ⟨x, r3, rfl, g3, h3, m3, ok3⟩; have c4 := fail_of h3 4; have b0 := ok3.1; have b1 := ok3.2; clear c3; dsimp only [valInt])
    | (go_at_call 115; (with_reducible refine c4.mono ?_); rintro e w4 ⟨rfl, h4, m4⟩; have c5 := is_reads h4 11; clear c4)
    | (go_at_call 129; (with_reducible refine c5.mono ?_); rintro e w5 ⟨u, r5, rfl, g5, h5, m5, _⟩; clear c5; dsimp only [valUnit]))
  go_ret
  exact ⟨x, r5, rfl, g1.and (by rw [if_pos (by decide)]; exact ((((Got.no (by decide) x r1).on (bad_not (by decide)) g3 x)).on (g3.e (bad_not (by decide))) (by rw [bad_keep (g3.e (bad_not (by decide)))] at g5; exact g5) x)), h5, (((mm1.trans m3).trans m4).trans m5), b0, b1⟩
theorem const_68n {w0 : World} {B M : Nat} {T : TypeId} {rest : List Value} {r : RV} {w : World} (h : RdAt w0 B M T rest r w) (kind : Int) (hk : 0 ≤ kind ∧ kind < 256) (r1 : RV) (g1 : Got pOne r r1 68) (hy : ¬ kind = 127)
    (c1 : ∀ (B M : Nat) (T : TypeId) (rest : List Value) (w : World), RdAt w0 B M T rest r w → Calls Tryz.prog 114 #[.pointer (some ⟨B, 0, none⟩)] w fun e w' => e = .returned (.int .u8 68) ∧ RdAt w0 B M T rest r1 w' ∧ Mov B M w w') :
    Calls Tryz.prog 229 #[.pointer (some ⟨B, 0, none⟩), .int .u8 kind] w (Did w0 B M T rest r w (pConst kind) valInt okI64) := by
  have hq : (kind == 127) = false := beq_eq_false_iff_ne.2 hy
  have HY := Lib.hid hy
  clear hy
  go_enter Tryz.func229, Tryz.ntmps229
  go_wp2_with (first
    | (go_at_call 114; (with_reducible refine (c1 _ _ _ _ _ h).mono ?_); rintro e w1 ⟨rfl, h1, m1⟩; have c2 := fail_of h1 3; clear c1 h)
    | (go_at_call 115; (with_reducible refine c2.mono ?_); rintro e w2 ⟨rfl, h2, m2⟩; have mm1 := m1.trans m2; have c3 := signed_reads h2 68; clear c2)
    | (go_at_call 130; (with_reducible refine c3.mono ?_); rintro e w3 ⟨x, r3, rfl, g3, h3, m3, ok3⟩; have c5 := is_reads h3 11; have b0 := ok3.1; have b1 := ok3.2; clear c3; dsimp only [valInt])
    | (go_at_call 129; (with_reducible refine c5.mono ?_); rintro e w5 ⟨u, r5, rfl, g5, h5, m5, _⟩; clear c5; dsimp only [valUnit]))
  go_ret
  exact ⟨x, r5, rfl, g1.and (by rw [if_pos (by decide)]; exact (((Got.no (by decide) x r1).on (bad_not (by decide)) g3 x).on (g3.e (bad_not (by decide))) g5 x)), h5, ((mm1.trans m3).trans m5), b0, b1⟩
theorem const_oy {w0 : World} {B M : Nat} {T : TypeId} {rest : List Value} {r : RV} {w : World} (h : RdAt w0 B M T rest r w) (kind : Int) (hk : 0 ≤ kind ∧ kind < 256) (n : Int) (r1 : RV) (g1 : Got pOne r r1 n) (hn : 0 ≤ n ∧ n < 256) (hne : n ≠ 65 ∧ n ≠ 66 ∧ n ≠ 35 ∧ n ≠ 67 ∧ n ≠ 68) (hy : kind = 127)
    (c1 : ∀ (B M : Nat) (T : TypeId) (rest : List Value) (w : World), RdAt w0 B M T rest r w → Calls Tryz.prog 114 #[.pointer (some ⟨B, 0, none⟩)] w fun e w' => e = .returned (.int .u8 n) ∧ RdAt w0 B M T rest r1 w' ∧ Mov B M w w') :
    Calls Tryz.prog 229 #[.pointer (some ⟨B, 0, none⟩), .int .u8 kind] w (Did w0 B M T rest r w (pConst kind) valInt okI64) := by
  have hq : (kind == 127) = true := beq_iff_eq.2 hy
  have HY := Lib.hid hy
  clear hy
  have q1 : (n == 65) = false := beq_eq_false_iff_ne.2 hne.1
  have q2 : (n == 66) = false := beq_eq_false_iff_ne.2 hne.2.1
  have q3 : (n == 35) = false := beq_eq_false_iff_ne.2 hne.2.2.1
  have q4 : (n == 67) = false := beq_eq_false_iff_ne.2 hne.2.2.2.1
  have q5 : (n == 68) = false := beq_eq_false_iff_ne.2 hne.2.2.2.2
  have n0 := hn.1
  have n1 := hn.2
  go_enter Tryz.func229, Tryz.ntmps229
  go_wp2_with (first
    | (go_at_call 114; (with_reducible refine (c1 _ _ _ _ _ h).mono ?_); rintro e w1 ⟨rfl, h1, m1⟩; have c2 := fail_of h1 2; clear c1 h)
    | (go_at_call 115; (with_reducible refine c2.mono ?_); rintro e w2 ⟨rfl, h2, m2⟩; have mm1 := m1.trans m2; have c3 := signed_reads h2 n; clear c2)
    | (go_at_call 130; (with_reducible refine c3.mono ?_); rintro e w3 ⟨x, r3, rfl, g3, h3, m3, ok3⟩; have c4 := fail_of h3 4; have b0 := ok3.1; have b1 := ok3.2; clear c3; dsimp only [valInt])
    | (go_at_call 115; (with_reducible refine c4.mono ?_); rintro e w4 ⟨rfl, h4, m4⟩; have c5 := is_reads h4 11; clear c4)
    | (go_at_call 129; (with_reducible refine c5.mono ?_); rintro e w5 ⟨u, r5, rfl, g5, h5, m5, _⟩; clear c5; dsimp only [valUnit]))
  go_ret
  exact ⟨x, r5, rfl, g1.and (by rw [if_neg (by omega), if_neg (by omega)]; exact ((((Got.no (by decide) x r1).on (bad_not (by decide)) g3 x)).on (g3.e (bad_not (by decide))) (by rw [bad_keep (g3.e (bad_not (by decide)))] at g5; exact g5) x)), h5, (((mm1.trans m3).trans m4).trans m5), b0, b1⟩
theorem const_on {w0 : World} {B M : Nat} {T : TypeId} {rest : List Value} {r : RV} {w : World} (h : RdAt w0 B M T rest r w) (kind : Int) (hk : 0 ≤ kind ∧ kind < 256) (n : Int) (r1 : RV) (g1 : Got pOne r r1 n) (hn : 0 ≤ n ∧ n < 256) (hne : n ≠ 65 ∧ n ≠ 66 ∧ n ≠ 35 ∧ n ≠ 67 ∧ n ≠ 68) (hy : ¬ kind = 127)
    (c1 : ∀ (B M : Nat) (T : TypeId) (rest : List Value) (w : World), RdAt w0 B M T rest r w → Calls Tryz.prog 114 #[.pointer (some ⟨B, 0, none⟩)] w fun e w' => e = .returned (.int .u8 n) ∧ RdAt w0 B M T rest r1 w' ∧ Mov B M w w') :
    Calls Tryz.prog 229 #[.pointer (some ⟨B, 0, none⟩), .int .u8 kind] w (Did w0 B M T rest r w (pConst kind) valInt okI64) := by
  have hq : (kind == 127) = false := beq_eq_false_iff_ne.2 hy
  have HY := Lib.hid hy
  clear hy
  have q1 : (n == 65) = false := beq_eq_false_iff_ne.2 hne.1
  have q2 : (n == 66) = false := beq_eq_false_iff_ne.2 hne.2.1
  have q3 : (n == 35) = false := beq_eq_false_iff_ne.2 hne.2.2.1
  have q4 : (n == 67) = false := beq_eq_false_iff_ne.2 hne.2.2.2.1
  have q5 : (n == 68) = false := beq_eq_false_iff_ne.2 hne.2.2.2.2
  have n0 := hn.1
  have n1 := hn.2
  go_enter Tryz.func229, Tryz.ntmps229
  go_wp2_with (first
    | (go_at_call 114; (with_reducible refine (c1 _ _ _ _ _ h).mono ?_); rintro e w1 ⟨rfl, h1, m1⟩; have c2 := fail_of h1 2; clear c1 h)
    | (go_at_call 115; (with_reducible refine c2.mono ?_); rintro e w2 ⟨rfl, h2, m2⟩; have mm1 := m1.trans m2; have c3 := signed_reads h2 n; clear c2)
    | (go_at_call 130; (with_reducible refine c3.mono ?_); rintro e w3 ⟨x, r3, rfl, g3, h3, m3, ok3⟩; have c5 := is_reads h3 11; have b0 := ok3.1; have b1 := ok3.2; clear c3; dsimp only [valInt])
    | (go_at_call 129; (with_reducible refine c5.mono ?_); rintro e w5 ⟨u, r5, rfl, g5, h5, m5, _⟩; clear c5; dsimp only [valUnit]))
  go_ret
  exact ⟨x, r5, rfl, g1.and (by rw [if_neg (by omega), if_neg (by omega)]; exact (((Got.no (by decide) x r1).on (bad_not (by decide)) g3 x).on (g3.e (bad_not (by decide))) g5 x)), h5, ((mm1.trans m3).trans m5), b0, b1⟩
theorem constant_reads {w0 : World} {B M : Nat} {T : TypeId} {rest : List Value} {r : RV} {w : World} (h : RdAt w0 B M T rest r w) (kind : Int) (hk : 0 ≤ kind ∧ kind < 256) :
    Calls Tryz.prog 229 #[.pointer (some ⟨B, 0, none⟩), .int .u8 kind] w (Did w0 B M T rest r w (pConst kind) valInt okI64) := by
  obtain ⟨n, r1, n0, n1, g1, c1⟩ := one_det w0 r
  by_cases hy : kind = 127
  · rcases (show n = 65 ∨ n = 66 ∨ n = 35 ∨ n = 67 ∨ n = 68 ∨ (n ≠ 65 ∧ n ≠ 66 ∧ n ≠ 35 ∧ n ≠ 67 ∧ n ≠ 68) by omega) with rfl | rfl | rfl | rfl | rfl | hne
    · exact const_65y h kind hk r1 g1 hy c1
    · exact const_66y h kind hk r1 g1 hy c1
    · exact const_35y h kind hk r1 g1 hy c1
    · exact const_67y h kind hk r1 g1 hy c1
    · exact const_68y h kind hk r1 g1 hy c1
    · exact const_oy h kind hk n r1 g1 ⟨n0, n1⟩ hne hy c1
  · rcases (show n = 65 ∨ n = 66 ∨ n = 35 ∨ n = 67 ∨ n = 68 ∨ (n ≠ 65 ∧ n ≠ 66 ∧ n ≠ 35 ∧ n ≠ 67 ∧ n ≠ 68) by omega) with rfl | rfl | rfl | rfl | rfl | hne
    · exact const_65n h kind hk r1 g1 hy c1
    · exact const_66n h kind hk r1 g1 hy c1
    · exact const_35n h kind hk r1 g1 hy c1
    · exact const_67n h kind hk r1 g1 hy c1
    · exact const_68n h kind hk r1 g1 hy c1
    · exact const_on h kind hk n r1 g1 ⟨n0, n1⟩ hne hy c1
def okMem (_ _ : World) (t : MemV) : Prop := inI64 t.min ∧ inI64 t.max
def okGlob (_ _ : World) (t : GlobV) : Prop := inI64 t.type ∧ inI64 t.init
def okExp (_ _ : World) (t : ExpV) : Prop := t.name.size ≤ 281474976710656 ∧ inI64 t.kind ∧ inI64 t.index
def okDat (_ _ : World) (t : DatV) : Prop := inI64 t.offset ∧ t.bytes.size ≤ 281474976710656
theorem bs_len6 (l : List UInt8) : (bs l).size = l.length := by simp [bs, ByteArray.size]
theorem i64_word {n : Int} (h : 0 ≤ n ∧ n < 4294967296) : inI64 n := by unfold inI64; omega
theorem i64_byte {n : Int} (h : 0 ≤ n ∧ n < 256) : inI64 n := by unfold inI64; omega
theorem memory_reads (w0 : World) : Reads6 w0 176 pMem valMem okMem := by
  intro B M T rest r w h
  obtain ⟨n, r1, n0, n1, g1, c1⟩ := one_det w0 r
  have S0 := ResSt.start h #[.int .i64 0, .int .i64 0] 74
  clear h
  rcases (show n = 0 ∨ n = 1 ∨ (n ≠ 0 ∧ n ≠ 1) by omega) with rfl | rfl | hne
  · go_enter Tryz.func176, Tryz.ntmps176
    go_wp2_with (first
      | (go_at_call 114; (with_reducible refine (c1 _ _ _ _ _ S0.rd).mono ?_); rintro e w1 ⟨rfl, h1, m1⟩; have S1 := S0.call m1 h1; have c2 := number_reads w0 B M T rest r1 w1 h1; clear c1 S0 h1 m1)
      | (go_at_call 127; (with_reducible refine c2.mono ?_); rintro e w2 ⟨a, r2, rfl, g2, h2, m2, ok2⟩; have S2 := S1.call m2 h2; obtain ⟨t0, t1, f0, f1, hl⟩ := S2.f2; clear c2 S1 h2 m2; dsimp only [valInt]))
    refine bodyPost_ret (v := .agg #[.int .i64 a, .int .i64 (-1)]) ?_ rfl ?_
    · rw [results_one_cell rfl]; go_simp
    · have hd := S2.done2 (.int .i64 a) (.int .i64 (-1))
      exact ⟨⟨a, -1⟩, r2, rfl, g1.and (by rw [if_pos rfl]; exact g2.map fun a => (⟨a, -1⟩ : MemV)), hd.1, hd.2, i64_word ok2, (by show inI64 (-1); exact ⟨by decide, by decide⟩)⟩
  · go_enter Tryz.func176, Tryz.ntmps176
    go_wp2_with (first
      | (go_at_call 114; (with_reducible refine (c1 _ _ _ _ _ S0.rd).mono ?_); rintro e w1 ⟨rfl, h1, m1⟩; have S1 := S0.call m1 h1; have c2 := number_reads w0 B M T rest r1 w1 h1; clear c1 S0 h1 m1)
      | (go_at_call 127; (with_reducible refine c2.mono ?_); rintro e w2 ⟨a, r2, rfl, g2, h2, m2, ok2⟩; have S2 := S1.call m2 h2; have c3 := number_reads w0 B M T rest r2 w2 h2; clear c2 S1 h2 m2; dsimp only [valInt])
      | (go_at_call 127; (with_reducible refine c3.mono ?_); rintro e w3 ⟨b, r3, rfl, g3, h3, m3, ok3⟩; have S3 := S2.call m3 h3; obtain ⟨t0, t1, f0, f1, hl⟩ := S3.f2; clear c3 S2 h3 m3; dsimp only [valInt]))
    refine bodyPost_ret (v := .agg #[.int .i64 a, .int .i64 b]) ?_ rfl ?_
    · rw [results_one_cell rfl]; go_simp
    · have hd := S3.done2 (.int .i64 a) (.int .i64 b)
      exact ⟨⟨a, b⟩, r3, rfl, g1.and (by rw [if_neg (by decide), if_pos rfl]; exact g2.and (g3.map fun b => (⟨a, b⟩ : MemV))), hd.1, hd.2, i64_word ok2, i64_word ok3⟩
  · have q0 : (n == 0) = false := beq_eq_false_iff_ne.2 hne.1
    have q1 : (n == 1) = false := beq_eq_false_iff_ne.2 hne.2
    go_enter Tryz.func176, Tryz.ntmps176
    go_wp2_with (first
      | (go_at_call 114; (with_reducible refine (c1 _ _ _ _ _ S0.rd).mono ?_); rintro e w1 ⟨rfl, h1, m1⟩; have S1 := S0.call m1 h1; have c2 := fail_of h1 2; clear c1 S0 h1 m1)
      | (go_at_call 115; (with_reducible refine c2.mono ?_); rintro e w2 ⟨rfl, h2, m2⟩; have S2 := S1.call m2 h2; obtain ⟨t0, t1, f0, f1, hl⟩ := S2.f2; clear c2 S1 h2 m2))
    refine bodyPost_ret (v := .agg #[.int .i64 0, .int .i64 0]) ?_ rfl ?_
    · rw [results_one_cell rfl]; go_simp
    · have hd := S2.done2 (.int .i64 0) (.int .i64 0)
      exact ⟨⟨0, 0⟩, _, rfl, g1.and (by rw [if_neg hne.1, if_neg hne.2]; exact Got.no (by decide) _ _), hd.1, hd.2, ⟨by decide, by decide⟩, ⟨by decide, by decide⟩⟩
theorem data_reads (w0 : World) : Reads6 w0 183 pDat valDat okDat := by
  intro B M T rest r w h
  have S0 := ResSt.start h #[.int .i64 0, .string ⟨#[]⟩] 81
  have c1 := number_reads w0 B M T rest r _ S0.rd
  clear h
  go_enter Tryz.func183, Tryz.ntmps183
  go_wp2_with (first
    | (go_at_call 127; (with_reducible refine c1.mono ?_); rintro e w1 ⟨n, r1, rfl, g1, h1, m1, ok1⟩; have S1 := S0.call m1 h1; have c2 := fail_of h1 3; have c3 := constant_reads h1 127 ⟨by decide, by decide⟩; clear c1 S0 h1 m1; dsimp only [valInt])
    | (go_at_call 115; (with_reducible refine c2.mono ?_); rintro e w2 ⟨rfl, h2, m2⟩; have S2 := S1.call m2 h2; have c3b := constant_reads h2 127 ⟨by decide, by decide⟩; clear c2 c3 S1 h2 m2)
    | (go_at_call 229; (with_reducible refine c3.mono ?_); rintro e w3 ⟨o, r3, rfl, g3, h3, m3, ok3⟩; have S3 := S1.call m3 h3; have c4 := text_reads h3; clear c3 S1 h3 m3; dsimp only [valInt])
    | (go_at_call 229; (with_reducible refine c3b.mono ?_); rintro e w3 ⟨o, r3, rfl, g3, h3, m3, ok3⟩; have S3 := S2.call m3 h3; have c4 := text_reads h3; clear c3b S2 h3 m3; dsimp only [valInt])
    | (go_at_call 184; (with_reducible refine c4.mono ?_); rintro e w4 ⟨l, r4, rfl, g4, h4, m4, hl1, hl2⟩; have S4 := S3.call m4 h4; have hsz : (bs l).size ≤ 281474976710656 := (by have e1 : r4.s = r3.s := g4.1; have e2 := h4.size; have e3 := h4.pos; rw [bs_len6]; omega); have c5 := lib_clone (bs l) w4 hsz; have HL := Lib.hid hl2; clear hl2 c4 S3 h4 m4)
    | (go_at_call 230; (with_reducible refine c5.mono ?_); rintro e w5 ⟨rfl, hb5⟩; have S5 := S4.call (Mov.of_below hb5) (S4.rd.at' hb5); obtain ⟨t0, t1, f0, f1, hl⟩ := S5.f2; clear c5 S4 hb5))
  · have hn : n ≠ 0 := by
      have h0 : (n != 0) = true := by assumption
      simpa using h0
    refine bodyPost_ret (v := .agg #[.int .i64 o, .string (bs l)]) ?_ rfl ?_
    · rw [results_one_cell rfl]; go_simp
    · have hd := S5.done2 (.int .i64 o) (.string (bs l))
      exact ⟨⟨o, bs l⟩, r4, rfl, g1.and (by rw [if_neg hn]; exact ((Got.no (by decide) (⟨o, bs l⟩ : DatV) r1).on (bad_not (by decide)) g3 ⟨o, bs l⟩).on (g3.e (bad_not (by decide))) g4 _), hd.1, hd.2, ok3, hsz⟩
  · have hn : n = 0 := by
      have h0 : (n != 0) = false := by assumption
      simpa using h0
    refine bodyPost_ret (v := .agg #[.int .i64 o, .string (bs l)]) ?_ rfl ?_
    · rw [results_one_cell rfl]; go_simp
    · have hd := S5.done2 (.int .i64 o) (.string (bs l))
      exact ⟨⟨o, bs l⟩, r4, rfl, g1.and (by rw [if_pos hn]; exact g3.and (g4.map fun s => (⟨o, bs s⟩ : DatV))), hd.1, hd.2, ok3, hsz⟩
theorem name_reads {w0 : World} (hLaid : Laid w0) {B M : Nat} {T : TypeId} {rest : List Value} {r : RV} {w : World} (h : RdAt w0 B M T rest r w) :
    Calls Tryz.prog 170 #[.pointer (some ⟨B, 0, none⟩)] w (Did w0 B M T rest r w pName valStr (fun _ _ l => l.length ≤ 281474976710656)) := by
  have c1 := text_reads h
  clear h
  go_enter Tryz.func170, Tryz.ntmps170
  go_wp2_with (first
    | (go_at_call 184; (with_reducible refine c1.mono ?_); rintro e w1 ⟨l, r1, rfl, g1, h1, m1, hl1, hl2⟩; have hsz : l.length ≤ 281474976710656 := (by have e2 := h1.size; have e3 := h1.pos; omega); have c2 := mod_name (bs l) (by rw [bs_len6]; unfold maxLen; omega) w1 (hLaid.below h1.below); clear c1 hl2)
    | (go_at_call 23; (with_reducible refine c2.mono ?_); rintro e w2 ⟨rfl, hb2⟩; have h2 := h1.at' hb2; have m2 := m1.then hb2; have c3 := fail_of h2 2; clear c2 h1 m1)
    | (go_at_call 115; (with_reducible refine c3.mono ?_); rintro e w3 ⟨rfl, h3, m3⟩))
  · have hn : isName l = false := by
      have h0 : (!isName (bs l).data.toList) = true := by assumption
      rw [bs_list6] at h0
      simpa using h0
    go_ret
    exact ⟨l, _, rfl, g1.and (by rw [if_neg (by rw [hn]; decide)]; exact Got.no (by decide) _ _), h3, m2.trans m3, hsz⟩
  · have hn : isName l = true := by
      have h0 : (!isName (bs l).data.toList) = false := by assumption
      rw [bs_list6] at h0
      simpa using h0
    go_ret
    exact ⟨l, r1, rfl, g1.and (by rw [if_pos hn]; exact Got.val _ _), h2, m2, hsz⟩
theorem global_reads (w0 : World) : Reads6 w0 178 pGlob valGlob okGlob := by
  intro B M T rest r w h
  have S0 := ResSt.start h #[.int .i64 0, .bool false, .int .i64 0] 76
  have c1 := value_reads w0 B M T rest r _ S0.rd
  clear h
  go_enter Tryz.func178, Tryz.ntmps178
  go_wp2_with (first
    | (go_at_call 228; (with_reducible refine c1.mono ?_); rintro e w1 ⟨t, r1, rfl, g1, h1, m1, ok1⟩; have S1 := S0.call m1 h1; have c2 := one_reads w0 B M T rest r1 w1 h1; have b0 := ok1.1; have b1 := ok1.2; clear c1 S0 h1 m1; dsimp only [valU8])
    | (go_at_call 114; (with_reducible refine c2.mono ?_); rintro e w2 ⟨k, r2, rfl, g2, h2, m2, ok2⟩; have S2 := S1.call m2 h2; have c3 := fail_of h2 2; have c4 := constant_reads h2 t ok1; clear c2 S1 h2 m2; dsimp only [valU8])
    | (go_at_call 115; (with_reducible refine c3.mono ?_); rintro e w3 ⟨rfl, h3, m3⟩; have S3 := S2.call m3 h3; have c5 := constant_reads h3 t ok1; clear c3 c4 S2 h3 m3)
    | (go_at_call 229; (with_reducible refine c4.mono ?_); rintro e w4 ⟨n, r4, rfl, g4, h4, m4, ok4⟩; have S4 := S2.call m4 h4; obtain ⟨t0, t1, t2, f0, f1, f2, hl⟩ := S4.f3; clear c4 S2 h4 m4; dsimp only [valInt])
    | (go_at_call 229; (with_reducible refine c5.mono ?_); rintro e w4 ⟨n, r4, rfl, g4, h4, m4, ok4⟩; have S4 := S3.call m4 h4; obtain ⟨t0, t1, t2, f0, f1, f2, hl⟩ := S4.f3; clear c5 S3 h4 m4; dsimp only [valInt]))
  · have hk : k = 0 := by assumption
    have hkk : decide (k = 1) = false := decide_eq_false (by omega)
    refine bodyPost_ret (v := .agg #[.int .i64 t, .bool false, .int .i64 n]) ?_ rfl ?_
    · rw [results_one_cell rfl]; go_simp
    · have hd := S4.done3 (.int .i64 t) (.bool false) (.int .i64 n)
      exact ⟨⟨t, decide (k = 1), n⟩, r4, by show _ = Ending.returned (.agg #[.int .i64 t, .bool (decide (k = 1)), .int .i64 n]); rw [hkk], g1.and (g2.and (by rw [if_pos (.inl hk)]; exact g4.map fun n => (⟨t, decide (k = 1), n⟩ : GlobV))), hd.1, hd.2, i64_byte ok1, ok4⟩
  · have hk0 : ¬ k = 0 := by assumption
    have hk1 : ¬ k = 1 := by
      have h0 : (k != 0) = true ∧ (k != 1) = true := by assumption
      simpa using h0.2
    refine bodyPost_ret (v := .agg #[.int .i64 t, .bool (k == 1), .int .i64 n]) ?_ rfl ?_
    · rw [results_one_cell rfl]; go_simp
    · have hd := S4.done3 (.int .i64 t) (.bool (k == 1)) (.int .i64 n)
      exact ⟨⟨t, (k == 1), n⟩, r4, rfl, g1.and (g2.and (by rw [if_neg (by omega)]; exact (Got.no (by decide) (⟨t, (k == 1), n⟩ : GlobV) r2).on (bad_not (by decide)) g4 _)), hd.1, hd.2, i64_byte ok1, ok4⟩
  · have hk : k = 1 := by
      have hk0 : ¬ k = 0 := by assumption
      have h0 : (k != 0) = false ∨ (k != 1) = false := by assumption
      rcases h0 with h0 | h0
      · exact absurd (by simpa using h0) hk0
      · simpa using h0
    refine bodyPost_ret (v := .agg #[.int .i64 t, .bool (k == 1), .int .i64 n]) ?_ rfl ?_
    · rw [results_one_cell rfl]; go_simp
    · have hd := S4.done3 (.int .i64 t) (.bool (k == 1)) (.int .i64 n)
      exact ⟨⟨t, decide (k = 1), n⟩, r4, rfl, g1.and (g2.and (by rw [if_pos (.inr hk)]; exact g4.map fun n => (⟨t, decide (k = 1), n⟩ : GlobV))), hd.1, hd.2, i64_byte ok1, ok4⟩
theorem export_reads {w0 : World} (hLaid : Laid w0) {B M : Nat} {T : TypeId} {rest : List Value} {r : RV} {w : World} (h : RdAt w0 B M T rest r w) :
    Calls Tryz.prog 180 #[.pointer (some ⟨B, 0, none⟩)] w (Did w0 B M T rest r w pExp valExp okExp) := by
  have S0 := ResSt.start h #[.string ⟨#[]⟩, .int .i64 0, .int .i64 0] 79
  have c1 := name_reads hLaid S0.rd
  clear h
  go_enter Tryz.func180, Tryz.ntmps180
  go_wp2_with (first
    | (go_at_call 170; (with_reducible refine c1.mono ?_); rintro e w1 ⟨s, r1, rfl, g1, h1, m1, ok1⟩; have S1 := S0.call m1 h1; have c2 := lib_clone (bs s) w1 (by rw [bs_len6]; exact ok1); clear c1 S0 h1 m1; dsimp only [valStr])
    | (go_at_call 230; (with_reducible refine c2.mono ?_); rintro e w2 ⟨rfl, hb2⟩; have S2 := S1.call (Mov.of_below hb2) (S1.rd.at' hb2); have c3 := one_reads w0 B M T rest r1 w2 S2.rd; clear c2 S1 hb2)
    | (go_at_call 114; (with_reducible refine c3.mono ?_); rintro e w3 ⟨k, r3, rfl, g3, h3, m3, ok3⟩; have S3 := S2.call m3 h3; have c4 := fail_of h3 3; have c5 := fail_of h3 2; have c6 := number_reads w0 B M T rest r3 w3 h3; have b0 := ok3.1; have b1 := ok3.2; clear c3 S2 h3 m3; dsimp only [valU8])
    | (go_at_call 115; (with_reducible refine c4.mono ?_); rintro e w4 ⟨rfl, h4, m4⟩; have S4 := S3.call m4 h4; have c7 := number_reads w0 B M T rest _ w4 h4; clear c4 c5 c6 S3 h4 m4)
    | (go_at_call 115; (with_reducible refine c5.mono ?_); rintro e w4 ⟨rfl, h4, m4⟩; have S4 := S3.call m4 h4; have c7 := number_reads w0 B M T rest _ w4 h4; clear c4 c5 c6 S3 h4 m4)
    | (go_at_call 127; (with_reducible refine c6.mono ?_); rintro e w5 ⟨n, r5, rfl, g5, h5, m5, ok5⟩; have S5 := S3.call m5 h5; obtain ⟨t0, t1, t2, f0, f1, f2, hl⟩ := S5.f3; clear c4 c5 c6 S3 h5 m5; dsimp only [valInt])
    | (go_at_call 127; (with_reducible refine c7.mono ?_); rintro e w5 ⟨n, r5, rfl, g5, h5, m5, ok5⟩; have S5 := S4.call m5 h5; obtain ⟨t0, t1, t2, f0, f1, f2, hl⟩ := S5.f3; clear c7 S4 h5 m5; dsimp only [valInt]))
  · have hk : k = 0 := by
      have h0 : (k == 0) = true := by assumption
      simpa using h0
    refine bodyPost_ret (v := .agg #[.string (bs s), .int .i64 k, .int .i64 n]) ?_ rfl ?_
    · rw [results_one_cell rfl]; go_simp
    · have hd := S5.done3 (.string (bs s)) (.int .i64 k) (.int .i64 n)
      exact ⟨⟨bs s, k, n⟩, r5, rfl, g1.and (g3.and (by rw [if_pos (by omega)]; exact g5.map fun n => (⟨bs s, k, n⟩ : ExpV))), hd.1, hd.2, (by show (bs s).size ≤ _; rw [bs_len6]; exact ok1), i64_byte ok3, i64_word ok5⟩
  · have hk : k = 2 := by
      have h0 : (k == 2) = true := by assumption
      simpa using h0
    refine bodyPost_ret (v := .agg #[.string (bs s), .int .i64 k, .int .i64 n]) ?_ rfl ?_
    · rw [results_one_cell rfl]; go_simp
    · have hd := S5.done3 (.string (bs s)) (.int .i64 k) (.int .i64 n)
      exact ⟨⟨bs s, k, n⟩, r5, rfl, g1.and (g3.and (by rw [if_pos (by omega)]; exact g5.map fun n => (⟨bs s, k, n⟩ : ExpV))), hd.1, hd.2, (by show (bs s).size ≤ _; rw [bs_len6]; exact ok1), i64_byte ok3, i64_word ok5⟩
  · have hk : k = 3 := by
      have h0 : (k == 3) = true := by assumption
      simpa using h0
    refine bodyPost_ret (v := .agg #[.string (bs s), .int .i64 k, .int .i64 n]) ?_ rfl ?_
    · rw [results_one_cell rfl]; go_simp
    · have hd := S5.done3 (.string (bs s)) (.int .i64 k) (.int .i64 n)
      exact ⟨⟨bs s, k, n⟩, r5, rfl, g1.and (g3.and (by rw [if_pos (by omega)]; exact g5.map fun n => (⟨bs s, k, n⟩ : ExpV))), hd.1, hd.2, (by show (bs s).size ≤ _; rw [bs_len6]; exact ok1), i64_byte ok3, i64_word ok5⟩
  · have j0 : ¬ k = 0 := by
      have h0 : (k == 0) = false := by assumption
      simpa using h0
    have j2 : ¬ k = 2 := by
      have h0 : (k == 2) = false := by assumption
      simpa using h0
    have j3 : ¬ k = 3 := by
      have h0 : (k == 3) = false := by assumption
      simpa using h0
    have hk : k = 1 := by
      have h0 : (k == 1) = true := by assumption
      simpa using h0
    refine bodyPost_ret (v := .agg #[.string (bs s), .int .i64 k, .int .i64 n]) ?_ rfl ?_
    · rw [results_one_cell rfl]; go_simp
    · have hd := S5.done3 (.string (bs s)) (.int .i64 k) (.int .i64 n)
      exact ⟨⟨bs s, k, n⟩, r5, rfl, g1.and (g3.and (by rw [if_neg (by omega), if_pos hk]; exact (Got.no (by decide) (⟨bs s, k, n⟩ : ExpV) r3).on (bad_not (by decide)) g5 _)), hd.1, hd.2, (by show (bs s).size ≤ _; rw [bs_len6]; exact ok1), i64_byte ok3, i64_word ok5⟩
  · have j0 : ¬ k = 0 := by
      have h0 : (k == 0) = false := by assumption
      simpa using h0
    have j2 : ¬ k = 2 := by
      have h0 : (k == 2) = false := by assumption
      simpa using h0
    have j3 : ¬ k = 3 := by
      have h0 : (k == 3) = false := by assumption
      simpa using h0
    have j1 : ¬ k = 1 := by
      have h0 : (k == 1) = false := by assumption
      simpa using h0
    refine bodyPost_ret (v := .agg #[.string (bs s), .int .i64 k, .int .i64 n]) ?_ rfl ?_
    · rw [results_one_cell rfl]; go_simp
    · have hd := S5.done3 (.string (bs s)) (.int .i64 k) (.int .i64 n)
      exact ⟨⟨bs s, k, n⟩, r5, rfl, g1.and (g3.and (by rw [if_neg (by omega), if_neg (by omega)]; exact (Got.no (by decide) (⟨bs s, k, n⟩ : ExpV) r3).on (bad_not (by decide)) g5 _)), hd.1, hd.2, (by show (bs s).size ≤ _; rw [bs_len6]; exact ok1), i64_byte ok3, i64_word ok5⟩
def pLoc1 (left : Int) : Pr (Int × Int) := pNum.and fun k => pValue.and fun t => if left < k then .no 5 else .val (k, t)
theorem pLocals_succ (n : Nat) (left : Int) (l : List UInt8) : pLocals (n + 1) left l = ((pLoc1 left).and fun x => (pLocals n (left - x.1)).and fun s => .val (List.replicate x.1.toNat (u8 x.2) ++ s)) l := by
  show (pNum.and fun k => pValue.and fun t => if left < k then .no 5 else (pLocals n (left - k)).and fun s => .val (List.replicate k.toNat (u8 t) ++ s)) l = _
  unfold pLoc1
  cases hk : pNum l with
  | bad e => rw [and_bad hk]; rw [and_bad (and_bad hk)]
  | ok k m =>
    rw [and_ok hk]
    cases ht : pValue m with
    | bad e =>
      rw [and_bad ht]
      rw [and_bad ((and_ok hk).trans (and_bad ht))]
    | ok t m2 =>
      rw [and_ok ht]
      by_cases hl : left < k
      · rw [if_pos hl]
        rw [and_bad ((and_ok hk).trans ((and_ok ht).trans (by rw [if_pos hl]; rfl)))]
        rfl
      · rw [if_neg hl]
        rw [and_ok ((and_ok hk).trans ((and_ok ht).trans (by rw [if_neg hl]; rfl)))]
theorem enc_small : ∀ k : Fin 256, (Utf8.encode ((k.1 : Nat) : Int)).size ≤ 4 := by decide +kernel
theorem enc_size {t : Int} (h : 0 ≤ t ∧ t < 256) : (Utf8.encode t).size ≤ 4 := by
  have := enc_small ⟨t.toNat, by omega⟩
  rwa [show (((⟨t.toNat, by omega⟩ : Fin 256).1 : Nat) : Int) = t by simp; omega] at this
theorem enc_kind {t : Int} (h : t = 127 ∨ t = 126) : Utf8.encode t = ⟨#[u8 t]⟩ := by rcases h with rfl | rfl <;> rfl
theorem MovF.setF {B M F : Nat} {w w' : World} (h : MovF B M F w w') (j : Nat) (v : Value) : MovF B M F w (w'.setCell ⟨F, j, none⟩ v) :=
  h.trans ⟨rfl, rfl, rfl, by simp [World.setCell], fun k _ _ _ h3 => Below.heap_setCell _ _ _ _ h3⟩
theorem MovF.then {B M F : Nat} {w w1 w2 : World} (h : MovF B M F w w1) (k : Below w1.heap.size w1 w2) : MovF B M F w w2 := h.trans ((Mov.of_below k).on F)
theorem lib_repeat_i (s : ByteArray) (c : Int) (w : World) (h0 : 0 ≤ c) (hc : c ≤ 1000000) (hs : s.size ≤ 10) :
    Calls Tryz.prog 260 #[.string s, .int .i64 c] w fun e w' => e = .returned (.string (bs (Lib.repeatL s.data.toList c.toNat))) ∧ Below w.heap.size w w' := by
  obtain ⟨k, rfl⟩ := Int.eq_ofNat_of_zero_le h0
  exact lib_repeat s k w (by omega) hs
def DidLoc (w0 : World) (B M bL : Nat) (T : TypeId) (rest : List Value) (r : RV) (w : World) (left : Int) (e : Ending) (w' : World) : Prop :=
  ∃ (x : ByteArray) (kt : Int × Int) (r' : RV) (left' : Int), e = .returned (.string x) ∧ Got (pLoc1 left) r r' kt ∧ RdAt w0 B M T rest r' w' ∧ MovF B M bL w w' ∧ w'.heap[bL]? = some (.cells #[.int .i64 left'] 3) ∧ 0 ≤ left' ∧ left' ≤ left ∧ (x.size : Int) ≤ 4 * (left - left') ∧ (r'.e = 0 → left' = left - kt.1 ∧ 0 ≤ kt.1 ∧ x = bs (List.replicate kt.1.toNat (u8 kt.2)))
theorem Got.val_of {r1 r2 : RV} {t : Int} (h : Got pValue r1 r2 t) (he : r2.e = 0) : t = 127 ∨ t = 126 := by
  rcases h.2 with ⟨h1, h2⟩ | ⟨_, _, h3⟩ | ⟨_, h2, _⟩
  · exact absurd (h2.symm.trans he) h1
  · exact pValue_of h3
  · exact absurd he h2
theorem loc_reads {w0 : World} {B M : Nat} {T : TypeId} {rest : List Value} {r : RV} {w : World} (h : RdAt w0 B M T rest r w) (bL : Nat) (left : Int) (hbx : w.heap[bL]? = some (.cells #[.int .i64 left] 3)) (n1 : bL ≠ B) (n2 : bL ≠ M) (hw : w0.heap.size ≤ bL) (hl : 0 ≤ left ∧ left ≤ 4096) :
    Calls Tryz.prog 259 #[.pointer (some ⟨B, 0, none⟩), .pointer (some ⟨bL, 0, none⟩)] w (DidLoc w0 B M bL T rest r w left) := by
  have c1 := number_reads w0 B M T rest r w h
  have l0 := hl.1
  have l1 := hl.2
  clear h
  go_enter Tryz.func259, Tryz.ntmps259
  go_wp2_with (first
    | (go_at_call 127; (with_reducible refine c1.mono ?_); rintro e w1 ⟨k, r1, rfl, g1, h1, m1, ok1⟩; have hbx1 := (m1.block _ (in_heap6 hbx) n1 n2).trans hbx; have c2 := value_reads w0 B M T rest r1 w1 h1; have k0 := ok1.1; have k1 := ok1.2; clear c1 hbx h1; dsimp only [valInt])
    | (go_at_call 228; (with_reducible refine c2.mono ?_); rintro e w2 ⟨t, r2, rfl, g2, h2, m2, ok2⟩; have hbx2 := (m2.block _ (in_heap6 hbx1) n1 n2).trans hbx1; have mm := m1.trans m2; have c3 := fail_of h2 5; have t0 := ok2.1; have t1 := ok2.2; have x0 : w2.cell? ⟨bL, 0, none⟩ = some (.int .i64 left) := (by simp [World.cell?, hbx2]); have y0 : w2.frozen? ⟨bL, 0, none⟩ = false := (by simp [World.frozen?, hbx2]); clear c2 hbx1 m1 m2; dsimp only [valU8])
    | (go_at_call 115; (with_reducible refine c3.mono ?_); rintro e w3 ⟨rfl, h3, m3⟩; have hbx3 := (m3.block _ (in_heap6 hbx2) n1 n2).trans hbx2; clear x0 y0 c3)
    | (go_at_call 260; have hkl : k ≤ left := (by assumption); (with_reducible refine (lib_repeat_i (Utf8.encode t) k _ k0 (by omega) (by have := enc_size ok2; omega)).mono ?_); rintro e w3 ⟨rfl, hb3⟩))
  · have hlk : left < k := by assumption
    go_ret
    exact ⟨⟨#[]⟩, (k, t), _, left, rfl, g1.and (g2.and (by rw [if_pos hlk]; exact Got.no (by decide) _ _)), h3, (mm.trans m3).on bL, hbx3, l0, Int.le_refl _, by rw [show (⟨#[]⟩ : ByteArray).size = 0 from rfl]; omega, fun e => absurd e (bad_not (by decide))⟩
  · have hlk0 : k ≤ left := by assumption
    have hlk : ¬ left < k := by omega
    refine (lib_repeat_i (Utf8.encode t) k _ k0 (by omega) (by have := enc_size ok2; omega)).mono ?_
    rintro e w3 ⟨rfl, hb3⟩
    dsimp only
    go_wp2
    go_ret
    have h4 := (h2.other 0 (.int .i64 (left - k)) n1 n2 hw).at' hb3
    have m4 := ((mm.on bL).setF 0 (.int .i64 (left - k))).then hb3
    have hs2 : (w2.setCell ⟨bL, 0, none⟩ (.int .i64 (left - k))).heap[bL]? = some (.cells #[.int .i64 (left - k)] 3) := heap_setCell_same w2 bL 0 _ _ (.int .i64 (left - k)) hbx2
    have hbx4 := (hb3.block bL (in_heap6 hs2)).trans hs2
    refine ⟨_, (k, t), r2, left - k, rfl, g1.and (g2.and (by rw [if_neg (by omega)]; exact Got.val _ _)), h4, m4, hbx4, by omega, by omega, ?_, fun e => ⟨rfl, k0, ?_⟩⟩
    · rw [bs_len6, Lib.repeatL_length]
      have h5 := enc_size ok2
      have e5 : (Utf8.encode t).data.toList.length = (Utf8.encode t).size := Array.length_toList
      have h6 : k.toNat * (Utf8.encode t).data.toList.length ≤ k.toNat * 4 := Nat.mul_le_mul_left _ (by omega)
      omega
    · rw [enc_kind (g2.val_of e)]
      have h7 := Lib.repeatL_replicate (u8 t) 1 k.toNat
      rw [Nat.mul_one] at h7
      rw [← h7]
      rfl
def pre6 (s : List UInt8) : Out (List UInt8) → Out (List UInt8)
  | .ok v r => .ok (s ++ v) r
  | .bad e => .bad e
theorem pre6_pre (s t : List UInt8) (o : Out (List UInt8)) : pre6 s (pre6 t o) = pre6 (s ++ t) o := by cases o <;> simp [pre6]
def LocSt (rq rk : RV) (k : Nat) (left : Int) (s : List UInt8) : Prop :=
  rk.s = rq.s ∧ ((rq.e ≠ 0 ∧ rk.e = rq.e) ∨ (rq.e = 0 ∧ rk.e = 0 ∧ ∀ m, pLocals (k + m) 4096 rq.rem = pre6 s (pLocals m left rk.rem)) ∨ (rq.e = 0 ∧ rk.e ≠ 0 ∧ ∀ m, pLocals (k + m) 4096 rq.rem = .bad rk.e))
theorem LocSt.start (rq : RV) : LocSt rq rq 0 4096 [] := by
  refine ⟨rfl, ?_⟩
  by_cases he : rq.e = 0
  · exact .inr (.inl ⟨he, he, fun m => by rw [Nat.zero_add]; cases pLocals m 4096 rq.rem <;> simp [pre6]⟩)
  · exact .inl ⟨he, rfl⟩
theorem LocSt.step {rq rk r' : RV} {k : Nat} {left left' : Int} {s : List UInt8} {x : ByteArray} {kt : Int × Int} (h : LocSt rq rk k left s) (he : rk.e = 0) (g : Got (pLoc1 left) rk r' kt) (hx : r'.e = 0 → left' = left - kt.1 ∧ 0 ≤ kt.1 ∧ x = bs (List.replicate kt.1.toNat (u8 kt.2))) :
    LocSt rq r' (k + 1) left' (s ++ x.data.toList) := by
  refine ⟨g.1.trans h.1, ?_⟩
  rcases h.2 with ⟨h1, h2⟩ | ⟨h1, _, h3⟩ | ⟨_, h2, _⟩
  · exact absurd (h2.symm.trans he) h1
  · have hs : ∀ m, pLocals (k + 1 + m) 4096 rq.rem = pre6 s (pLocals (m + 1) left rk.rem) := fun m => by rw [show k + 1 + m = k + (m + 1) by omega]; exact h3 _
    rcases g.2 with ⟨g1, _⟩ | ⟨_, g2, g3⟩ | ⟨_, g2, g3⟩
    · exact absurd he g1
    · obtain ⟨e1, _, e2⟩ := hx g2
      refine .inr (.inl ⟨h1, g2, fun m => ?_⟩)
      rw [hs, pLocals_succ, and_ok g3, ← pre6_pre, e1, e2, bs_list6]
      unfold Pr.and
      cases pLocals m (left - kt.1) r'.rem <;> rfl
    · refine .inr (.inr ⟨h1, g2, fun m => ?_⟩)
      rw [hs, pLocals_succ, and_bad g3]
      rfl
  · exact absurd he h2
theorem LocSt.done {rq rk : RV} {k : Nat} {left : Int} {s : List UInt8} (h : LocSt rq rk k left s) : Got (pLocals k 4096) rq rk s := by
  refine ⟨h.1, ?_⟩
  rcases h.2 with h1 | ⟨h1, h2, h3⟩ | ⟨h1, h2, h3⟩
  · exact .inl h1
  · exact .inr (.inl ⟨h1, h2, by have := h3 0; rw [Nat.add_zero] at this; rw [this]; show Out.ok (s ++ []) _ = _; rw [List.append_nil]⟩)
  · exact .inr (.inr ⟨h1, h2, h3 0⟩)
theorem LocSt.short {rq rk : RV} {k n : Nat} {left : Int} {s : List UInt8} (h : LocSt rq rk k left s) (hk : k ≤ n) (he : rk.e ≠ 0) (y : List UInt8) : Got (pLocals n 4096) rq rk y := by
  refine ⟨h.1, ?_⟩
  rcases h.2 with h1 | ⟨_, h2, _⟩ | ⟨h1, h2, h3⟩
  · exact .inl h1
  · exact absurd h2 he
  · exact .inr (.inr ⟨h1, h2, by have := h3 (n - k); rwa [show k + (n - k) = n by omega] at this⟩)
def pLocAll : Pr (List UInt8) := pMany.and fun n => pLocals n.toNat 4096
def rowStr (s : ByteArray) : List Value := [.string s]
def allS (l : List ByteArray) : List UInt8 := (l.map (·.data.toList)).flatten
theorem allS_snoc (l : List ByteArray) (x : ByteArray) : allS (l ++ [x]) = allS l ++ x.data.toList := by simp [allS]
theorem MovF.grown {B M F : Nat} {w w1 w2 : World} {row : Option Nat} (h : MovF B M F w w1) (g : w1.grownBy w2 row) (hr : ∀ k, row = some k → w.heap.size ≤ k) : MovF B M F w w2 :=
  ⟨g.os.trans h.os, g.tape.trans h.tape, g.output.trans h.output, Nat.le_trans h.size g.size, fun k hk h1 h2 h3 => (g.block k (Nat.lt_of_lt_of_le hk h.size) (fun e => by have := hr k e.symm; omega)).trans (h.block k hk h1 h2 h3)⟩
theorem own_movF {B M F : Nat} {w w' : World} {base e sz n : Nat} {v : Value} {xs : List Value} (h : w.ownsRow base e sz v n xs) (hm : MovF B M F w w') (hB : B < base) (hM : M < base) (hF : F < base) : w'.ownsRow base e sz v n xs :=
  own_same h fun g hg => by have := own_lt6 h g hg; exact hm.block g this.2 (by omega) (by omega) (by omega)
def DidLocs (w0 : World) (B M bL : Nat) (T : TypeId) (rest : List Value) (r : RV) (w : World) (e : Ending) (w' : World) : Prop :=
  ∃ (l : List ByteArray) (r' : RV) (v : Value), e = .returned v ∧ Got pLocAll r r' (allS l) ∧ RdAt w0 B M T rest r' w' ∧ MovF B M bL w w' ∧ w'.ownsRow w.heap.size 9 1 v l.length (l.flatMap rowStr) ∧ (allS l).length ≤ 16384 ∧ l.length ≤ 4096
theorem info_string : (Tryz.prog.info? 9).map (fun i => (i.zero, i.size, i.bytes)) = some (some (.string ⟨#[]⟩), 1, 16) := by kernel_rfl
theorem enters_loc : ∀ args w, (callFunc 259 args).run Tryz.prog w = .ok (.enter 259 args) w := enters_of Tryz.func259 (by kernel_rfl) rfl
theorem list_locals {w0 : World} {B M bL : Nat} {T : TypeId} {rest : List Value} {r : RV} {w : World} (h : RdAt w0 B M T rest r w) (hbx : w.heap[bL]? = some (.cells #[.int .i64 4096] 3)) (n1 : bL ≠ B) (n2 : bL ≠ M) (hw : w0.heap.size ≤ bL) :
    Calls Tryz.prog 258 #[.pointer (some ⟨B, 0, none⟩), .func (.func 259) #[] #[.pointer (some ⟨bL, 0, none⟩)]] w (DidLocs w0 B M bL T rest r w) := by
  have hlt := h.lt
  have hBl := hlt.1
  have hMl := hlt.2
  have hFl := in_heap6 hbx
  have eg := enters_loc
  have c1 := number_reads w0 B M T rest r w h
  obtain ⟨i0, hi, hz0, hz1, hz2⟩ := info_parts info_string
  clear h hlt
  go_enter Tryz.func258, Tryz.ntmps258
  go_wp2_with (first
    | (go_at_call 127; (with_reducible refine c1.mono ?_); rintro e w1 ⟨n, r1, rfl, g1, h1, m1, ok1⟩; have c2 := fail_of h1 5; have ok0 := ok1.1; have ok2 := ok1.2; dsimp only [valInt])
    | (go_at_call 115; (with_reducible refine c2.mono ?_); rintro e w2 ⟨rfl, h2, m2⟩))
  · have hgt : 4096 < n := by assumption
    obtain ⟨rq, hq⟩ : ∃ rq, r1.bad 5 = rq := ⟨_, rfl⟩
    obtain ⟨hs, hm, hbq, hgm, hfew⟩ : RdAt w0 B M T rest rq w2 ∧ MovF B M bL w w2 ∧ w2.heap[bL]? = some (.cells #[.int .i64 4096] 3) ∧ Got pMany r rq n ∧ (rq.e = 0 → n ≤ 4096) := by
      rw [← hq]
      exact ⟨h2, (m1.trans m2).on bL, ((m1.trans m2).block _ hFl n1 n2).trans hbx, (Got.many g1).1 hgt, fun e => absurd e (bad_e (by decide))⟩
    clear hbx hq h1 h2 m1 m2 g1 c2 c1 hgt
    have HG := Lib.hid hgm
    have HF := Lib.hid hfew
    clear hgm hfew
    go_loopw [6, 14] (fun v i wr => ∃ (k : Nat) (l : List ByteArray) (rk : RV) (left : Int), (k : Int) ≤ n ∧ k ≤ 4096 ∧ i = .int .i64 k ∧ wr.ownsRow w.heap.size 9 1 v k (l.flatMap rowStr) ∧ l.length = k ∧ RdAt w0 B M T rest rk wr ∧ MovF B M bL w wr ∧ Hid (LocSt rq rk k left (allS l)) ∧ wr.heap[bL]? = some (.cells #[.int .i64 left] 3) ∧ 0 ≤ left ∧ left ≤ 4096 ∧ ((allS l).length : Int) ≤ 4 * (4096 - left)) (fun _ i _ => n.toNat - (intOf i).toNat)
    case atStart => exact ⟨0, [], rq, 4096, ok0, by omega, rfl, World.ownsRow_nil _ _ _ _, rfl, hs, hm, Lib.hid (LocSt.start rq), hbq, by omega, by omega, by simp [allS]⟩
    case round =>
      clear hs hm hbq
      obtain ⟨k, l, rk, left, hkn, hk4, rfl, hown, hlk, hr, hm, HK, hbr, hl0, hl1, hsum⟩ := hrel
      obtain ⟨vp, vc, rfl⟩ := own_any6 hown
      obtain ⟨x0, x1, x2, x3, y0, y1, y2, y3⟩ := hr.reads
      by_cases hlt : (k : Int) < n
      · by_cases he : rk.e = 0
        · have hn4 : n ≤ 4096 := HF.out (by
            rcases HK.out.2 with ⟨a1, a2⟩ | ⟨a1, _⟩ | ⟨a1, _⟩
            · exact absurd (a2.symm.trans he) a1
            · exact a1
            · exact a1)
          exfalso; omega
        · have hq : (rk.e != 0) = true := by simpa using he
          have HGL := Lib.hid (show Got pLocAll r rk (allS []) from Got.and HG.out (HK.out.short (n := n.toNat) (by omega) he []))
          go_wp2
          go_ret
          exact ⟨[], rk, _, rfl, HGL.out, hr, hm, World.ownsRow_nil _ _ _ _, by simp [allS], by simp⟩
      · have hkk : n.toNat = k := by omega
        have HGL := Lib.hid (show Got pLocAll r rk (allS l) from Got.and HG.out (show Got (pLocals n.toNat 4096) rq rk (allS l) by rw [hkk]; exact HK.out.done))
        have hnk : n = (k : Int) := by omega
        clear hlt
        go_wp2
        go_ret
        exact ⟨l, rk, _, rfl, HGL.out, hr, hm, hlk.symm ▸ hown, by omega, by omega⟩
  · have hle : n ≤ 4096 := by assumption
    obtain ⟨rq, hq⟩ : ∃ rq, r1 = rq := ⟨_, rfl⟩
    obtain ⟨hs, hm, hbq, hgm, hfew⟩ : RdAt w0 B M T rest rq w1 ∧ MovF B M bL w w1 ∧ w1.heap[bL]? = some (.cells #[.int .i64 4096] 3) ∧ Got pMany r rq n ∧ (rq.e = 0 → n ≤ 4096) := by
      rw [← hq]
      have hle' : ¬ 4096 < n := by omega
      exact ⟨h1, m1.on bL, (m1.block _ hFl n1 n2).trans hbx, (Got.many g1).2 hle', fun _ => by omega⟩
    clear hbx hq h1 m1 g1 c2 c1 hle
    have HG := Lib.hid hgm
    have HF := Lib.hid hfew
    clear hgm hfew
    go_loopw [6, 14] (fun v i wr => ∃ (k : Nat) (l : List ByteArray) (rk : RV) (left : Int), (k : Int) ≤ n ∧ k ≤ 4096 ∧ i = .int .i64 k ∧ wr.ownsRow w.heap.size 9 1 v k (l.flatMap rowStr) ∧ l.length = k ∧ RdAt w0 B M T rest rk wr ∧ MovF B M bL w wr ∧ Hid (LocSt rq rk k left (allS l)) ∧ wr.heap[bL]? = some (.cells #[.int .i64 left] 3) ∧ 0 ≤ left ∧ left ≤ 4096 ∧ ((allS l).length : Int) ≤ 4 * (4096 - left)) (fun _ i _ => n.toNat - (intOf i).toNat)
    case atStart => exact ⟨0, [], rq, 4096, ok0, by omega, rfl, World.ownsRow_nil _ _ _ _, rfl, hs, hm, Lib.hid (LocSt.start rq), hbq, by omega, by omega, by simp [allS]⟩
    case round =>
      clear hs hm hbq
      obtain ⟨k, l, rk, left, hkn, hk4, rfl, hown, hlk, hr, hm, HK, hbr, hl0, hl1, hsum⟩ := hrel
      obtain ⟨vp, vc, rfl⟩ := own_any6 hown
      obtain ⟨x0, x1, x2, x3, y0, y1, y2, y3⟩ := hr.reads
      by_cases hlt : (k : Int) < n
      · by_cases he : rk.e = 0
        · have hn4 : n ≤ 4096 := HF.out (by
            rcases HK.out.2 with ⟨a1, a2⟩ | ⟨a1, _⟩ | ⟨a1, _⟩
            · exact absurd (a2.symm.trans he) a1
            · exact a1
            · exact a1)
          rw [he] at x2
          have cq := loc_reads hr bL left hbr n1 n2 hw ⟨hl0, hl1⟩
          have HE := Lib.hid he
          have HLK := Lib.hid hlk
          clear hr he hlk
          go_wp2_with fail
          refine cq.mono ?_
          rintro e w3 ⟨x, kt, r3, left3, rfl, g3, h3, m3, hb3, hl3, hl4', hx4, hxe⟩
          have hown3 := (own_movF hown m3 hBl hMl hFl).alloc (.cells (rowStr x).toArray 9)
          have h3a := h3.alloc (.cells (rowStr x).toArray 9)
          have hm3 := (hm.trans m3).then ((Below.refl _ w3).alloc (Nat.le_refl _) (.cells (rowStr x).toArray 9))
          have hb3a := (Below.heap_alloc w3 (.cells (rowStr x).toArray 9) _ (in_heap6 hb3)).trans hb3
          have hs3 := Nat.le_trans hm.size m3.size
          clear cq hown
          go_wp2_with (at_builtin; refine wpList_append_own_at _ rfl (.tmp 21) (.tmp 25) 268 rfl w.heap.size 9 i0 (.string ⟨#[]⟩) 1 16 Tryz.underlying268 hi hz0 hz1 hz2 rfl (by decide) (.slice vp k vc) k (l.flatMap rowStr) rfl hown3 ⟨w3.heap.size, 0, none⟩ 1 1 (rowStr x) rfl rfl (cells_new6 w3 (rowStr x) 9) (by intro u hu; simp [rowStr] at hu; rcases hu with rfl <;> rfl) (by unfold maxLen; omega) (by omega) (by simp; omega) ?_)
          intro v' w4 hown4 hg4 _ _
          have hge : ∀ q, (Value.slice vp k vc).ownBlock = some q → w.heap.size ≤ q := fun q hq => (own_lt6 hown3 q hq).1
          have h4 := h3a.grown hg4 (fun q hq => Nat.lt_of_lt_of_le hBl (hge q hq)) (fun q hq => Nat.lt_of_lt_of_le hMl (hge q hq))
          have hm4 := hm3.grown hg4 hge
          have e4 : l.flatMap rowStr ++ rowStr x = (l ++ [x]).flatMap rowStr := by simp
          rw [e4] at hown4
          have HK4 := Lib.hid (by have := HK.out.step HE.out g3 hxe; rw [← allS_snoc] at this; exact this)
          have hb4 := (hg4.block bL (in_heap6 hb3a) (fun e => by have := hge bL e.symm; omega)).trans hb3a
          have hsum4 : ((allS (l ++ [x])).length : Int) ≤ 4 * (4096 - left3) := by
            rw [allS_snoc, List.length_append]
            have e : x.data.toList.length = x.size := Array.length_toList
            omega
          have hl4 : (l ++ [x]).length = k + 1 := by rw [List.length_append, HLK.out]; rfl
          clear hown3 h3a hm3 h3 m3 g3 HK HLK e4 hg4 hxe hb3 hb3a hbr x0 x1 x2 x3 y0 y1 y2 y3 hge
          go_wp2
          go_roundw
          case rel => exact ⟨k + 1, l ++ [x], r3, left3, by omega, by omega, by go_num, hown4, hl4, h4, hm4, HK4, hb4, hl3, by omega, hsum4⟩
          case measure => simp [intOf]; omega
        · have hq : (rk.e != 0) = true := by simpa using he
          have HGL := Lib.hid (show Got pLocAll r rk (allS []) from Got.and HG.out (HK.out.short (n := n.toNat) (by omega) he []))
          go_wp2
          go_ret
          exact ⟨[], rk, _, rfl, HGL.out, hr, hm, World.ownsRow_nil _ _ _ _, by simp [allS], by simp⟩
      · have hkk : n.toNat = k := by omega
        have HGL := Lib.hid (show Got pLocAll r rk (allS l) from Got.and HG.out (show Got (pLocals n.toNat 4096) rq rk (allS l) by rw [hkk]; exact HK.out.done))
        have hnk : n = (k : Int) := by omega
        clear hlt
        go_wp2
        go_ret
        exact ⟨l, rk, _, rfl, HGL.out, hr, hm, hlk.symm ▸ hown, by omega, by omega⟩
theorem join_none (c : Nat) (w : World) : Calls Tryz.prog 257 #[.slice none 0 0, .string ⟨#[]⟩] w fun e w' => e = .returned (.string ⟨#[]⟩) ∧ Below w.heap.size w w' := by
  go_enter Tryz.func257, Tryz.ntmps257
  go_wp2
  go_ret
  exact ⟨rfl, Below.refl _ _⟩
theorem join_flat (l : List ByteArray) : Lib.join (l.map (·.data.toList)) (⟨#[]⟩ : ByteArray).data.toList = allS l := by
  unfold Lib.join allS
  show List.intercalate [] _ = _
  generalize l.map (fun x : ByteArray => x.data.toList) = m
  unfold List.intercalate
  induction m with
  | nil => rfl
  | cons a m ih =>
    cases m with
    | nil => simp
    | cons b m => rw [List.intersperse_cons_cons, List.flatten_cons, List.flatten_cons, ih]; rfl
theorem rowStr_map (l : List ByteArray) : l.flatMap rowStr = l.map .string := by
  induction l with
  | nil => rfl
  | cons a l ih => rw [List.flatMap_cons, ih]; rfl
theorem join_own {w : World} {base : Nat} {v : Value} {l : List ByteArray} (h : w.ownsRow base 9 1 v l.length (l.flatMap rowStr)) (hl : l.length ≤ 4096) (hs : (allS l).length ≤ 16384) :
    Calls Tryz.prog 257 #[v, .string ⟨#[]⟩] w fun e w' => e = .returned (.string (bs (allS l))) ∧ Below w.heap.size w w' := by
  have hmap := rowStr_map l
  rcases h.2 with ⟨rfl, h0⟩ | ⟨g, cap, cur, rfl, hb, hg, hnc, _, _⟩
  · have hn : l = [] := List.length_eq_zero_iff.1 h0
    subst hn
    exact join_none 0 w
  · have hc := World.ownsRow.cells h (g := g) rfl
    have := lib_join g 0 cap l ⟨#[]⟩ w (fun j x hx => by
      have hx' : (l.flatMap rowStr)[j]? = some (.string x) := by rw [hmap, List.getElem?_map, hx]; rfl
      have := hc j _ hx'
      rw [Go.WideShapes.add_plain] at this
      exact this) (in_heap6 hg) (by omega) hnc (by rw [join_flat]; omega)
    rw [join_flat] at this
    exact this
theorem locals_reads (w0 : World) : Reads6 w0 232 pLocAll valStr (fun _ _ l => l.length ≤ 16384) := by
  intro B M T rest r w h
  have hlt := h.lt
  have c1 := list_locals (h.alloc (.cells #[.int .i64 4096] 3)) (heap_alloc_new w _) (by omega) (by omega) h.below.size
  go_enter Tryz.func232, Tryz.ntmps232
  go_wp2_with (first
    | (go_at_call 258; (with_reducible refine c1.mono ?_); rintro e w1 ⟨l, r1, v, rfl, g1, h1, m1, hown, hs, hl⟩; have c2 := join_own hown hl hs; clear c1)
    | (go_at_call 257; refine c2.mono ?_; rintro e w2 ⟨rfl, hb2⟩))
  go_ret
  have mm : Mov B M w w1 := ((((Mov.refl B M w).alloc (.cells #[.int .i64 4096] 3)).on w.heap.size).trans m1).new (Nat.le_refl _)
  exact ⟨allS l, r1, rfl, g1, h1.at' hb2, mm.then hb2, hs⟩
def openB (q : List Int) : List Value := q.reverse.map (.int .u8)
def nestQ (q : List Int) (c : Int) : List Int :=
  if c = 2 ∨ c = 3 ∨ c = 4 then c :: q
  else if c = 5 then 5 :: q.tail
  else if c = 11 then q.tail
  else q
def nestR (r : RV) (q : List Int) (c : Int) : RV := if c = 5 ∧ q.head? ≠ some 4 then r.bad 2 else r
theorem own_top6 {w : World} {base : Nat} {e : TypeId} {v : Value} {t : Int} {st : List Int} (h : w.ownsRow base e 1 v (st.length + 1) (openB (t :: st))) :
    ∃ g cap, v = .slice (some ⟨g, 0, none⟩) (st.length + 1) cap ∧ base ≤ g ∧ w.cell? ⟨g, st.length, none⟩ = some (.int .u8 t) ∧ w.frozen? ⟨g, st.length, none⟩ = false ∧ st.length + 1 ≤ cap ∧ g < w.heap.size := by
  have h2 := h
  rcases h.2 with ⟨_, h0⟩ | ⟨g, cap, cur, rfl, hb, hg, hnc, hcm, hcs, ht⟩
  · simp at h0
  · refine ⟨g, cap, rfl, hb, ?_, h2.frozenAt _, by simpa using hnc, in_heap6 hg⟩
    rw [h2.cellAt st.length (by simp)]
    simp [openB]
theorem own_cut6 {w : World} {base g cap : Nat} {e : TypeId} {n : Nat} {xs : List Value} {x : Value} (h : w.ownsRow base e 1 (.slice (some ⟨g, 0, none⟩) (n + 1) cap) (n + 1) (xs ++ [x])) : w.ownsRow base e 1 (.slice (some ⟨g, 0, none⟩) n cap) n xs := by
  have hl : xs.length = n := by have := h.1; simp at this; omega
  rcases h.2 with ⟨h0, _⟩ | ⟨g', cap', cur, he, hb, hg, hnc, hcm, hcs, ht⟩
  · cases h0
  · cases he
    refine ⟨by omega, .inr ⟨g, cap, cur, rfl, hb, hg, by omega, hcm, hcs, ?_⟩⟩
    have := congrArg (List.take n) ht
    rw [List.take_take, show min n ((n + 1) * 1) = n by omega, List.take_left' hl] at this
    rw [Nat.mul_one]; exact this
structure NestSt (w0 : World) (B M : Nat) (T : TypeId) (rest : List Value) (base : Nat) (v : Value) (r : RV) (q : List Int) (w w' : World) (v' : Value) : Prop where
  rd : RdAt w0 B M T rest r w'
  own : w'.ownsRow base 5 1 v' q.length (openB q)
  os : w'.os = w.os
  tape : w'.tape = w.tape
  output : w'.output = w.output
  size : w.heap.size ≤ w'.heap.size
  block : ∀ k, k < w.heap.size → k ≠ B → k ≠ M → v.ownBlock ≠ some k → w'.heap[k]? = w.heap[k]?
  at' : ∀ g, v'.ownBlock = some g → v.ownBlock = some g ∨ w.heap.size ≤ g
def DidNest (w0 : World) (B M : Nat) (T : TypeId) (rest : List Value) (base : Nat) (v : Value) (r : RV) (q : List Int) (c : Int) (w : World) (e : Ending) (w' : World) : Prop :=
  ∃ v', e = .returned v' ∧ NestSt w0 B M T rest base v (nestR r q c) (nestQ q c) w w' v'
theorem info_u8 : (Tryz.prog.info? 5).map (fun i => (i.zero, i.size, i.bytes)) = some (some (.int .u8 0), 1, 1) := by kernel_rfl
theorem nest_other {w0 : World} {B M : Nat} {T : TypeId} {rest : List Value} {r : RV} {w : World} (h : RdAt w0 B M T rest r w) (base : Nat) (q : List Int) (t : Int) (v : Value) (hown : w.ownsRow base 5 1 v (q.length + 1) (openB (t :: q))) (c : Int) (hq : q.length ≤ 1000000000000) (hne : c ≠ 2 ∧ c ≠ 3 ∧ c ≠ 4 ∧ c ≠ 5 ∧ c ≠ 11) :
    Calls Tryz.prog 261 #[.pointer (some ⟨B, 0, none⟩), v, .int .i64 c] w (DidNest w0 B M T rest base v r (t :: q) c w) := by
  obtain ⟨g, cap, rfl, hb, _, _, hcap, hg⟩ := own_top6 hown
  have q2 : (c == 2) = false := beq_eq_false_iff_ne.2 hne.1
  have q3 : (c == 3) = false := beq_eq_false_iff_ne.2 hne.2.1
  have q4 : (c == 4) = false := beq_eq_false_iff_ne.2 hne.2.2.1
  have q5 : (c == 5) = false := beq_eq_false_iff_ne.2 hne.2.2.2.1
  have q11 : (c == 11) = false := beq_eq_false_iff_ne.2 hne.2.2.2.2
  have e1 : nestQ (t :: q) c = t :: q := by unfold nestQ; rw [if_neg (by omega), if_neg (by omega), if_neg (by omega)]
  have e2 : nestR r (t :: q) c = r := by unfold nestR; rw [if_neg (by omega)]
  unfold DidNest
  rw [e1, e2]
  go_enter Tryz.func261, Tryz.ntmps261
  go_wp2_with fail
  go_ret
  exact ⟨_, rfl, h, hown, rfl, rfl, rfl, Nat.le_refl _, fun _ _ _ _ _ => rfl, fun g hg => .inl hg⟩
theorem nest_end {w0 : World} {B M : Nat} {T : TypeId} {rest : List Value} {r : RV} {w : World} (h : RdAt w0 B M T rest r w) (base : Nat) (q : List Int) (t : Int) (v : Value) (hown : w.ownsRow base 5 1 v (q.length + 1) (openB (t :: q))) (hq : q.length ≤ 1000000000000) :
    Calls Tryz.prog 261 #[.pointer (some ⟨B, 0, none⟩), v, .int .i64 11] w (DidNest w0 B M T rest base v r (t :: q) 11 w) := by
  obtain ⟨g, cap, rfl, hb, _, _, hcap, hg⟩ := own_top6 hown
  have eo : openB (t :: q) = openB q ++ [.int .u8 t] := by simp [openB]
  have hown' : w.ownsRow base 5 1 (.slice (some ⟨g, 0, none⟩) q.length cap) q.length (openB q) := own_cut6 (x := .int .u8 t) (by rw [← eo]; exact hown)
  unfold DidNest
  rw [show nestQ (t :: q) 11 = q from rfl, show nestR r (t :: q) 11 = r from rfl]
  go_enter Tryz.func261, Tryz.ntmps261
  go_wp2_with fail
  go_ret
  exact ⟨_, rfl, h, hown', rfl, rfl, rfl, Nat.le_refl _, fun _ _ _ _ _ => rfl, fun g hg => .inl hg⟩
theorem openB_app (q : List Int) (c : Int) : openB q ++ [.int .u8 c] = openB (c :: q) := by simp [openB]
theorem nest_open {w0 : World} {B M : Nat} {T : TypeId} {rest : List Value} {r : RV} {w : World} (h : RdAt w0 B M T rest r w) (base : Nat) (q : List Int) (v : Value) (hown : w.ownsRow base 5 1 v q.length (openB q)) (c : Int) (hc : c = 2 ∨ c = 3 ∨ c = 4) (hq : q.length ≤ 1000000000000) (hB : B < base) (hM : M < base) (hbase : base ≤ w.heap.size) :
    Calls Tryz.prog 261 #[.pointer (some ⟨B, 0, none⟩), v, .int .i64 c] w (DidNest w0 B M T rest base v r q c w) := by
  obtain ⟨i0, hi, hz⟩ := Option.map_eq_some_iff.1 info_u8
  have hz0 : i0.zero = some (.int .u8 0) := congrArg (fun p => p.1) hz
  have hz1 : i0.size = 1 := congrArg (fun p => p.2.1) hz
  have hz2 : i0.bytes = 1 := congrArg (fun p => p.2.2) hz
  clear hz
  have e2 : nestR r q c = r := by unfold nestR; rw [if_neg (by omega)]
  have e1 : nestQ q c = c :: q := by unfold nestQ; rw [if_pos hc]
  unfold DidNest
  rw [e1, e2]
  obtain ⟨vp, vc, rfl⟩ := own_any6 hown
  have hge : ∀ k, (Value.slice vp q.length vc).ownBlock = some k → base ≤ k := fun k hk => (own_lt6 hown k hk).1
  have hown3 := hown.alloc (.cells (#[.int .u8 c] : Array Value) 5)
  have h3 := h.alloc (.cells (#[.int .u8 c] : Array Value) 5)
  have hm3 : Mov B M w (w.alloc (.cells (#[.int .u8 c] : Array Value) 5)) := (Mov.refl B M w).alloc _
  clear e1 e2 hown
  go_enter Tryz.func261, Tryz.ntmps261
  rcases hc with rfl | rfl | rfl
  all_goals (
    go_wp2_with (at_builtin; refine wpList_append_own_at _ rfl (.tmp 16) (.tmp 19) 24 rfl base 5 i0 (.int .u8 0) 1 1 Tryz.underlying24 hi hz0 hz1 hz2 rfl (by decide) (.slice vp q.length vc) q.length (openB q) rfl hown3 ⟨w.heap.size, 0, none⟩ 1 1 [_] rfl rfl (cells_new6 w [_] 5) (by intro u hu; simp at hu; rcases hu with rfl; rfl) (by unfold maxLen; omega) (by omega) (by simp; omega) ?_)
    intro v' w4 hown4 hg4 _ hat
    rw [openB_app] at hown4
    have h4 := h3.grown hg4 (fun k hk => Nat.lt_of_lt_of_le hB (hge k hk)) (fun k hk => Nat.lt_of_lt_of_le hM (hge k hk))
    have hs4 : w.heap.size ≤ w4.heap.size := by have := hg4.size; simp at this; omega
    have hbl : ∀ k, k < w.heap.size → (Value.slice vp q.length vc).ownBlock ≠ some k → w4.heap[k]? = w.heap[k]? := fun k hk hne => (hg4.block k (by simp; omega) (fun e => hne e.symm)).trans (Below.heap_alloc w _ _ hk)
    have hat' : ∀ g, v'.ownBlock = some g → (Value.slice vp q.length vc).ownBlock = some g ∨ w.heap.size ≤ g := fun g hg => by
      rcases hat with e | e
      · exact .inl (by rw [← e]; exact hg)
      · right; rw [e] at hg; have := Option.some.inj hg; rw [← this]; simp
    have ho := hg4.os
    have htp := hg4.tape
    have hou := hg4.output
    clear hg4 hat h3 hm3 hown3 hge
    go_wp2
    go_ret
    exact ⟨_, rfl, h4, hown4, ho, htp, hou, hs4, fun k hk _ _ hne => hbl k hk hne, hat'⟩)
theorem nest_else {w0 : World} {B M : Nat} {T : TypeId} {rest : List Value} {r : RV} {w : World} (h : RdAt w0 B M T rest r w) (base : Nat) (q : List Int) (t : Int) (v : Value) (hown : w.ownsRow base 5 1 v (q.length + 1) (openB (t :: q))) (hq : q.length ≤ 1000000000000) (hB : B < base) (hM : M < base) (hbw : w0.heap.size ≤ base) :
    Calls Tryz.prog 261 #[.pointer (some ⟨B, 0, none⟩), v, .int .i64 5] w (DidNest w0 B M T rest base v r (t :: q) 5 w) := by
  obtain ⟨g, cap, rfl, hb, hct, hft, hcap, hg⟩ := own_top6 hown
  have e1 : nestQ (t :: q) 5 = 5 :: q := rfl
  have es : ∀ x : Int, (openB (t :: q)).set q.length (.int .u8 x) = openB (x :: q) := by
    intro x
    have : openB (t :: q) = openB q ++ [.int .u8 t] := by simp [openB]
    rw [this, List.set_append_right _ _ (by simp [openB])]
    simp [openB]
  have hfin : ∀ (w1 : World), Mov B M w w1 → w1.ownsRow base 5 1 (.slice (some ⟨g, 0, none⟩) (q.length + 1) cap) (q.length + 1) (openB (t :: q)) → ∀ r1, RdAt w0 B M T rest r1 w1 → NestSt w0 B M T rest base (.slice (some ⟨g, 0, none⟩) (q.length + 1) cap) r1 (5 :: q) w (w1.setCell ⟨g, q.length, none⟩ (.int .u8 5)) (.slice (some ⟨g, 0, none⟩) (q.length + 1) cap) := by
    intro w1 hm hown1 r1 h1
    obtain ⟨o1, o2⟩ := hown1.stored q.length (.int .u8 5)
    rw [es] at o1
    exact ⟨h1.other _ _ (by omega) (by omega) (by omega), o1, hm.os, hm.tape, hm.output, by simp [World.setCell]; exact hm.size, fun k hk h2 h3 hne => (Below.heap_setCell _ _ _ _ (fun e => hne (by rw [e]; rfl))).trans (hm.block k hk h2 h3), fun _ hk => .inl hk⟩
  unfold DidNest
  rw [e1]
  by_cases ht : t = 4
  · have e2 : nestR r (t :: q) 5 = r := by unfold nestR; rw [if_neg (by simp [ht])]
    rw [e2]
    subst ht
    go_enter Tryz.func261, Tryz.ntmps261
    go_wp2_with fail
    go_ret
    exact ⟨_, rfl, hfin w (Mov.refl B M w) hown r h⟩
  · have e2 : nestR r (t :: q) 5 = r.bad 2 := by unfold nestR; rw [if_pos ⟨rfl, by simpa using ht⟩]
    rw [e2]
    have qt : (t != 4) = true := by simpa using ht
    have c1 := fail_of h 2
    go_enter Tryz.func261, Tryz.ntmps261
    go_wp2_with fail
    refine c1.mono ?_
    rintro e w1 ⟨rfl, h1, m1⟩
    have hown1 := own_mov hown m1 hB hM
    obtain ⟨g', cap', hv, _, hct1, hft1, _, hg1⟩ := own_top6 hown1
    cases hv
    clear c1 hct hft
    go_wp2_with fail
    go_ret
    exact ⟨_, rfl, hfin w1 m1 hown1 _ h1⟩
theorem nest_reads {w0 : World} {B M : Nat} {T : TypeId} {rest : List Value} {r : RV} {w : World} (h : RdAt w0 B M T rest r w) (base : Nat) (q : List Int) (hne : q ≠ []) (v : Value) (hown : w.ownsRow base 5 1 v q.length (openB q)) (c : Int) (hq : q.length ≤ 1000000000000) (hB : B < base) (hM : M < base) (hbase : base ≤ w.heap.size) (hbw : w0.heap.size ≤ base) :
    Calls Tryz.prog 261 #[.pointer (some ⟨B, 0, none⟩), v, .int .i64 c] w (DidNest w0 B M T rest base v r q c w) := by
  by_cases hc : c = 2 ∨ c = 3 ∨ c = 4
  · exact nest_open h base q v hown c hc hq hB hM hbase
  cases q with
  | nil => exact absurd rfl hne
  | cons t q =>
    have hq' : q.length ≤ 1000000000000 := by simp at hq; omega
    by_cases h5 : c = 5
    · rw [h5]; exact nest_else h base q t v hown hq' hB hM hbw
    by_cases h11 : c = 11
    · rw [h11]; exact nest_end h base q t v hown hq'
    · exact nest_other h base q t v hown c hq' ⟨by omega, by omega, by omega, h5, h11⟩
end Go.Proofs.YtdinpakclmnacaaGreatDoor
namespace Go.Proofs.YtdinpakclmnacaaGreatDoor
set_option maxRecDepth 100000
set_option maxHeartbeats 16000000
set_option linter.unusedVariables false
def Shr {α : Type} (p : Pr α) : Prop := ∀ l x m, p l = .ok x m → m.length ≤ l.length
theorem shr_val {α : Type} (x : α) : Shr (Pr.val x) := fun l y m h => by cases h; exact Nat.le_refl _
theorem shr_no {α : Type} (k : Int) : Shr (Pr.no k : Pr α) := fun l y m h => by cases h
theorem Shr.and {α β : Type} {p : Pr α} {f : α → Pr β} (hp : Shr p) (hf : ∀ x, Shr (f x)) : Shr (p.and f) := fun l y m h => by
  obtain ⟨x, n, h1, h2⟩ := and_of h
  exact Nat.le_trans (hf x n y m h2) (hp l x n h1)
theorem shr_ite {α : Type} {c : Prop} [Decidable c] {p q : Pr α} (hp : Shr p) (hq : Shr q) : Shr (if c then p else q) := by
  split
  · exact hp
  · exact hq
theorem one_eats : ∀ l x m, pOne l = .ok x m → m.length < l.length := fun l x m h => by
  cases l with
  | nil => cases h
  | cons b t => cases h; exact Nat.lt_succ_self _
theorem shr_one : Shr pOne := fun l x m h => Nat.le_of_lt (one_eats l x m h)
theorem shr_fit (K : IntKind) (p : Int → Int) (most : Nat) : Shr (pFit K p most) := fun l x m h => by
  unfold pFit at h
  split at h
  · cases h
  · cases h; simp
theorem shr_rep {α : Type} {p : Pr α} (hp : Shr p) : ∀ n, Shr (pRep p n)
  | 0 => shr_val _
  | n + 1 => hp.and fun x => (shr_rep hp n).and fun l => shr_val _
theorem shr_num : Shr pNum := shr_fit _ _ _
theorem shr_list {α : Type} {p : Pr α} (hp : Shr p) : Shr (pList p) := (shr_num.and fun n => shr_ite (shr_no _) (shr_val _)).and fun n => shr_rep hp _
theorem shr_kind (b : Int) : Shr (pKind b) := shr_ite (shr_val _) (shr_ite (shr_no _) (shr_no _))
theorem shr_signed (b : Int) : Shr (pSigned b) := by unfold pSigned; exact shr_ite (shr_fit _ _ _) (shr_fit _ _ _)
theorem shr_tail (s op : Int) : Shr (pTail s op) := by
  unfold pTail
  exact shr_ite (shr_one.and fun k => shr_ite (shr_val _) ((shr_kind k).and fun _ => shr_val _)) (shr_ite (shr_num.and fun _ => shr_val _) (shr_ite ((shr_list shr_num).and fun _ => shr_num.and fun _ => shr_val _)
    (shr_ite (shr_num.and fun _ => shr_num.and fun _ => shr_val _) (shr_ite ((shr_one.and fun c => shr_ite (shr_val _) (shr_no _)).and fun _ => shr_val _) (shr_ite ((shr_signed op).and fun _ => shr_val _) (shr_val _))))))
theorem ins_eats {l m : List UInt8} {x : InsV} (h : pIns l = .ok x m) : m.length < l.length := by
  obtain ⟨b, n, h1, h2⟩ := and_of h
  have := one_eats _ _ _ h1
  have hs : Shr (if isFloat b = true ∨ b = 17 then (Pr.no 3 : Pr InsV) else match byCode b with
    | none => .no 2
    | some r => pTail r.shape b) := by
    refine shr_ite (shr_no _) ?_
    cases byCode b with
    | none => exact shr_no _
    | some r => exact shr_tail _ _
  have := hs n x m h2
  omega
theorem ins_nil : pIns [] = .bad 2 := rfl
def bodyOn (f : List Int → Pr (List InsV)) (o : List Int) (x : InsV) : Pr (List InsV) :=
  if x.op = 11 then match o with
    | [] => .val [x]
    | _ :: o' => (f o').and fun l => .val (x :: l)
  else match nest o x.op with
    | none => .no 2
    | some o' => (f o').and fun l => .val (x :: l)
theorem pBody_succ (f : Nat) (o : List Int) : pBody (f + 1) o = pIns.and (bodyOn (pBody f) o) := rfl
theorem and_same {α β : Type} {p q : Pr α} {f : α → Pr β} {l : List UInt8} (h : p l = q l) : (p.and f) l = (q.and f) l := by unfold Pr.and; rw [h]
theorem bodyOn_same {f g : List Int → Pr (List InsV)} {m : List UInt8} (h : ∀ o, f o m = g o m) (o : List Int) (x : InsV) : bodyOn f o x m = bodyOn g o x m := by
  unfold bodyOn
  by_cases hx : x.op = 11
  · rw [if_pos hx, if_pos hx]
    cases o with
    | nil => rfl
    | cons a o' => exact and_same (h o')
  · rw [if_neg hx, if_neg hx]
    cases nest o x.op with
    | none => rfl
    | some o' => exact and_same (h o')
theorem pBody_fuel : ∀ (f g : Nat) (o : List Int) (l : List UInt8), l.length ≤ f → l.length ≤ g → pBody f o l = pBody g o l := by
  have z : ∀ (g : Nat) (o : List Int), pBody g o [] = .bad 2 := fun g o => by
    cases g with
    | zero => rfl
    | succ g => exact and_bad ins_nil
  intro f
  induction f with
  | zero =>
    intro g o l h1 h2
    have : l = [] := List.length_eq_zero_iff.1 (by omega)
    subst this
    rw [z, z]
  | succ f ih =>
    intro g o l h1 h2
    cases g with
    | zero =>
      have : l = [] := List.length_eq_zero_iff.1 (by omega)
      subst this
      rw [z, z]
    | succ g =>
      rw [pBody_succ, pBody_succ]
      cases hi : pIns l with
      | bad e => rw [and_bad hi, and_bad hi]
      | ok x m =>
        have := ins_eats hi
        rw [and_ok hi, and_ok hi]
        exact bodyOn_same (fun o' => ih g o' m (by omega) (by omega)) o x
def body (o : List Int) : Pr (List InsV) := fun l => pBody l.length o l
theorem body_step (o : List Int) : body o = pIns.and (bodyOn body o) := by
  funext l
  unfold body
  cases l with
  | nil => exact (and_bad ins_nil).symm
  | cons b t =>
    show pBody (t.length + 1) o (b :: t) = _
    rw [pBody_succ]
    cases hi : pIns (b :: t) with
    | bad e => rw [and_bad hi, and_bad hi]
    | ok x m =>
      have := ins_eats hi
      rw [and_ok hi, and_ok hi]
      exact bodyOn_same (f := pBody t.length) (g := body) (fun o' => pBody_fuel t.length m.length o' m (by simp at this; omega) (Nat.le_refl _)) o x
theorem Got.stay {α : Type} {p : Pr α} {r r1 r2 : RV} {x : α} (y : α) (h : Got p r r1 x) (he : r1.e ≠ 0) (hs : r2.s = r1.s) (h2 : r2.e = r1.e) : Got p r r2 y := by
  obtain ⟨a, b⟩ := h
  refine ⟨hs.trans a, ?_⟩
  rcases b with ⟨b1, b2⟩ | ⟨b1, b2, b3⟩ | ⟨b1, b2, b3⟩
  · exact .inl ⟨b1, h2.trans b2⟩
  · exact absurd b2 he
  · exact .inr (.inr ⟨b1, by rw [h2]; exact b2, by rw [h2]; exact b3⟩)
def Going (r rk : RV) (l : List InsV) (q : List Int) : Prop :=
  (rk.e = 0 → (q = [] ∧ Got (body []) r rk l) ∨ (∃ o, q = o ++ [2] ∧ ∀ r2 y, Got (body o) rk r2 y → Got (body []) r r2 (l ++ y))) ∧ (rk.e ≠ 0 → ∀ y, Got (body []) r rk y)
theorem Going.start (r : RV) : Going r r [] [2] := ⟨fun _ => .inr ⟨[], rfl, fun r2 y h => h⟩, fun he y => ⟨rfl, .inl ⟨he, rfl⟩⟩⟩
theorem Going.done {r rk : RV} {l : List InsV} {q : List Int} (h : Going r rk l q) (hq : q = [] ∨ rk.e ≠ 0) : Got (body []) r rk l := by
  by_cases he : rk.e = 0
  · rcases h.1 he with ⟨_, h1⟩ | ⟨o, ho, _⟩
    · exact h1
    · rcases hq with hq | hq
      · rw [hq] at ho; simp at ho
      · exact absurd he hq
  · exact h.2 he l
theorem Going.step {r rk r1 : RV} {l : List InsV} {q : List Int} {x : InsV} (h : Going r rk l q) (he : rk.e = 0) (hq : q ≠ []) (g : Got pIns rk r1 x) : Going r (nestR r1 q x.op) (l ++ [x]) (nestQ q x.op) := by
  rcases h.1 he with ⟨h1, _⟩ | ⟨o, ho, hk⟩
  · exact absurd h1 hq
  have hstep : ∀ r2 y, Got (bodyOn body o x) r1 r2 y → Got (body []) r r2 (l ++ y) := fun r2 y h2 => hk r2 y (by rw [body_step]; exact g.and h2)
  have hon : ∀ (o' : List Int), (∀ m, bodyOn body o x m = ((body o').and fun l => .val (x :: l)) m) → ∀ r2 y, Got (body o') r1 r2 y → Got (body []) r r2 ((l ++ [x]) ++ y) := by
    intro o' hm r2 y h2
    rw [List.append_assoc]
    refine hstep r2 (x :: y) ?_
    have := h2.map (fun l => x :: l)
    rw [show bodyOn body o x = ((body o').and fun l => .val (x :: l)) from funext hm]
    exact this
  have dead : ∀ (r2 : RV) (z : List InsV), Got (bodyOn body o x) r1 r2 z → r2.e ≠ 0 → ∀ y, Got (body []) r r2 y := fun r2 z h2 h3 y => (hstep r2 z h2).stay y h3 rfl rfl
  have err : r1.e ≠ 0 → ∀ y, Got (body []) r r1 y := fun h1 y => (hk r1 [] (by rw [body_step]; exact g.and ⟨rfl, .inl ⟨h1, rfl⟩⟩)).stay y h1 rfl rfl
  by_cases h11 : x.op = 11
  · have e1 : nestR r1 q x.op = r1 := by unfold nestR; rw [if_neg (by omega)]
    have e2 : nestQ q x.op = q.tail := by unfold nestQ; rw [if_neg (by omega), if_neg (by omega), if_pos h11]
    rw [e1, e2, ho]
    refine ⟨fun h0 => ?_, err⟩
    cases o with
    | nil => exact .inl ⟨rfl, hstep r1 [x] (by unfold bodyOn; rw [if_pos h11]; exact Got.val _ _)⟩
    | cons a o' => exact .inr ⟨o', rfl, hon o' (fun m => by unfold bodyOn; rw [if_pos h11])⟩
  by_cases hB : x.op = 2 ∨ x.op = 3 ∨ x.op = 4
  · have e1 : nestR r1 q x.op = r1 := by unfold nestR; rw [if_neg (by omega)]
    have e2 : nestQ q x.op = x.op :: q := by unfold nestQ; rw [if_pos hB]
    rw [e1, e2, ho]
    exact ⟨fun h0 => .inr ⟨x.op :: o, rfl, hon (x.op :: o) (fun m => by unfold bodyOn nest; rw [if_neg h11, if_pos hB])⟩, err⟩
  by_cases h5 : x.op = 5
  · have e2 : nestQ q x.op = 5 :: q.tail := by unfold nestQ; rw [if_neg hB, if_pos h5]
    rw [e2]
    by_cases h4 : q.head? = some 4
    · have e1 : nestR r1 q x.op = r1 := by unfold nestR; rw [if_neg (fun h => h.2 h4)]
      rw [e1, ho]
      refine ⟨fun h0 => ?_, err⟩
      cases o with
      | nil => rw [ho] at h4; simp at h4
      | cons a o' =>
        have ha : a = 4 := by rw [ho] at h4; simpa using h4
        exact .inr ⟨5 :: o', rfl, hon (5 :: o') (fun m => by unfold bodyOn nest; rw [if_neg h11, if_neg hB, if_pos h5]; simp [ha])⟩
    · have e1 : nestR r1 q x.op = r1.bad 2 := by unfold nestR; rw [if_pos ⟨h5, h4⟩]
      rw [e1]
      have hne : (r1.bad 2).e ≠ 0 := bad_e (by decide)
      refine ⟨fun h0 => absurd h0 hne, fun _ => dead (r1.bad 2) [] ?_ hne⟩
      have : bodyOn body o x = .no 2 := by
        unfold bodyOn nest
        rw [if_neg h11, if_neg hB, if_pos h5]
        cases o with
        | nil => rfl
        | cons a o' =>
          have ha : ¬ a = 4 := fun e => h4 (by rw [ho, e]; rfl)
          simp [ha]
      rw [this]
      exact Got.no (by decide) _ _
  · have e1 : nestR r1 q x.op = r1 := by unfold nestR; rw [if_neg (fun h => h5 h.1)]
    have e2 : nestQ q x.op = q := by unfold nestQ; rw [if_neg hB, if_neg h5, if_neg h11]
    rw [e1, e2]
    exact ⟨fun h0 => .inr ⟨o, ho, hon o (fun m => by unfold bodyOn nest; rw [if_neg h11, if_neg hB, if_neg h5])⟩, err⟩
theorem Got.eats {r r1 : RV} {x : InsV} (h : Got pIns r r1 x) (h0 : r.e = 0) (h1 : r1.e = 0) : r.pos < r1.pos := by
  rcases h.2 with ⟨a, _⟩ | ⟨_, _, a⟩ | ⟨_, a, _⟩
  · exact absurd h0 a
  · have := ins_eats a
    unfold RV.rem at this
    rw [h.1, List.length_drop, List.length_drop] at this
    omega
  · exact absurd h1 a
end Go.Proofs.YtdinpakclmnacaaGreatDoor
