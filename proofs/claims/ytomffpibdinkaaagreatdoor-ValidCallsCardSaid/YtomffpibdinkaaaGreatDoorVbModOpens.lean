/-
  Facts and contracts that the proof calls.
-/
import Derived.Test.YtomffpibdinkaaaGreatDoorVbModLevel
import Derived.Deep.RegionLaw
namespace Go.Proofs.YtomffpibdinkaaaGreatDoor
set_option maxRecDepth 100000
set_option maxHeartbeats 16000000
open Go.RowKit
variable {pr : List (Nat × Obj)}
theorem step_own {P : Program} {ops : Array Oper} {o : Oper} {a : Act} {w : World} {K : Act → World → Prop} {Q : Exit → Act → World → Prop} {E : Prop}
    (hg : o.guard = none) (s x : Operand) (t : TypeId) (hop : o.op = Op.call { callee := Callee.builtin Builtin.append, args := #[s, x], argTypes := #[t, t] })
    (base : Nat) (e : TypeId) (i : TypeInfo) (z : Value) (size bytes : Nat) (ht : P.underlying t = some (.slice e)) (hi : P.info? e = some i) (hz : i.zero = some z)
    (hsize : i.size = size) (hby : i.bytes = bytes) (hzs : z.cells.size = size) (hsz : 0 < size)
    (v : Value) (n : Nat) (xs : List Value) (hs : a.eval s = v) (hown : w.ownsRow base e size v n xs)
    (ad : Addr) (m c : Nat) (news : List Value) (hx : a.eval x = .slice (some ad) m c) (hl : news.length = m * size) (hnews : ∀ j u, news[j]? = some u → w.cell? (ad.add j) = some u) (h1 : ∀ u ∈ news, u.oneCell' = true)
    (h63 : n + m ≤ maxLen) (hbytes : (n + m) * bytes ≤ 140737488355328) (hbase : base ≤ w.heap.size)
    (hK : ∀ v' w', w'.ownsRow base e size v' (n + m) (xs ++ news) → w.grownBy w' v.ownBlock → (v' = .slice none 0 0 ↔ v = .slice none 0 0 ∧ m = 0) → (v'.ownBlock = v.ownBlock ∨ v'.ownBlock = some w.heap.size) → K (a.put o.dst v') w') :
    if Region.wanted o (yielded ops a.tmps) = true then Oper.wp P o a w K Q else E := by
  have hw : Region.wanted o (yielded ops a.tmps) = true := by simp [Region.wanted, hg]
  rw [if_pos hw]
  obtain ⟨v', w', hr, h2, h3, h4, h5⟩ := run_append_own_at (P := P) w base t o.type e i z size bytes ht hi hz hsize hby hzs hsz v n xs hown ad m c news hl hnews h1 h63 hbytes hbase
  unfold Oper.wp execOp
  simp only [hop, resolve, invoke, builtin, Sem.run_bind, Sem.run_pure, Result.andThen_ok, List.map_toArray, List.map_cons, List.map_nil, hs, hx, hr]
  exact hK v' w' h2 h3 h4 h5
theorem grown_at3 {w0 w w' : World} {s : PS} {cv sv ov v : Value} (h : ProgAt w0 pr s cv sv ov w) (hg : w.grownBy w' v.ownBlock) (hv : ∀ g, v.ownBlock = some g → w0.heap.size + 1 ≤ g ∧ g < w.heap.size) : w'.heap[w0.heap.size]? = some (.cells #[cv, sv, ov] 64) := by
  rw [hg.block _ (by have := h.size; omega) (fun e => by have := (hv _ e.symm).1; omega)]; exact h.at3
theorem opens_of (w0 : World) (s : PS) (op r : Int) (hr : 0 ≤ r ∧ r ≤ 255) (hc : s.code.length ≤ 1000000) (hop : s.opens.length ≤ 1000000) (w : World) (h : Prog w0 pr s w) :
    Calls Tryz.prog 30 #[.pointer (some ⟨w0.heap.size, 0, none⟩), .int .i64 op, .int .u8 r] w fun e w' => e = .returned (.tuple #[]) ∧ Prog w0 pr { s with code := s.code ++ [⟨op, r, 0⟩], opens := s.opens ++ [⟨op, r, s.stack.length⟩] } w' := by
  obtain ⟨i0, hi, hz0, hz1, hz2⟩ := info_parts opened_info
  have cp := put_of (pr := pr) w0 s op r 0 hc w h
  clear h
  obtain ⟨n, hn⟩ : ∃ n, s.stack.length = n := ⟨_, rfl⟩
  rw [hn]
  go_enter Tryz.func30, Tryz.ntmps30
  go_wp2_with (go_at_call 17; (with_reducible refine cp.mono ?_); rintro e w1 ⟨rfl, cv, sv, ov, hA⟩; obtain ⟨sp, sc, rfl⟩ := own_any hA.stack; obtain ⟨d0, d1, d2, f0, f1, f2⟩ := prog_cells hA)
  simp only [hn] at d1
  have hs := hA.size
  have k0 := fun o => (World.cell?_alloc_lt w1 o (⟨w0.heap.size, 2, none⟩ : Addr) (by show w0.heap.size < _; omega)).trans d2
  have ha := (hA.alloc (.cells #[.int .i64 op, .int .u8 r, .int .i64 n] 68)).drew
  go_region_law (refine step_own rfl (.tmp 15) (.tmp 24) 62 rfl (w0.heap.size + 1) 68 i0 (.agg #[.int .i64 0, .int .u8 0, .int .i64 0]) 3 24 Tryz.underlying62 hi hz0 hz1 hz2 rfl (by decide) ov s.opens.length _ rfl ha.opens ⟨w1.heap.size, 0, none⟩ 1 1 (PO.cells ⟨op, r, n⟩) rfl rfl (cells_new w1 (PO.cells ⟨op, r, n⟩) 68) (by intro u hu; simp [PO.cells] at hu; rcases hu with rfl | rfl | rfl <;> rfl) (by unfold maxLen; omega) (by omega) (by show _ ≤ (w1.alloc _).heap.size; simp; omega) ?_; intro v' w2 hown' hgrow _ hloc; have hgc := grown_at3 ha hgrow (own_ge ha.opens); have e0 : w2.cell? ⟨w0.heap.size, 2, none⟩ = some ov := (by simp [World.cell?, hgc]); have e1 : w2.frozen? ⟨w0.heap.size, 2, none⟩ = false := (by simp [World.frozen?, hgc]); obtain ⟨vp, vc, rfl⟩ := own_any hown')
  all_goals
    rw [← openCells_snoc] at hown'
    have hnn : s.opens.length + 1 = (s.opens ++ [(⟨op, r, n⟩ : PO)]).length := by simp
    rw [hnn] at hown' hloc
    have h2 := ha.setOpens hgrow _ hown' hloc
    go_wp2
    go_end0
    exact ⟨rfl, _, _, _, by simp only [List.length_append, List.length_cons, List.length_nil, Nat.zero_add] at h2; exact h2⟩
end Go.Proofs.YtomffpibdinkaaaGreatDoor
namespace Go.Proofs.YtomffpibdinkaaaGreatDoor
set_option maxRecDepth 100000
set_option maxHeartbeats 16000000
open Go.RowKit
def rightPI (x : PI) : Bool := rightOf (byCode x.op) x.op x.a x.b [] && decide (inI64 x.a)
def PS.weight (s : PS) : Nat := s.code.length + 4 * s.stack.length + 8 * s.opens.length
structure Good (s : PS) : Prop where
  code : ∀ x ∈ s.code, rightPI x = true
  run : ∀ t, runs (s.code.map PI.op ++ t) [] = runs t (s.opens.map PO.op).reverse
  opens : ∀ o ∈ s.opens, (o.op = 2 ∨ o.op = 3 ∨ o.op = 4 ∨ o.op = 5) ∧ (o.result = 64 ∨ o.result = 126 ∨ o.result = 127)
  sorted : s.opens.Pairwise fun a b => a.height ≤ b.height
  under : ∀ o ∈ s.opens, o.height ≤ s.stack.length
theorem okPI_right {x : PI} (h : okPI x = true) : rightPI x = true := by
  unfold okPI at h; unfold rightPI; simp only [Bool.and_eq_true, decide_eq_true_eq] at h ⊢; exact ⟨h.1, h.2.2.2.2.2.2⟩
theorem okPI_other {x : PI} (h : okPI x = true) : ¬ (x.op = 2 ∨ x.op = 3 ∨ x.op = 4 ∨ x.op = 5 ∨ x.op = 11) := by
  unfold okPI at h; simp only [Bool.and_eq_true, decide_eq_true_eq] at h; omega
theorem runs_skip (c : List PI) (h : c.all okPI = true) (t st : List Int) : runs (c.map PI.op ++ t) st = runs t st := by
  induction c with
  | nil => rfl
  | cons x c ih =>
    simp only [List.all_cons, Bool.and_eq_true] at h
    rw [List.map_cons, List.cons_append, runs_other (okPI_other h.1)]
    exact ih h.2
theorem Good.none : Good ⟨[], [], []⟩ := ⟨by simp, fun t => rfl, by simp, List.Pairwise.nil, by simp⟩
theorem Good.below {s : PS} (h : Good s) (o : PO) (ho : o ∈ s.opens) : o.height ≤ topHeight s := by
  rcases List.eq_nil_or_concat s.opens with e | ⟨l, x, e⟩
  · rw [e] at ho; cases ho
  · have ht : topHeight s = x.height := by unfold topHeight; rw [e]; simp
    have hp := h.sorted
    rw [e, List.concat_eq_append] at ho hp
    rw [ht]
    rcases List.mem_append.1 ho with h1 | h1
    · exact (List.pairwise_append.1 hp).2.2 o h1 x (by simp)
    · rw [List.mem_singleton.1 h1]; exact Nat.le_refl _
theorem Good.top {s : PS} (h : Good s) : topHeight s ≤ s.stack.length := by
  rcases List.eq_nil_or_concat s.opens with e | ⟨l, x, e⟩
  · unfold topHeight; rw [e]; simp
  · have ht : topHeight s = x.height := by unfold topHeight; rw [e]; simp
    rw [ht]; exact h.under x (by rw [e]; simp)
theorem Good.put {s : PS} (h : Good s) (c : List PI) (hc : c.all okPI = true) (st : List Int) (hst : topHeight s ≤ st.length) : Good { s with code := s.code ++ c, stack := st } := by
  refine ⟨fun x hx => ?_, fun t => ?_, h.opens, h.sorted, fun o ho => Nat.le_trans (h.below o ho) hst⟩
  · rcases List.mem_append.1 hx with h1 | h1
    · exact h.code x h1
    · exact okPI_right (List.all_eq_true.1 hc x h1)
  · show runs ((s.code ++ c).map PI.op ++ t) [] = _
    rw [List.map_append, List.append_assoc, h.run, runs_skip c hc]
theorem Good.opened {s : PS} (h : Good s) (op r : Int) (ho : op = 2 ∨ op = 3 ∨ op = 4) (hr : r = 64 ∨ r = 126 ∨ r = 127) : Good { s with code := s.code ++ [⟨op, r, 0⟩], opens := s.opens ++ [⟨op, r, s.stack.length⟩] } := by
  refine ⟨fun x hx => ?_, fun t => ?_, fun o ho' => ?_, ?_, fun o ho' => ?_⟩
  · rcases List.mem_append.1 hx with h1 | h1
    · exact h.code x h1
    · rw [List.mem_singleton.1 h1]
      rcases ho with rfl | rfl | rfl <;> rcases hr with rfl | rfl | rfl <;> decide +kernel
  · show runs ((s.code ++ [(⟨op, r, 0⟩ : PI)]).map PI.op ++ t) [] = runs t ((s.opens ++ [(⟨op, r, s.stack.length⟩ : PO)]).map PO.op).reverse
    rw [List.map_append, List.append_assoc, h.run]
    show runs (op :: t) _ = _
    rw [runs_open ho, List.map_append, List.reverse_append]; rfl
  · rcases List.mem_append.1 ho' with h1 | h1
    · exact h.opens o h1
    · rw [List.mem_singleton.1 h1]; exact ⟨by simp only; omega, hr⟩
  · refine List.pairwise_append.2 ⟨h.sorted, List.pairwise_singleton _ _, fun a ha b hb => ?_⟩
    rw [List.mem_singleton.1 hb]; exact h.under a ha
  · rcases List.mem_append.1 ho' with h1 | h1
    · exact h.under o h1
    · rw [List.mem_singleton.1 h1]; exact Nat.le_refl _
theorem Good.shut {s : PS} (h : Good s) (l : List PO) (o : PO) (hs : s.opens = l ++ [o]) (c : List PI) (hc : c.all okPI = true) (r : List Int) : Good { s with code := s.code ++ c ++ [⟨11, 0, 0⟩], stack := s.stack.take o.height ++ r, opens := l } := by
  have hu : o.height ≤ s.stack.length := h.under o (by rw [hs]; simp)
  have hp := h.sorted
  rw [hs] at hp
  have hp' := List.pairwise_append.1 hp
  refine ⟨fun x hx => ?_, fun t => ?_, fun a ha => h.opens a (by rw [hs]; simp [ha]), hp'.1, fun a ha => ?_⟩
  · rcases List.mem_append.1 hx with h1 | h1
    · rcases List.mem_append.1 h1 with h1 | h1
      · exact h.code x h1
      · exact okPI_right (List.all_eq_true.1 hc x h1)
    · rw [List.mem_singleton.1 h1]; decide +kernel
  · show runs ((s.code ++ c ++ [(⟨11, 0, 0⟩ : PI)]).map PI.op ++ t) [] = runs t (l.map PO.op).reverse
    rw [List.map_append, List.map_append, List.append_assoc, List.append_assoc, h.run, runs_skip c hc, hs]
    show runs (11 :: t) _ = _
    rw [List.map_append, List.reverse_append]
    show runs (11 :: t) (o.op :: (l.map PO.op).reverse) = _
    exact runs_end
  · have := hp'.2.2 a ha o (by simp)
    show a.height ≤ (s.stack.take o.height ++ r).length
    rw [List.length_append, List.length_take]; omega
theorem Good.elsed {s : PS} (h : Good s) (l : List PO) (o : PO) (hs : s.opens = l ++ [o]) (h4 : o.op = 4) (c : List PI) (hc : c.all okPI = true) : Good { s with code := s.code ++ c ++ [⟨5, 0, 0⟩], stack := s.stack.take o.height, opens := l ++ [⟨5, o.result, o.height⟩] } := by
  have hu : o.height ≤ s.stack.length := h.under o (by rw [hs]; simp)
  have hp := h.sorted
  rw [hs] at hp
  have hp' := List.pairwise_append.1 hp
  have hlen : (s.stack.take o.height).length = o.height := by rw [List.length_take]; omega
  refine ⟨fun x hx => ?_, fun t => ?_, fun a ha => ?_, ?_, fun a ha => ?_⟩
  · rcases List.mem_append.1 hx with h1 | h1
    · rcases List.mem_append.1 h1 with h1 | h1
      · exact h.code x h1
      · exact okPI_right (List.all_eq_true.1 hc x h1)
    · rw [List.mem_singleton.1 h1]; decide +kernel
  · show runs ((s.code ++ c ++ [(⟨5, 0, 0⟩ : PI)]).map PI.op ++ t) [] = runs t ((l ++ [(⟨5, o.result, o.height⟩ : PO)]).map PO.op).reverse
    rw [List.map_append, List.map_append, List.append_assoc, List.append_assoc, h.run, runs_skip c hc, hs]
    show runs (5 :: t) _ = _
    rw [List.map_append, List.reverse_append, List.map_append, List.reverse_append]
    show runs (5 :: t) (o.op :: (l.map PO.op).reverse) = runs t (5 :: (l.map PO.op).reverse)
    rw [runs_else, if_pos h4]
  · rcases List.mem_append.1 ha with h1 | h1
    · exact h.opens a (by rw [hs]; simp [h1])
    · rw [List.mem_singleton.1 h1]; exact ⟨.inr (.inr (.inr rfl)), (h.opens o (by rw [hs]; simp)).2⟩
  · refine List.pairwise_append.2 ⟨hp'.1, List.pairwise_singleton _ _, fun a ha b hb => ?_⟩
    rw [List.mem_singleton.1 hb]; exact hp'.2.2 a ha o (by simp)
  · show a.height ≤ (s.stack.take o.height).length
    rw [hlen]
    rcases List.mem_append.1 ha with h1 | h1
    · exact hp'.2.2 a h1 o (by simp)
    · rw [List.mem_singleton.1 h1]; exact Nat.le_refl _
theorem Good.done {s : PS} (h : Good s) (h0 : s.opens = []) (c : List PI) (hc : c.all okPI = true) : runs ((s.code ++ c ++ [(⟨11, 0, 0⟩ : PI)]).map PI.op) [] = true ∧ ∀ x ∈ s.code ++ c ++ [(⟨11, 0, 0⟩ : PI)], rightPI x = true := by
  refine ⟨?_, fun x hx => ?_⟩
  · rw [List.map_append, List.map_append, List.append_assoc, h.run, runs_skip c hc, h0]
    rfl
  · rcases List.mem_append.1 hx with h1 | h1
    · rcases List.mem_append.1 h1 with h1 | h1
      · exact h.code x h1
      · exact okPI_right (List.all_eq_true.1 hc x h1)
    · rw [List.mem_singleton.1 h1]; decide +kernel
end Go.Proofs.YtomffpibdinkaaaGreatDoor
namespace Go.Proofs.YtomffpibdinkaaaGreatDoor
set_option maxRecDepth 100000
set_option maxHeartbeats 16000000
set_option linter.unusedSimpArgs false
open Go.RowKit
variable {pr : List (Nat × Obj)}
def St (w0 : World) (pr : List (Nat × Obj)) (s f : PS) (d h : Nat) (w : World) : Prop :=
  Good f ∧ f.opens = s.opens ∧ f.weight ≤ s.weight + d ∧ topHeight s + h ≤ f.stack.length ∧ Prog w0 pr f w
def Done (w0 : World) (pr : List (Nat × Obj)) (s f : PS) (w : World) : Prop := Good f ∧ f.weight ≤ s.weight + 20 ∧ Prog w0 pr f w
theorem top_same {s t : PS} (h : t.opens = s.opens) : topHeight t = topHeight s := by unfold topHeight; rw [h]
theorem St.begin {w0 w : World} {s : PS} (hg : Good s) (h : Prog w0 pr s w) : St w0 pr s s 0 0 w := ⟨hg, rfl, by omega, hg.top, h⟩
theorem St.done {w0 w : World} {s f : PS} {d h : Nat} (hd : d ≤ 20) (hs : St w0 pr s f d h w) : Done w0 pr s f w := by
  obtain ⟨h1, _, h3, _, h5⟩ := hs; exact ⟨h1, by omega, h5⟩
theorem Done.forget {w0 w : World} {p : Nat × Obj} {s f : PS} (hs : Done w0 (p :: pr) s f w) : Done w0 pr s f w := by
  obtain ⟨h1, h2, h3⟩ := hs; exact ⟨h1, h2, h3.forget⟩
theorem put_st {w0 : World} {s t : PS} {d h : Nat} {op a b : Int} (ok : okPI ⟨op, a, b⟩ = true) (hw : s.weight ≤ 200000) (hd : d ≤ 20) {w : World} (hs : St w0 pr s t d h w) :
    Calls Tryz.prog 17 #[.pointer (some ⟨w0.heap.size, 0, none⟩), .int .i64 op, .int .i64 a, .int .i64 b] w fun e w' => e = .returned (.tuple #[]) ∧ St w0 pr s (putF t op a b) (d + 1) h w' := by
  obtain ⟨h1, h2, h3, h4, h5⟩ := hs
  have hw' : t.code.length + 4 * t.stack.length + 8 * t.opens.length ≤ s.weight + d := h3
  refine (put_of w0 t op a b (by omega) w h5).mono ?_
  rintro e w' ⟨he, hp⟩
  have g := h1.put [⟨op, a, b⟩] (by simp [ok]) t.stack (by rw [top_same h2]; omega)
  exact ⟨he, g, h2, by generalize s.weight = W at *; unfold PS.weight; simp only [putF, pushF, opensF, List.length_append, List.length_singleton]; omega, h4, hp⟩
theorem push_st {w0 : World} {s t : PS} {d h : Nat} {k : Int} (hw : s.weight ≤ 200000) (hd : d ≤ 20) {w : World} (hs : St w0 pr s t d h w) :
    Calls Tryz.prog 27 #[.pointer (some ⟨w0.heap.size, 0, none⟩), .int .u8 k] w fun e w' => e = .returned (.tuple #[]) ∧ St w0 pr s (pushF t k) (d + 4) (h + 1) w' := by
  obtain ⟨h1, h2, h3, h4, h5⟩ := hs
  have hw' : t.code.length + 4 * t.stack.length + 8 * t.opens.length ≤ s.weight + d := h3
  refine (push_of w0 t k (by omega) w h5).mono ?_
  rintro e w' ⟨he, hp⟩
  have g := h1.put [] rfl (t.stack ++ [k]) (by rw [top_same h2, List.length_append]; omega)
  rw [List.append_nil] at g
  exact ⟨he, g, h2, by generalize s.weight = W at *; unfold PS.weight; simp only [putF, pushF, opensF, List.length_append, List.length_singleton]; omega, by simp only [putF, pushF, opensF, List.length_append, List.length_singleton]; omega, hp⟩
theorem want_st {w0 : World} {s t : PS} {d h : Nat} {k : Int} (hk : k = 126 ∨ k = 127) (hh : h ≤ 1) (hw : s.weight ≤ 200000) (hd : d ≤ 20) {w : World} (hs : St w0 pr s t d h w) :
    Calls Tryz.prog 28 #[.pointer (some ⟨w0.heap.size, 0, none⟩), .int .u8 k] w fun e w' => e = .returned (.tuple #[]) ∧ St w0 pr s (wantF t k) (d + 5) 1 w' := by
  obtain ⟨h1, h2, h3, h4, h5⟩ := hs
  have hw' : t.code.length + 4 * t.stack.length + 8 * t.opens.length ≤ s.weight + d := h3
  have ht := top_same h2
  refine (want_of w0 t k hk (topHeight s) ht (by omega) (by omega) (by omega) (by omega) w h5).mono ?_
  rintro e w' ⟨he, c, n, hall, hcn, hm, hn, hn1, hwf, hp⟩
  rw [hwf]
  have hl : (t.stack.take n ++ [k]).length = n + 1 := by rw [List.length_append, List.length_take, List.length_singleton]; omega
  have g := h1.put c hall (t.stack.take n ++ [k]) (by omega)
  exact ⟨he, g, h2, by generalize s.weight = W at *; unfold PS.weight; simp only [List.length_append, hl] at *; omega, by simp only [hl]; omega, hp⟩
theorem take_st {w0 : World} {s t : PS} {d h : Nat} (hw : s.weight ≤ 200000) (hd : d ≤ 20) {w : World} (hs : St w0 pr s t d (h + 1) w) :
    Calls Tryz.prog 29 #[.pointer (some ⟨w0.heap.size, 0, none⟩)] w fun e w' => e = .returned (.tuple #[]) ∧ St w0 pr s (takeF t) d h w' := by
  obtain ⟨h1, h2, h3, h4, h5⟩ := hs
  have hw' : t.code.length + 4 * t.stack.length + 8 * t.opens.length ≤ s.weight + d := h3
  obtain ⟨l, x, hl⟩ : ∃ l x, t.stack = l ++ [x] := by
    rcases List.eq_nil_or_concat t.stack with e | ⟨l, x, e⟩
    · rw [e] at h4; simp at h4
    · exact ⟨l, x, by rw [e, List.concat_eq_append]⟩
  have hn : t.stack.length = l.length + 1 := by rw [hl]; simp
  refine (take_of w0 t l x hl (by omega) w h5).mono ?_
  rintro e w' ⟨he, hp⟩
  have g := h1.put [] rfl l (by rw [top_same h2]; omega)
  rw [List.append_nil] at g
  rw [show takeF t = { t with stack := l } by unfold takeF; rw [hl, List.dropLast_concat]]
  exact ⟨he, g, h2, by generalize s.weight = W at *; unfold PS.weight; simp only; omega, by simp only; omega, hp⟩
theorem opens_st {w0 : World} {s t : PS} {d h : Nat} {op r : Int} (ho : op = 2 ∨ op = 3 ∨ op = 4) (hr : r = 64 ∨ r = 126 ∨ r = 127) (hw : s.weight ≤ 200000) (hd : d ≤ 11) {w : World} (hs : St w0 pr s t d h w) :
    Calls Tryz.prog 30 #[.pointer (some ⟨w0.heap.size, 0, none⟩), .int .i64 op, .int .u8 r] w fun e w' => e = .returned (.tuple #[]) ∧ Done w0 pr s (opensF t op r) w' := by
  obtain ⟨h1, h2, h3, h4, h5⟩ := hs
  have hw' : t.code.length + 4 * t.stack.length + 8 * t.opens.length ≤ s.weight + d := h3
  refine (opens_of w0 t op r (by omega) (by omega) (by omega) w h5).mono ?_
  rintro e w' ⟨he, hp⟩
  exact ⟨he, h1.opened op r ho hr, by generalize s.weight = W at *; unfold PS.weight; simp only [putF, pushF, opensF, List.length_append, List.length_singleton]; omega, hp⟩
theorem shut_st {w0 : World} {s : PS} (hg : Good s) (h0 : s.opens ≠ []) (hw : s.weight ≤ 200000) {w : World} (hs : Prog w0 pr s w) :
    Calls Tryz.prog 15 #[.pointer (some ⟨w0.heap.size, 0, none⟩)] w fun e w' => e = .returned (.tuple #[]) ∧ Good (shutF s) ∧ (shutF s).weight ≤ s.weight ∧ (shutF s).opens.length + 1 = s.opens.length ∧ Prog w0 pr (shutF s) w' := by
  obtain ⟨l, o, hl⟩ : ∃ l x, s.opens = l ++ [x] := by
    rcases List.eq_nil_or_concat s.opens with e | ⟨l, x, e⟩
    · exact absurd e h0
    · exact ⟨l, x, by rw [e, List.concat_eq_append]⟩
  have hn : s.opens.length = l.length + 1 := by rw [hl]; simp
  have hw' : s.code.length + 4 * s.stack.length + 8 * s.opens.length ≤ 200000 := hw
  have hu : o.height ≤ s.stack.length := hg.under o (by rw [hl]; simp)
  refine (shut_of w0 s l o hl (hg.opens o (by rw [hl]; simp)).2 hu (by omega) (by omega) w hs).mono ?_
  rintro e w' ⟨he, c, hall, hcn, hsf, hp⟩
  rw [hsf]
  have hr : (if o.result = 64 then [] else [o.result]).length ≤ 1 := by split <;> simp
  refine ⟨he, hg.shut l o hl c hall _, ?_, by simp only; omega, hp⟩
  unfold PS.weight
  simp only [List.length_append, List.length_singleton, List.length_take]
  omega
theorem jumps_st {w0 : World} {s : PS} (n : Nat) (hn : n < 256) (hg : Good s) (hw : s.weight ≤ 200000) {w : World} (hs : Prog w0 pr s w) :
    Calls Tryz.prog 31 #[.pointer (some ⟨w0.heap.size, 0, none⟩), .int .i64 n] w fun e w' => e = .returned (.tuple #[]) ∧ Done w0 pr s (jumpsF s n) w' := by
  have hw' : s.code.length + 4 * s.stack.length + 8 * s.opens.length ≤ 200000 := hw
  refine (jumps_of w0 s n (topHeight s) hn rfl hg.top (by omega) (by omega) w hs).mono ?_
  rintro e w' ⟨he, c, k, hall, hcn, hm, hk, hjf, hp⟩
  rw [hjf]
  have hl : (s.stack.take k).length = k := by rw [List.length_take]; omega
  exact ⟨he, hg.put c hall (s.stack.take k) (by omega), by unfold PS.weight; simp only [List.length_append, hl]; omega, hp⟩
end Go.Proofs.YtomffpibdinkaaaGreatDoor
namespace Go.Proofs.YtomffpibdinkaaaGreatDoor
set_option maxRecDepth 100000
set_option maxHeartbeats 16000000
open Go.RowKit
variable {pr : List (Nat × Obj)}
theorem ok66 (a : Int) (h : inI64 a) : okPI ⟨66, a, 0⟩ = true := by
  have e : rightOf (byCode 66) 66 a 0 [] = true := by kernel_rfl
  unfold okPI; simp only [e, h]; decide
theorem ok65 (a : Int) (h : -2147483648 ≤ a ∧ a < 2147483648) : okPI ⟨65, a, 0⟩ = true := by
  have e : rightOf (byCode 65) 65 a 0 [] = (decide (-2147483648 ≤ a ∧ a < 2147483648)) := by kernel_rfl
  have h2 : inI64 a := by unfold inI64; omega
  unfold okPI; simp only [e, h, h2]; decide
theorem ok32 (x : Int) (h : 0 ≤ x ∧ x < 256) : okPI ⟨32, x, 0⟩ = true := by
  have : ∀ q : Fin 256, (fun x : Int => okPI ⟨32, x, 0⟩) (q.val : Int) = true := by decide +kernel
  have e := this ⟨x.toNat, by omega⟩
  simp only at e
  rwa [Int.toNat_of_nonneg h.1] at e
theorem ok124 (x : Int) (h : 0 ≤ x ∧ x < 15) : okPI ⟨124 + x, 0, 0⟩ = true := by
  have : ∀ q : Fin 15, (fun x : Int => okPI ⟨124 + x, 0, 0⟩) (q.val : Int) = true := by decide +kernel
  have e := this ⟨x.toNat, by omega⟩
  simp only at e
  rwa [Int.toNat_of_nonneg h.1] at e
theorem ok106 (x : Int) (h : 0 ≤ x ∧ x < 15) : okPI ⟨106 + x, 0, 0⟩ = true := by
  have : ∀ q : Fin 15, (fun x : Int => okPI ⟨106 + x, 0, 0⟩) (q.val : Int) = true := by decide +kernel
  have e := this ⟨x.toNat, by omega⟩
  simp only at e
  rwa [Int.toNat_of_nonneg h.1] at e
theorem step_box {w0 w : World} {s : PS} (h : Prog w0 pr s w) (o : Obj) : Prog w0 ((w.heap.size, o) :: pr) s (w.alloc o) := by
  obtain ⟨cv, sv, ov, h⟩ := h
  exact ⟨cv, sv, ov, h.allocKept _⟩
theorem St.alloc {w0 w : World} {s f : PS} {d k : Nat} (h : St w0 pr s f d k w) (o : Obj) : St w0 pr s f d k (w.alloc o) := by
  obtain ⟨h1, h2, h3, h4, cv, sv, ov, h5⟩ := h
  exact ⟨h1, h2, h3, h4, cv, sv, ov, h5.alloc o⟩
theorem St.cells {w0 w : World} {b : Nat} {x y z u : Value} {t : TypeId} {s f : PS} {d k : Nat} (h : St w0 ((b, .cells #[x, y, z, u] t) :: pr) s f d k w) :
    w.cell? ⟨b, 0, none⟩ = some x ∧ w.cell? ⟨b, 1, none⟩ = some y ∧ w.cell? ⟨b, 2, none⟩ = some z ∧ w.cell? ⟨b, 3, none⟩ = some u := by
  obtain ⟨_, _, _, _, h5⟩ := h
  have hk := h5.kept
  simp only at hk
  refine ⟨?_, ?_, ?_, ?_⟩ <;> simp [World.cell?, hk]
theorem does_0a (w0 : World) (s : PS) (kind op a b : Int) (hk : 0 ≤ kind ∧ kind < 256) (ho : 0 ≤ op ∧ op < 256) (ha : inI64 a) (hK : kind % 16 = 0) (hO : op % 2 = 0) (hg : Good s) (hw : s.weight ≤ 200000) (w : World) (h : Prog w0 pr s w) :
    Calls Tryz.prog 14 #[.pointer (some ⟨w0.heap.size, 0, none⟩), .agg #[.int .u8 kind, .int .i64 a, .int .i64 b, .int .u8 op]] w fun e w' => e = .returned (.tuple #[]) ∧ Done w0 pr s (doesF s kind op a b) w' := by
  have HF : Hid (doesF s kind op a b = pushF (putF s 66 a 0) 126) := Lib.hid (by unfold doesF; rw [hK]; simp [hO])
  have hS := St.begin hg (step_box h (.cells #[.int .u8 kind, .int .i64 a, .int .i64 b, .int .u8 op] 59))
  clear h hg
  have ok1 := ok66 a ha
  go_enter Tryz.func14, Tryz.ntmps14
  go_wp2_with (first
    | (go_at_call 17; (first | refine (put_st (by first | assumption | decide +kernel) hw (by omega) hS).mono ?_ | refine (put_st (by first | assumption | decide +kernel) hw (by omega) (hS.alloc _)).mono ?_); rintro e wn ⟨rfl, hN⟩; clear hS; have hS := hN; clear hN; obtain ⟨z0, z1, z2, z3⟩ := hS.cells)
    | (go_at_call 27; (first | refine (push_st hw (by omega) hS).mono ?_ | refine (push_st hw (by omega) (hS.alloc _)).mono ?_); rintro e wn ⟨rfl, hN⟩; clear hS; have hS := hN; clear hN; obtain ⟨z0, z1, z2, z3⟩ := hS.cells)
    | (go_at_call 28; (first | refine (want_st (by omega) (by omega) hw (by omega) hS).mono ?_ | refine (want_st (by omega) (by omega) hw (by omega) (hS.alloc _)).mono ?_); rintro e wn ⟨rfl, hN⟩; clear hS; have hS := hN; clear hN; obtain ⟨z0, z1, z2, z3⟩ := hS.cells)
    | (go_at_call 29; (first | refine (take_st hw (by omega) hS).mono ?_ | refine (take_st hw (by omega) (hS.alloc _)).mono ?_); rintro e wn ⟨rfl, hN⟩; clear hS; have hS := hN; clear hN; obtain ⟨z0, z1, z2, z3⟩ := hS.cells))
  go_end0
  exact ⟨rfl, by rw [HF.out]; exact (St.done (by omega) hS).forget⟩
theorem does_0b (w0 : World) (s : PS) (kind op a b : Int) (hk : 0 ≤ kind ∧ kind < 256) (ho : 0 ≤ op ∧ op < 256) (hK : kind % 16 = 0) (hO : op % 2 = 1) (hg : Good s) (hw : s.weight ≤ 200000) (w : World) (h : Prog w0 pr s w) :
    Calls Tryz.prog 14 #[.pointer (some ⟨w0.heap.size, 0, none⟩), .agg #[.int .u8 kind, .int .i64 a, .int .i64 b, .int .u8 op]] w fun e w' => e = .returned (.tuple #[]) ∧ Done w0 pr s (doesF s kind op a b) w' := by
  have HF : Hid (doesF s kind op a b = pushF (putF s 65 (wrap64 (wrap32 a)) 0) 127) := Lib.hid (by unfold doesF; rw [hK]; simp [hO])
  have hS := St.begin hg (step_box h (.cells #[.int .u8 kind, .int .i64 a, .int .i64 b, .int .u8 op] 59))
  clear h hg
  have ok1 := ok65 (wrap64 (wrap32 a)) (by unfold wrap64 wrap32; omega)
  go_enter Tryz.func14, Tryz.ntmps14
  go_wp2_with (first
    | (go_at_call 17; (first | refine (put_st (by first | assumption | decide +kernel) hw (by omega) hS).mono ?_ | refine (put_st (by first | assumption | decide +kernel) hw (by omega) (hS.alloc _)).mono ?_); rintro e wn ⟨rfl, hN⟩; clear hS; have hS := hN; clear hN; obtain ⟨z0, z1, z2, z3⟩ := hS.cells)
    | (go_at_call 27; (first | refine (push_st hw (by omega) hS).mono ?_ | refine (push_st hw (by omega) (hS.alloc _)).mono ?_); rintro e wn ⟨rfl, hN⟩; clear hS; have hS := hN; clear hN; obtain ⟨z0, z1, z2, z3⟩ := hS.cells)
    | (go_at_call 28; (first | refine (want_st (by omega) (by omega) hw (by omega) hS).mono ?_ | refine (want_st (by omega) (by omega) hw (by omega) (hS.alloc _)).mono ?_); rintro e wn ⟨rfl, hN⟩; clear hS; have hS := hN; clear hN; obtain ⟨z0, z1, z2, z3⟩ := hS.cells)
    | (go_at_call 29; (first | refine (take_st hw (by omega) hS).mono ?_ | refine (take_st hw (by omega) (hS.alloc _)).mono ?_); rintro e wn ⟨rfl, hN⟩; clear hS; have hS := hN; clear hN; obtain ⟨z0, z1, z2, z3⟩ := hS.cells))
  go_end0
  exact ⟨rfl, by rw [HF.out]; exact (St.done (by omega) hS).forget⟩
theorem does_1a (w0 : World) (s : PS) (kind op a b : Int) (hk : 0 ≤ kind ∧ kind < 256) (ho : 0 ≤ op ∧ op < 256) (ha : inI64 a) (hK : kind % 16 = 1) (hO : op % 2 = 0) (hg : Good s) (hw : s.weight ≤ 200000) (w : World) (h : Prog w0 pr s w) :
    Calls Tryz.prog 14 #[.pointer (some ⟨w0.heap.size, 0, none⟩), .agg #[.int .u8 kind, .int .i64 a, .int .i64 b, .int .u8 op]] w fun e w' => e = .returned (.tuple #[]) ∧ Done w0 pr s (doesF s kind op a b) w' := by
  have HF : Hid (doesF s kind op a b = pushF (putF s 66 a 0) 126) := Lib.hid (by unfold doesF; rw [hK]; simp [hO])
  have hS := St.begin hg (step_box h (.cells #[.int .u8 kind, .int .i64 a, .int .i64 b, .int .u8 op] 59))
  clear h hg
  have ok1 := ok66 a ha
  go_enter Tryz.func14, Tryz.ntmps14
  go_wp2_with (first
    | (go_at_call 17; (first | refine (put_st (by first | assumption | decide +kernel) hw (by omega) hS).mono ?_ | refine (put_st (by first | assumption | decide +kernel) hw (by omega) (hS.alloc _)).mono ?_); rintro e wn ⟨rfl, hN⟩; clear hS; have hS := hN; clear hN; obtain ⟨z0, z1, z2, z3⟩ := hS.cells)
    | (go_at_call 27; (first | refine (push_st hw (by omega) hS).mono ?_ | refine (push_st hw (by omega) (hS.alloc _)).mono ?_); rintro e wn ⟨rfl, hN⟩; clear hS; have hS := hN; clear hN; obtain ⟨z0, z1, z2, z3⟩ := hS.cells)
    | (go_at_call 28; (first | refine (want_st (by omega) (by omega) hw (by omega) hS).mono ?_ | refine (want_st (by omega) (by omega) hw (by omega) (hS.alloc _)).mono ?_); rintro e wn ⟨rfl, hN⟩; clear hS; have hS := hN; clear hN; obtain ⟨z0, z1, z2, z3⟩ := hS.cells)
    | (go_at_call 29; (first | refine (take_st hw (by omega) hS).mono ?_ | refine (take_st hw (by omega) (hS.alloc _)).mono ?_); rintro e wn ⟨rfl, hN⟩; clear hS; have hS := hN; clear hN; obtain ⟨z0, z1, z2, z3⟩ := hS.cells))
  go_end0
  exact ⟨rfl, by rw [HF.out]; exact (St.done (by omega) hS).forget⟩
theorem does_1b (w0 : World) (s : PS) (kind op a b : Int) (hk : 0 ≤ kind ∧ kind < 256) (ho : 0 ≤ op ∧ op < 256) (hK : kind % 16 = 1) (hO : op % 2 = 1) (hg : Good s) (hw : s.weight ≤ 200000) (w : World) (h : Prog w0 pr s w) :
    Calls Tryz.prog 14 #[.pointer (some ⟨w0.heap.size, 0, none⟩), .agg #[.int .u8 kind, .int .i64 a, .int .i64 b, .int .u8 op]] w fun e w' => e = .returned (.tuple #[]) ∧ Done w0 pr s (doesF s kind op a b) w' := by
  have HF : Hid (doesF s kind op a b = pushF (putF s 65 (wrap64 (wrap32 a)) 0) 127) := Lib.hid (by unfold doesF; rw [hK]; simp [hO])
  have hS := St.begin hg (step_box h (.cells #[.int .u8 kind, .int .i64 a, .int .i64 b, .int .u8 op] 59))
  clear h hg
  have ok1 := ok65 (wrap64 (wrap32 a)) (by unfold wrap64 wrap32; omega)
  go_enter Tryz.func14, Tryz.ntmps14
  go_wp2_with (first
    | (go_at_call 17; (first | refine (put_st (by first | assumption | decide +kernel) hw (by omega) hS).mono ?_ | refine (put_st (by first | assumption | decide +kernel) hw (by omega) (hS.alloc _)).mono ?_); rintro e wn ⟨rfl, hN⟩; clear hS; have hS := hN; clear hN; obtain ⟨z0, z1, z2, z3⟩ := hS.cells)
    | (go_at_call 27; (first | refine (push_st hw (by omega) hS).mono ?_ | refine (push_st hw (by omega) (hS.alloc _)).mono ?_); rintro e wn ⟨rfl, hN⟩; clear hS; have hS := hN; clear hN; obtain ⟨z0, z1, z2, z3⟩ := hS.cells)
    | (go_at_call 28; (first | refine (want_st (by omega) (by omega) hw (by omega) hS).mono ?_ | refine (want_st (by omega) (by omega) hw (by omega) (hS.alloc _)).mono ?_); rintro e wn ⟨rfl, hN⟩; clear hS; have hS := hN; clear hN; obtain ⟨z0, z1, z2, z3⟩ := hS.cells)
    | (go_at_call 29; (first | refine (take_st hw (by omega) hS).mono ?_ | refine (take_st hw (by omega) (hS.alloc _)).mono ?_); rintro e wn ⟨rfl, hN⟩; clear hS; have hS := hN; clear hN; obtain ⟨z0, z1, z2, z3⟩ := hS.cells))
  go_end0
  exact ⟨rfl, by rw [HF.out]; exact (St.done (by omega) hS).forget⟩
theorem does_2a (w0 : World) (s : PS) (kind op a b : Int) (hk : 0 ≤ kind ∧ kind < 256) (ho : 0 ≤ op ∧ op < 256) (hK : kind % 16 = 2) (hO : op % 2 = 0) (hg : Good s) (hw : s.weight ≤ 200000) (w : World) (h : Prog w0 pr s w) :
    Calls Tryz.prog 14 #[.pointer (some ⟨w0.heap.size, 0, none⟩), .agg #[.int .u8 kind, .int .i64 a, .int .i64 b, .int .u8 op]] w fun e w' => e = .returned (.tuple #[]) ∧ Done w0 pr s (doesF s kind op a b) w' := by
  have HF : Hid (doesF s kind op a b = putF (putF (wantF s 126) 32 0 0) (124 + op / 2 % 15) 0 0) := Lib.hid (by unfold doesF; rw [hK]; simp [hO])
  have hS := St.begin hg (step_box h (.cells #[.int .u8 kind, .int .i64 a, .int .i64 b, .int .u8 op] 59))
  clear h hg
  have ok1 := ok32 0 (by omega)
  have ok2 := ok124 (op / 2 % 15) (by omega)
  go_enter Tryz.func14, Tryz.ntmps14
  go_wp2_with (first
    | (go_at_call 17; (first | refine (put_st (by first | assumption | decide +kernel) hw (by omega) hS).mono ?_ | refine (put_st (by first | assumption | decide +kernel) hw (by omega) (hS.alloc _)).mono ?_); rintro e wn ⟨rfl, hN⟩; clear hS; have hS := hN; clear hN; obtain ⟨z0, z1, z2, z3⟩ := hS.cells)
    | (go_at_call 27; (first | refine (push_st hw (by omega) hS).mono ?_ | refine (push_st hw (by omega) (hS.alloc _)).mono ?_); rintro e wn ⟨rfl, hN⟩; clear hS; have hS := hN; clear hN; obtain ⟨z0, z1, z2, z3⟩ := hS.cells)
    | (go_at_call 28; (first | refine (want_st (by omega) (by omega) hw (by omega) hS).mono ?_ | refine (want_st (by omega) (by omega) hw (by omega) (hS.alloc _)).mono ?_); rintro e wn ⟨rfl, hN⟩; clear hS; have hS := hN; clear hN; obtain ⟨z0, z1, z2, z3⟩ := hS.cells)
    | (go_at_call 29; (first | refine (take_st hw (by omega) hS).mono ?_ | refine (take_st hw (by omega) (hS.alloc _)).mono ?_); rintro e wn ⟨rfl, hN⟩; clear hS; have hS := hN; clear hN; obtain ⟨z0, z1, z2, z3⟩ := hS.cells))
  go_end0
  exact ⟨rfl, by rw [HF.out]; exact (St.done (by omega) hS).forget⟩
theorem does_2b (w0 : World) (s : PS) (kind op a b : Int) (hk : 0 ≤ kind ∧ kind < 256) (ho : 0 ≤ op ∧ op < 256) (hK : kind % 16 = 2) (hO : op % 2 = 1) (hg : Good s) (hw : s.weight ≤ 200000) (w : World) (h : Prog w0 pr s w) :
    Calls Tryz.prog 14 #[.pointer (some ⟨w0.heap.size, 0, none⟩), .agg #[.int .u8 kind, .int .i64 a, .int .i64 b, .int .u8 op]] w fun e w' => e = .returned (.tuple #[]) ∧ Done w0 pr s (doesF s kind op a b) w' := by
  have HF : Hid (doesF s kind op a b = putF (putF (wantF s 127) 32 1 0) (106 + op / 2 % 15) 0 0) := Lib.hid (by unfold doesF; rw [hK]; simp [hO])
  have hS := St.begin hg (step_box h (.cells #[.int .u8 kind, .int .i64 a, .int .i64 b, .int .u8 op] 59))
  clear h hg
  have ok1 := ok32 1 (by omega)
  have ok2 := ok106 (op / 2 % 15) (by omega)
  go_enter Tryz.func14, Tryz.ntmps14
  go_wp2_with (first
    | (go_at_call 17; (first | refine (put_st (by first | assumption | decide +kernel) hw (by omega) hS).mono ?_ | refine (put_st (by first | assumption | decide +kernel) hw (by omega) (hS.alloc _)).mono ?_); rintro e wn ⟨rfl, hN⟩; clear hS; have hS := hN; clear hN; obtain ⟨z0, z1, z2, z3⟩ := hS.cells)
    | (go_at_call 27; (first | refine (push_st hw (by omega) hS).mono ?_ | refine (push_st hw (by omega) (hS.alloc _)).mono ?_); rintro e wn ⟨rfl, hN⟩; clear hS; have hS := hN; clear hN; obtain ⟨z0, z1, z2, z3⟩ := hS.cells)
    | (go_at_call 28; (first | refine (want_st (by omega) (by omega) hw (by omega) hS).mono ?_ | refine (want_st (by omega) (by omega) hw (by omega) (hS.alloc _)).mono ?_); rintro e wn ⟨rfl, hN⟩; clear hS; have hS := hN; clear hN; obtain ⟨z0, z1, z2, z3⟩ := hS.cells)
    | (go_at_call 29; (first | refine (take_st hw (by omega) hS).mono ?_ | refine (take_st hw (by omega) (hS.alloc _)).mono ?_); rintro e wn ⟨rfl, hN⟩; clear hS; have hS := hN; clear hN; obtain ⟨z0, z1, z2, z3⟩ := hS.cells))
  go_end0
  exact ⟨rfl, by rw [HF.out]; exact (St.done (by omega) hS).forget⟩
theorem does_3a (w0 : World) (s : PS) (kind op a b : Int) (hk : 0 ≤ kind ∧ kind < 256) (ho : 0 ≤ op ∧ op < 256) (hK : kind % 16 = 3) (hO : op % 2 = 0) (hg : Good s) (hw : s.weight ≤ 200000) (w : World) (h : Prog w0 pr s w) :
    Calls Tryz.prog 14 #[.pointer (some ⟨w0.heap.size, 0, none⟩), .agg #[.int .u8 kind, .int .i64 a, .int .i64 b, .int .u8 op]] w fun e w' => e = .returned (.tuple #[]) ∧ Done w0 pr s (doesF s kind op a b) w' := by
  have HF : Hid (doesF s kind op a b = putF (putF (wantF s 126) 32 0 0) (124 + op / 2 % 15) 0 0) := Lib.hid (by unfold doesF; rw [hK]; simp [hO])
  have hS := St.begin hg (step_box h (.cells #[.int .u8 kind, .int .i64 a, .int .i64 b, .int .u8 op] 59))
  clear h hg
  have ok1 := ok32 0 (by omega)
  have ok2 := ok124 (op / 2 % 15) (by omega)
  go_enter Tryz.func14, Tryz.ntmps14
  go_wp2_with (first
    | (go_at_call 17; (first | refine (put_st (by first | assumption | decide +kernel) hw (by omega) hS).mono ?_ | refine (put_st (by first | assumption | decide +kernel) hw (by omega) (hS.alloc _)).mono ?_); rintro e wn ⟨rfl, hN⟩; clear hS; have hS := hN; clear hN; obtain ⟨z0, z1, z2, z3⟩ := hS.cells)
    | (go_at_call 27; (first | refine (push_st hw (by omega) hS).mono ?_ | refine (push_st hw (by omega) (hS.alloc _)).mono ?_); rintro e wn ⟨rfl, hN⟩; clear hS; have hS := hN; clear hN; obtain ⟨z0, z1, z2, z3⟩ := hS.cells)
    | (go_at_call 28; (first | refine (want_st (by omega) (by omega) hw (by omega) hS).mono ?_ | refine (want_st (by omega) (by omega) hw (by omega) (hS.alloc _)).mono ?_); rintro e wn ⟨rfl, hN⟩; clear hS; have hS := hN; clear hN; obtain ⟨z0, z1, z2, z3⟩ := hS.cells)
    | (go_at_call 29; (first | refine (take_st hw (by omega) hS).mono ?_ | refine (take_st hw (by omega) (hS.alloc _)).mono ?_); rintro e wn ⟨rfl, hN⟩; clear hS; have hS := hN; clear hN; obtain ⟨z0, z1, z2, z3⟩ := hS.cells))
  go_end0
  exact ⟨rfl, by rw [HF.out]; exact (St.done (by omega) hS).forget⟩
theorem does_3b (w0 : World) (s : PS) (kind op a b : Int) (hk : 0 ≤ kind ∧ kind < 256) (ho : 0 ≤ op ∧ op < 256) (hK : kind % 16 = 3) (hO : op % 2 = 1) (hg : Good s) (hw : s.weight ≤ 200000) (w : World) (h : Prog w0 pr s w) :
    Calls Tryz.prog 14 #[.pointer (some ⟨w0.heap.size, 0, none⟩), .agg #[.int .u8 kind, .int .i64 a, .int .i64 b, .int .u8 op]] w fun e w' => e = .returned (.tuple #[]) ∧ Done w0 pr s (doesF s kind op a b) w' := by
  have HF : Hid (doesF s kind op a b = putF (putF (wantF s 127) 32 1 0) (106 + op / 2 % 15) 0 0) := Lib.hid (by unfold doesF; rw [hK]; simp [hO])
  have hS := St.begin hg (step_box h (.cells #[.int .u8 kind, .int .i64 a, .int .i64 b, .int .u8 op] 59))
  clear h hg
  have ok1 := ok32 1 (by omega)
  have ok2 := ok106 (op / 2 % 15) (by omega)
  go_enter Tryz.func14, Tryz.ntmps14
  go_wp2_with (first
    | (go_at_call 17; (first | refine (put_st (by first | assumption | decide +kernel) hw (by omega) hS).mono ?_ | refine (put_st (by first | assumption | decide +kernel) hw (by omega) (hS.alloc _)).mono ?_); rintro e wn ⟨rfl, hN⟩; clear hS; have hS := hN; clear hN; obtain ⟨z0, z1, z2, z3⟩ := hS.cells)
    | (go_at_call 27; (first | refine (push_st hw (by omega) hS).mono ?_ | refine (push_st hw (by omega) (hS.alloc _)).mono ?_); rintro e wn ⟨rfl, hN⟩; clear hS; have hS := hN; clear hN; obtain ⟨z0, z1, z2, z3⟩ := hS.cells)
    | (go_at_call 28; (first | refine (want_st (by omega) (by omega) hw (by omega) hS).mono ?_ | refine (want_st (by omega) (by omega) hw (by omega) (hS.alloc _)).mono ?_); rintro e wn ⟨rfl, hN⟩; clear hS; have hS := hN; clear hN; obtain ⟨z0, z1, z2, z3⟩ := hS.cells)
    | (go_at_call 29; (first | refine (take_st hw (by omega) hS).mono ?_ | refine (take_st hw (by omega) (hS.alloc _)).mono ?_); rintro e wn ⟨rfl, hN⟩; clear hS; have hS := hN; clear hN; obtain ⟨z0, z1, z2, z3⟩ := hS.cells))
  go_end0
  exact ⟨rfl, by rw [HF.out]; exact (St.done (by omega) hS).forget⟩
theorem does_4a (w0 : World) (s : PS) (kind op a b : Int) (hk : 0 ≤ kind ∧ kind < 256) (ho : 0 ≤ op ∧ op < 256) (hK : kind % 16 = 4) (hO : op % 2 = 0) (hg : Good s) (hw : s.weight ≤ 200000) (w : World) (h : Prog w0 pr s w) :
    Calls Tryz.prog 14 #[.pointer (some ⟨w0.heap.size, 0, none⟩), .agg #[.int .u8 kind, .int .i64 a, .int .i64 b, .int .u8 op]] w fun e w' => e = .returned (.tuple #[]) ∧ Done w0 pr s (doesF s kind op a b) w' := by
  have HF : Hid (doesF s kind op a b = pushF (takeF (putF (wantF s 126) 80 0 0)) 127) := Lib.hid (by unfold doesF; rw [hK]; simp [hO])
  have hS := St.begin hg (step_box h (.cells #[.int .u8 kind, .int .i64 a, .int .i64 b, .int .u8 op] 59))
  clear h hg
  go_enter Tryz.func14, Tryz.ntmps14
  go_wp2_with (first
    | (go_at_call 17; (first | refine (put_st (by first | assumption | decide +kernel) hw (by omega) hS).mono ?_ | refine (put_st (by first | assumption | decide +kernel) hw (by omega) (hS.alloc _)).mono ?_); rintro e wn ⟨rfl, hN⟩; clear hS; have hS := hN; clear hN; obtain ⟨z0, z1, z2, z3⟩ := hS.cells)
    | (go_at_call 27; (first | refine (push_st hw (by omega) hS).mono ?_ | refine (push_st hw (by omega) (hS.alloc _)).mono ?_); rintro e wn ⟨rfl, hN⟩; clear hS; have hS := hN; clear hN; obtain ⟨z0, z1, z2, z3⟩ := hS.cells)
    | (go_at_call 28; (first | refine (want_st (by omega) (by omega) hw (by omega) hS).mono ?_ | refine (want_st (by omega) (by omega) hw (by omega) (hS.alloc _)).mono ?_); rintro e wn ⟨rfl, hN⟩; clear hS; have hS := hN; clear hN; obtain ⟨z0, z1, z2, z3⟩ := hS.cells)
    | (go_at_call 29; (first | refine (take_st hw (by omega) hS).mono ?_ | refine (take_st hw (by omega) (hS.alloc _)).mono ?_); rintro e wn ⟨rfl, hN⟩; clear hS; have hS := hN; clear hN; obtain ⟨z0, z1, z2, z3⟩ := hS.cells))
  go_end0
  exact ⟨rfl, by rw [HF.out]; exact (St.done (by omega) hS).forget⟩
theorem does_4b (w0 : World) (s : PS) (kind op a b : Int) (hk : 0 ≤ kind ∧ kind < 256) (ho : 0 ≤ op ∧ op < 256) (hK : kind % 16 = 4) (hO : op % 2 = 1) (hg : Good s) (hw : s.weight ≤ 200000) (w : World) (h : Prog w0 pr s w) :
    Calls Tryz.prog 14 #[.pointer (some ⟨w0.heap.size, 0, none⟩), .agg #[.int .u8 kind, .int .i64 a, .int .i64 b, .int .u8 op]] w fun e w' => e = .returned (.tuple #[]) ∧ Done w0 pr s (doesF s kind op a b) w' := by
  have HF : Hid (doesF s kind op a b = pushF (takeF (putF (wantF s 127) 69 0 0)) 127) := Lib.hid (by unfold doesF; rw [hK]; simp [hO])
  have hS := St.begin hg (step_box h (.cells #[.int .u8 kind, .int .i64 a, .int .i64 b, .int .u8 op] 59))
  clear h hg
  go_enter Tryz.func14, Tryz.ntmps14
  go_wp2_with (first
    | (go_at_call 17; (first | refine (put_st (by first | assumption | decide +kernel) hw (by omega) hS).mono ?_ | refine (put_st (by first | assumption | decide +kernel) hw (by omega) (hS.alloc _)).mono ?_); rintro e wn ⟨rfl, hN⟩; clear hS; have hS := hN; clear hN; obtain ⟨z0, z1, z2, z3⟩ := hS.cells)
    | (go_at_call 27; (first | refine (push_st hw (by omega) hS).mono ?_ | refine (push_st hw (by omega) (hS.alloc _)).mono ?_); rintro e wn ⟨rfl, hN⟩; clear hS; have hS := hN; clear hN; obtain ⟨z0, z1, z2, z3⟩ := hS.cells)
    | (go_at_call 28; (first | refine (want_st (by omega) (by omega) hw (by omega) hS).mono ?_ | refine (want_st (by omega) (by omega) hw (by omega) (hS.alloc _)).mono ?_); rintro e wn ⟨rfl, hN⟩; clear hS; have hS := hN; clear hN; obtain ⟨z0, z1, z2, z3⟩ := hS.cells)
    | (go_at_call 29; (first | refine (take_st hw (by omega) hS).mono ?_ | refine (take_st hw (by omega) (hS.alloc _)).mono ?_); rintro e wn ⟨rfl, hN⟩; clear hS; have hS := hN; clear hN; obtain ⟨z0, z1, z2, z3⟩ := hS.cells))
  go_end0
  exact ⟨rfl, by rw [HF.out]; exact (St.done (by omega) hS).forget⟩
theorem does_5a (w0 : World) (s : PS) (kind op a b : Int) (hk : 0 ≤ kind ∧ kind < 256) (ho : 0 ≤ op ∧ op < 256) (hK : kind % 16 = 5) (hO : op % 4 = 0) (hg : Good s) (hw : s.weight ≤ 200000) (w : World) (h : Prog w0 pr s w) :
    Calls Tryz.prog 14 #[.pointer (some ⟨w0.heap.size, 0, none⟩), .agg #[.int .u8 kind, .int .i64 a, .int .i64 b, .int .u8 op]] w fun e w' => e = .returned (.tuple #[]) ∧ Done w0 pr s (doesF s kind op a b) w' := by
  have HF : Hid (doesF s kind op a b = pushF (putF s 32 0 0) 126) := Lib.hid (by unfold doesF; rw [hK]; simp [hO])
  have hS := St.begin hg (step_box h (.cells #[.int .u8 kind, .int .i64 a, .int .i64 b, .int .u8 op] 59))
  clear h hg
  have hO2 : op % 2 = 0 := by omega
  go_enter Tryz.func14, Tryz.ntmps14
  go_wp2_with (first
    | (go_at_call 17; (first | refine (put_st (by first | assumption | decide +kernel) hw (by omega) hS).mono ?_ | refine (put_st (by first | assumption | decide +kernel) hw (by omega) (hS.alloc _)).mono ?_); rintro e wn ⟨rfl, hN⟩; clear hS; have hS := hN; clear hN; obtain ⟨z0, z1, z2, z3⟩ := hS.cells)
    | (go_at_call 27; (first | refine (push_st hw (by omega) hS).mono ?_ | refine (push_st hw (by omega) (hS.alloc _)).mono ?_); rintro e wn ⟨rfl, hN⟩; clear hS; have hS := hN; clear hN; obtain ⟨z0, z1, z2, z3⟩ := hS.cells)
    | (go_at_call 28; (first | refine (want_st (by omega) (by omega) hw (by omega) hS).mono ?_ | refine (want_st (by omega) (by omega) hw (by omega) (hS.alloc _)).mono ?_); rintro e wn ⟨rfl, hN⟩; clear hS; have hS := hN; clear hN; obtain ⟨z0, z1, z2, z3⟩ := hS.cells)
    | (go_at_call 29; (first | refine (take_st hw (by omega) hS).mono ?_ | refine (take_st hw (by omega) (hS.alloc _)).mono ?_); rintro e wn ⟨rfl, hN⟩; clear hS; have hS := hN; clear hN; obtain ⟨z0, z1, z2, z3⟩ := hS.cells))
  go_end0
  exact ⟨rfl, by rw [HF.out]; exact (St.done (by omega) hS).forget⟩
theorem does_5b (w0 : World) (s : PS) (kind op a b : Int) (hk : 0 ≤ kind ∧ kind < 256) (ho : 0 ≤ op ∧ op < 256) (hK : kind % 16 = 5) (hO : op % 4 = 1) (hg : Good s) (hw : s.weight ≤ 200000) (w : World) (h : Prog w0 pr s w) :
    Calls Tryz.prog 14 #[.pointer (some ⟨w0.heap.size, 0, none⟩), .agg #[.int .u8 kind, .int .i64 a, .int .i64 b, .int .u8 op]] w fun e w' => e = .returned (.tuple #[]) ∧ Done w0 pr s (doesF s kind op a b) w' := by
  have HF : Hid (doesF s kind op a b = pushF (putF s 32 1 0) 127) := Lib.hid (by unfold doesF; rw [hK]; simp [hO])
  have hS := St.begin hg (step_box h (.cells #[.int .u8 kind, .int .i64 a, .int .i64 b, .int .u8 op] 59))
  clear h hg
  have hO2 : op % 2 = 1 := by omega
  go_enter Tryz.func14, Tryz.ntmps14
  go_wp2_with (first
    | (go_at_call 17; (first | refine (put_st (by first | assumption | decide +kernel) hw (by omega) hS).mono ?_ | refine (put_st (by first | assumption | decide +kernel) hw (by omega) (hS.alloc _)).mono ?_); rintro e wn ⟨rfl, hN⟩; clear hS; have hS := hN; clear hN; obtain ⟨z0, z1, z2, z3⟩ := hS.cells)
    | (go_at_call 27; (first | refine (push_st hw (by omega) hS).mono ?_ | refine (push_st hw (by omega) (hS.alloc _)).mono ?_); rintro e wn ⟨rfl, hN⟩; clear hS; have hS := hN; clear hN; obtain ⟨z0, z1, z2, z3⟩ := hS.cells)
    | (go_at_call 28; (first | refine (want_st (by omega) (by omega) hw (by omega) hS).mono ?_ | refine (want_st (by omega) (by omega) hw (by omega) (hS.alloc _)).mono ?_); rintro e wn ⟨rfl, hN⟩; clear hS; have hS := hN; clear hN; obtain ⟨z0, z1, z2, z3⟩ := hS.cells)
    | (go_at_call 29; (first | refine (take_st hw (by omega) hS).mono ?_ | refine (take_st hw (by omega) (hS.alloc _)).mono ?_); rintro e wn ⟨rfl, hN⟩; clear hS; have hS := hN; clear hN; obtain ⟨z0, z1, z2, z3⟩ := hS.cells))
  go_end0
  exact ⟨rfl, by rw [HF.out]; exact (St.done (by omega) hS).forget⟩
theorem does_5c (w0 : World) (s : PS) (kind op a b : Int) (hk : 0 ≤ kind ∧ kind < 256) (ho : 0 ≤ op ∧ op < 256) (hK : kind % 16 = 5) (hO : op % 4 = 2) (hg : Good s) (hw : s.weight ≤ 200000) (w : World) (h : Prog w0 pr s w) :
    Calls Tryz.prog 14 #[.pointer (some ⟨w0.heap.size, 0, none⟩), .agg #[.int .u8 kind, .int .i64 a, .int .i64 b, .int .u8 op]] w fun e w' => e = .returned (.tuple #[]) ∧ Done w0 pr s (doesF s kind op a b) w' := by
  have HF : Hid (doesF s kind op a b = pushF (putF s 32 2 0) 127) := Lib.hid (by unfold doesF; rw [hK]; simp [hO])
  have hS := St.begin hg (step_box h (.cells #[.int .u8 kind, .int .i64 a, .int .i64 b, .int .u8 op] 59))
  clear h hg
  have hO2 : op % 2 = 0 := by omega
  go_enter Tryz.func14, Tryz.ntmps14
  go_wp2_with (first
    | (go_at_call 17; (first | refine (put_st (by first | assumption | decide +kernel) hw (by omega) hS).mono ?_ | refine (put_st (by first | assumption | decide +kernel) hw (by omega) (hS.alloc _)).mono ?_); rintro e wn ⟨rfl, hN⟩; clear hS; have hS := hN; clear hN; obtain ⟨z0, z1, z2, z3⟩ := hS.cells)
    | (go_at_call 27; (first | refine (push_st hw (by omega) hS).mono ?_ | refine (push_st hw (by omega) (hS.alloc _)).mono ?_); rintro e wn ⟨rfl, hN⟩; clear hS; have hS := hN; clear hN; obtain ⟨z0, z1, z2, z3⟩ := hS.cells)
    | (go_at_call 28; (first | refine (want_st (by omega) (by omega) hw (by omega) hS).mono ?_ | refine (want_st (by omega) (by omega) hw (by omega) (hS.alloc _)).mono ?_); rintro e wn ⟨rfl, hN⟩; clear hS; have hS := hN; clear hN; obtain ⟨z0, z1, z2, z3⟩ := hS.cells)
    | (go_at_call 29; (first | refine (take_st hw (by omega) hS).mono ?_ | refine (take_st hw (by omega) (hS.alloc _)).mono ?_); rintro e wn ⟨rfl, hN⟩; clear hS; have hS := hN; clear hN; obtain ⟨z0, z1, z2, z3⟩ := hS.cells))
  go_end0
  exact ⟨rfl, by rw [HF.out]; exact (St.done (by omega) hS).forget⟩
theorem does_5d (w0 : World) (s : PS) (kind op a b : Int) (hk : 0 ≤ kind ∧ kind < 256) (ho : 0 ≤ op ∧ op < 256) (hK : kind % 16 = 5) (hO : op % 4 = 3) (hg : Good s) (hw : s.weight ≤ 200000) (w : World) (h : Prog w0 pr s w) :
    Calls Tryz.prog 14 #[.pointer (some ⟨w0.heap.size, 0, none⟩), .agg #[.int .u8 kind, .int .i64 a, .int .i64 b, .int .u8 op]] w fun e w' => e = .returned (.tuple #[]) ∧ Done w0 pr s (doesF s kind op a b) w' := by
  have HF : Hid (doesF s kind op a b = pushF (putF s 32 3 0) 126) := Lib.hid (by unfold doesF; rw [hK]; simp [hO])
  have hS := St.begin hg (step_box h (.cells #[.int .u8 kind, .int .i64 a, .int .i64 b, .int .u8 op] 59))
  clear h hg
  have hO2 : op % 2 = 1 := by omega
  go_enter Tryz.func14, Tryz.ntmps14
  go_wp2_with (first
    | (go_at_call 17; (first | refine (put_st (by first | assumption | decide +kernel) hw (by omega) hS).mono ?_ | refine (put_st (by first | assumption | decide +kernel) hw (by omega) (hS.alloc _)).mono ?_); rintro e wn ⟨rfl, hN⟩; clear hS; have hS := hN; clear hN; obtain ⟨z0, z1, z2, z3⟩ := hS.cells)
    | (go_at_call 27; (first | refine (push_st hw (by omega) hS).mono ?_ | refine (push_st hw (by omega) (hS.alloc _)).mono ?_); rintro e wn ⟨rfl, hN⟩; clear hS; have hS := hN; clear hN; obtain ⟨z0, z1, z2, z3⟩ := hS.cells)
    | (go_at_call 28; (first | refine (want_st (by omega) (by omega) hw (by omega) hS).mono ?_ | refine (want_st (by omega) (by omega) hw (by omega) (hS.alloc _)).mono ?_); rintro e wn ⟨rfl, hN⟩; clear hS; have hS := hN; clear hN; obtain ⟨z0, z1, z2, z3⟩ := hS.cells)
    | (go_at_call 29; (first | refine (take_st hw (by omega) hS).mono ?_ | refine (take_st hw (by omega) (hS.alloc _)).mono ?_); rintro e wn ⟨rfl, hN⟩; clear hS; have hS := hN; clear hN; obtain ⟨z0, z1, z2, z3⟩ := hS.cells))
  go_end0
  exact ⟨rfl, by rw [HF.out]; exact (St.done (by omega) hS).forget⟩
end Go.Proofs.YtomffpibdinkaaaGreatDoor
