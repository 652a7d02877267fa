/-
  Facts and contracts that the proof calls.
-/
import Derived.Test.YtdinpakclmnacaaGreatDoorKfEncInstr
import Derived.Test.YtdinpakclmnacaaGreatDoorKfOpSome
namespace Go.Proofs.YtdinpakclmnacaaGreatDoor
set_option maxRecDepth 100000
set_option maxHeartbeats 16000000
open Go.RowKit
set_option linter.unusedVariables false
theorem Near.mono {base b2 : Nat} {w w' : World} (h : Near b2 w w') (hb : base ≤ b2) : Near base w w' := ⟨h.os, h.tape, h.output, h.size, fun k o hk hc => h.block k o hk (hc.imp (fun h1 => Nat.lt_of_lt_of_le h1 hb) id)⟩
theorem Own.under {w w' : World} {base e B : Nat} {v : Value} {d : List UInt8} (h : Own w base e v d) (hb : Below B w w') (hB : w.heap.size ≤ B) : Own w' base e v d := h.below (hb.mono hB)
theorem Own.nil9 (w : World) (B : Nat) : Own w B 5 (.slice none 0 0) [] := World.ownsRow_nil w B _ 1
theorem flat_at9 {α : Type} {c : Nat} {row : α → List Value} (i : Nat) (hi : i < c) : ∀ (l : List α) (_ : ∀ x ∈ l, (row x).length = c) (j : Nat) (hj : j < l.length), (l.flatMap row)[j * c + i]? = (row l[j])[i]? := by
  intro l
  induction l with
  | nil => intro _ j hj; simp at hj
  | cons x l ih =>
    intro hc j hj
    have hx := hc x (by simp)
    cases j with
    | zero => simp only [List.flatMap_cons, List.getElem_cons_zero, Nat.zero_mul, Nat.zero_add]; rw [List.getElem?_append_left (by omega)]
    | succ j =>
      simp only [List.flatMap_cons, List.getElem_cons_succ]
      rw [List.getElem?_append_right (by rw [hx, Nat.succ_mul]; omega), hx, show (j + 1) * c + i - c = j * c + i by rw [Nat.succ_mul]; omega]
      exact ih (fun y hy => hc y (by simp [hy])) j (by simpa using hj)
theorem runs_rows {w : World} {base n : Nat} {v : Value} {rs : List (UInt8 × Nat)} (h : w.ownsRow base 252 2 v n (runCells rs)) (hn : rs.length = n) : ∃ p cap, v = .slice p n cap ∧ RowsAt w p 2 RunV.row (rs.map runV) := by
  rcases h.2 with ⟨rfl, h0⟩ | ⟨g, cap, cur, rfl, hb, hg, hnc, hcm, hcs, ht⟩
  · have : rs = [] := List.eq_nil_of_length_eq_zero (by omega)
    subst this
    exact ⟨none, 0, by rw [h0], RowsAt.nil⟩
  · refine ⟨_, cap, rfl, fun j hj i u hu => ⟨g, 0, rfl, heap_lt9 hg, ?_⟩⟩
    have hj2 : j < rs.length := by simpa using hj
    have hi : i < 2 := by
      have h2 := (List.getElem?_eq_some_iff.1 hu).1
      simpa [RunV.row] using h2
    have hf := flat_at9 (row := RunV.row) i hi (rs.map runV) (fun _ _ => rfl) j hj
    rw [Nat.zero_add, h.cellAt _ (by rw [← hn]; omega)]
    have e : runCells rs = (rs.map runV).flatMap RunV.row := by simp [runCells, List.flatMap_map]
    rw [e, hf]
    exact hu
theorem each_map {α β : Type} (F : List UInt8 → β → List UInt8) (f : α → β) : ∀ (l : List α) (out : List UInt8), eachC F out (l.map f) = eachC (fun o x => F o (f x)) out l
  | [], out => rfl
  | x :: l, out => by rw [List.map_cons, eachC_cons, eachC_cons, each_map F f l]
def putRun (out : List UInt8) (x : RunV) : List UInt8 := runC out (x.kind, x.many)
theorem list_runs (rs : List (UInt8 × Nat)) : listC putRun [] (rs.map runV) = listC runC [] rs := by
  unfold listC
  rw [each_map, List.length_map]
  rfl
theorem enters_run : ∀ args w, (callFunc 209 args).run Tryz.prog w = .ok (.enter 209 args) w := enters_of Tryz.func209 (by kernel_rfl) rfl
theorem enters_instr : ∀ args w, (callFunc 88 args).run Tryz.prog w = .ok (.enter 88 args) w := enters_of Tryz.func88 (by kernel_rfl) rfl
theorem run_puts (w0 : World) : Puts 209 RunV.val (fun _ x => x.many ≤ 1000000) putRun w0 := fun x W base v d _ _ hb hown hd hm => run_of base v d x W hown hb hd hm
theorem run_adds {x : RunV} (hm : x.many ≤ 1000000) : Adds putRun 20 x := fun out hout => by
  have := num_len (b := out) (n := (x.many : Int)) (by omega) (by omega)
  unfold putRun runC
  rw [List.length_append]
  simp only [List.length_singleton]
  omega
def okFn (w0 : World) (_ : World) (f : FnV) : Prop := rightFn f = true ∧ FnAt w0 f ∧ Spaces w0
theorem code_puts (w0 : World) : Puts 145 FnV.val (okFn w0) codeC w0 := by
  rintro ⟨ty, lo, cp, cc, code⟩ w base v d hB0 hb0 hb hown hd ⟨hr, ⟨hc, hls, hty⟩, hL⟩
  unfold rightFn at hr
  simp only [Bool.and_eq_true] at hr
  obtain ⟨hri, ⟨_, hlo⟩, _⟩ := hr
  have hll : lo.size ≤ 4096 := by
    unfold vtypes at hlo
    simp only [Bool.and_eq_true, decide_eq_true_eq] at hlo
    have := hlo.2
    rw [show lo.data.toList.length = lo.size from Array.length_toList] at this
    omega
  simp only at hc hls hri
  obtain ⟨hrows, hin, hmost⟩ := hc
  obtain ⟨n, hn⟩ : ∃ n, code.length = n := ⟨_, rfl⟩
  obtain ⟨rs, hrs⟩ : ∃ rs, rs = grp lo.data.toList := ⟨_, rfl⟩
  have hq : codeC d ⟨ty, lo, cp, cc, code⟩ = textC d (eachC insC (listC runC [] rs) code) := by rw [hrs]; rfl
  simp only [FnV.val]
  rw [hq, hn]
  have hgl : rs.length ≤ 4096 := by
    have := grp_len lo.data.toList
    rw [hrs]
    rw [show lo.data.toList.length = lo.size from Array.length_toList] at this
    omega
  have hmany : ∀ x ∈ rs.map runV, x.many ≤ 1000000 := fun x hx => by
    obtain ⟨y, hy, rfl⟩ := List.mem_map.1 hx
    rw [hrs] at hy
    have := grp_many _ y hy
    rw [show lo.data.toList.length = lo.size from Array.length_toList] at this
    show y.2 ≤ _
    omega
  -- the runs are made
  have G := Go1.start hown hb #[.int .i64 ty, .string lo, .slice cp n cc] 72 (by decide)
  have c1 := enc_runs lo hll (w.alloc (.cells #[.int .i64 ty, .string lo, .slice cp n cc] 72))
  rw [← hrs] at c1
  obtain ⟨rn, hrn⟩ : ∃ rn, rs.length = rn := ⟨_, rfl⟩
  -- they are put
  have c2 : ∀ (w1 : World) (rv : Value), w1.ownsRow (w.alloc (.cells #[.int .i64 ty, .string lo, .slice cp n cc] 72)).heap.size 252 2 rv rs.length (runCells rs) →
      Calls Tryz.prog 207 #[.slice none 0 0, rv, .func (.func 209) #[] #[]] w1 (Adds5 w1 w1.heap.size (listC runC [] rs)) := fun w1 rv h => by
    obtain ⟨p, cap, rfl, hro⟩ := runs_rows h rfl
    have H : Puttable 2 RunV.row (fun _ x => x.many ≤ 1000000) putRun 20 w1 p rs.length (rs.map runV) := ⟨by simp, by omega, hro, fun x hx _ _ => hmany x hx, fun x hx => run_adds (hmany x hx), by omega⟩
    have := list_RunV (run_puts w1) enters_run p rs.length cap _ H w1.heap.size (Nat.le_refl _) w1 (Below.refl _ _) (Nat.le_refl _) (.slice none 0 0) [] (Own.nil9 _ _) (by simp)
    rw [list_runs] at this
    exact this
  have hrl : (listC runC [] rs).length ≤ 1048600 := by
    rw [← list_runs]
    unfold listC
    have h5 := num_len (b := []) (n := ((rs.map runV).length : Int)) (by omega) (by simp; omega)
    have h6 := each_len (F := putRun) (K := 20) (l := rs.map runV) (b := numC [] (rs.map runV).length) (fun x hx => run_adds (hmany x hx))
    simp only [List.length_nil] at h5
    omega
  have hrl0 : 0 < (listC runC [] rs).length := by
    rcases cap_runs lo.data.toList with h | h
    · rw [← hrs] at h; rw [h]; unfold runs5; rw [← hrs]
      have h2 := putU_ne (rs.length : Int)
      rw [List.length_append]
      have := List.length_pos_iff.2 h2
      omega
    · rw [← hrs] at h; omega
  -- the instructions are put
  have H3 : Puttable 4 InsV.row (okIns w0) insC 100 w0 cp n code := ⟨hn, by omega, hrows, fun x hx W hW => ⟨List.all_eq_true.1 hri x hx, hin x hx, hL.below hW⟩, fun x hx => instr_adds (List.all_eq_true.1 hri x hx) (hin x hx).2.2.2.1, by omega⟩
  have c3 : ∀ (b2 : Nat) (w2 : World) (v2 : Value), w0.heap.size ≤ b2 → Below w0.heap.size w0 w2 → b2 ≤ w2.heap.size → Own w2 b2 5 v2 (listC runC [] rs) →
      Calls Tryz.prog 210 #[v2, .slice cp n cc, .func (.func 88) #[] #[]] w2 (Adds5 w2 b2 (eachC insC (listC runC [] rs) code)) := fun b2 w2 v2 h1 h2 h3 h4 =>
    each_InsV (instr_puts w0) enters_instr cp n cc code H3 b2 h1 w2 h2 h3 v2 _ h4 (by omega)
  have hbl := each_len (F := insC) (K := 100) (l := code) (b := listC runC [] rs) (fun x hx => instr_adds (List.all_eq_true.1 hri x hx) (hin x hx).2.2.2.1)
  have hbl0 : 0 < (eachC insC (listC runC [] rs) code).length := by
    have h1 := (cap_body ⟨ty, lo, cp, cc, code⟩ hri).ne (by
      intro e
      have h2 := List.append_eq_nil_iff.1 e
      unfold runs5 at h2
      exact putU_ne _ (List.append_eq_nil_iff.1 h2.1).1)
    unfold bodyC at h1
    simp only at h1
    rw [← hrs] at h1
    exact List.length_pos_iff.2 h1
  generalize listC runC [] rs = D at *
  generalize eachC insC D code = Y at *
  have HO := Lib.hid hown
  clear hq hrs hri hin hrows H3 hL hmany hown hn hlo hrn
  have hsz : w.heap.size ≤ (w.alloc (.cells #[.int .i64 ty, .string lo, .slice cp n cc] 72)).heap.size := by simp
  go_enter Tryz.func145, Tryz.ntmps145
  go_wp2_with (first
    | (go_at_call 208; (with_reducible refine c1.mono ?_); rintro e w1 ⟨⟨rv, rfl, hrv⟩, hb1⟩; have G1 := G.call (G.own.below hb1) (Near.of_below hb1); have HV := Lib.hid hrv; clear hrv c1 G)
    | (go_at_call 207; (with_reducible refine (c2 _ _ HV.out).mono ?_); rintro e w2 ⟨v2, rfl, h2, n2⟩; have G2 := G1.call (G1.own.below (n2.below (Nat.le_refl _))) (n2.mono G1.le); obtain ⟨_, q0, q1, q2⟩ := box_3 G2.box; clear c2)
    | (go_at_call 210; (with_reducible refine (c3 _ _ _ (Nat.le_trans hb0 G1.le) (hB0.trans ((G2.near.below hb).mono hb0)) n2.size h2).mono ?_); rintro e w3 ⟨v3, rfl, h3, n3⟩; have G3 := G2.call (G1.own.below ((n2.trans n3).below (Nat.le_refl _))) (n3.mono G1.le); have hne : ∀ g, v3.ownBlock = some g → v.ownBlock ≠ some g := (fun g h5 h6 => by have := (World.ownsRow.lt h3 g h5).1; have := (World.ownsRow.lt G1.own g h6).2; omega); have HNE := Lib.hid hne; clear hne c3 q0 q1 q2)
    | (go_at_call 148; (with_reducible refine (text_bytes base v d _ v3 Y _ G3.own G3.le (by omega) h3 hbl0 (by omega) HNE.out).mono ?_); rintro e w4 ⟨v4, rfl, h4, n4⟩))
  go_ret
  exact ⟨_, rfl, h4, G3.near.trans n4⟩
end Go.Proofs.YtdinpakclmnacaaGreatDoor
namespace Go.Proofs.YtdinpakclmnacaaGreatDoor
set_option maxRecDepth 100000
set_option maxHeartbeats 16000000
open Go.RowKit
set_option linter.unusedVariables false
def Gives (g : Nat) (lb : Array Value) (D : List UInt8) (W : World) : Prop :=
  Calls Tryz.prog g lb W fun e W' => ∃ v, e = .returned v ∧ Own W' W.heap.size 5 v D ∧ Below W.heap.size W W'
theorem whole_TyV (p : Option Addr) (n cap g : Nat) (w : World) :
    Calls Tryz.prog 133 #[.slice p n cap, .func (.func g) #[] #[]] w fun e w' => e = .returned (.func (.func 195) #[] #[.pointer (some ⟨w.heap.size, 0, none⟩), .pointer (some ⟨w.heap.size + 1, 0, none⟩)]) ∧ w' = (w.alloc (.cells #[.slice p n cap] 28)).alloc (.cells #[.func (.func g) #[] #[]] 184) := by
  have hmf : ∀ (fn : Fn) (first cap : Array Value) (w : World), (Instr.makeFunc fn first cap).run Tryz.prog w = .ok (.func fn first cap) w := fun _ _ _ _ => rfl
  go_enter Tryz.func133, Tryz.ntmps133
  go_wp2
  go_ret
  exact ⟨rfl, rfl⟩
theorem gives_TyV {g : Nat} {F : List UInt8 → TyV → List UInt8} {ok : World → TyV → Prop} {w0 : World} {K : Nat} (h : Puts g TyV.val ok F w0) (eg : ∀ args w, (callFunc g args).run Tryz.prog w = .ok (.enter g args) w) (p : Option Addr) (n cap : Nat) (l : List TyV) (H : Puttable 2 TyV.row ok F K w0 p n l) (W : World) (hB0 : Below w0.heap.size w0 W) (a b : Nat) (ha : W.cell? ⟨a, 0, none⟩ = some (.slice p n cap)) (hb : W.cell? ⟨b, 0, none⟩ = some (.func (.func g) #[] #[])) :
    Gives 195 #[.pointer (some ⟨a, 0, none⟩), .pointer (some ⟨b, 0, none⟩)] (wholeC F l) W := by
  have hm := H.most
  by_cases hn : n = 0
  · have hq : wholeC F l = [] := by unfold wholeC; rw [if_pos (by rw [H.len]; exact hn)]
    rw [hq]
    subst hn
    clear hq H h hm
    unfold Gives
    go_enter Tryz.func195, Tryz.ntmps195
    go_wp2
    go_ret
    exact ⟨_, rfl, Own.nil9 _ _, Below.refl _ _⟩
  · have hq : wholeC F l = listC F [] l := by unfold wholeC; rw [if_neg (by rw [H.len]; exact hn)]
    rw [hq]
    have hn0 : ((n : Int) == 0) = false := beq_eq_false_iff_ne.2 (by omega)
    have c := list_TyV h eg p n cap l H W.heap.size hB0.size W hB0 (Nat.le_refl _) (.slice none 0 0) [] (Own.nil9 _ _) (by simp)
    clear hq hn H h
    unfold Gives
    go_enter Tryz.func195, Tryz.ntmps195
    go_wp2_with (go_at_call 196; (with_reducible refine c.mono ?_); rintro e w1 ⟨v1, rfl, h1, n1⟩)
    go_ret
    exact ⟨_, rfl, h1, n1.below (Nat.le_refl _)⟩
theorem whole_FnV (p : Option Addr) (n cap g : Nat) (w : World) :
    Calls Tryz.prog 135 #[.slice p n cap, .func (.func g) #[] #[]] w fun e w' => e = .returned (.func (.func 198) #[] #[.pointer (some ⟨w.heap.size, 0, none⟩), .pointer (some ⟨w.heap.size + 1, 0, none⟩)]) ∧ w' = (w.alloc (.cells #[.slice p n cap] 29)).alloc (.cells #[.func (.func g) #[] #[]] 187) := by
  have hmf : ∀ (fn : Fn) (first cap : Array Value) (w : World), (Instr.makeFunc fn first cap).run Tryz.prog w = .ok (.func fn first cap) w := fun _ _ _ _ => rfl
  go_enter Tryz.func135, Tryz.ntmps135
  go_wp2
  go_ret
  exact ⟨rfl, rfl⟩
theorem gives_FnV {g : Nat} {F : List UInt8 → FnV → List UInt8} {ok : World → FnV → Prop} {w0 : World} {K : Nat} (h : Puts g FnV.val ok F w0) (eg : ∀ args w, (callFunc g args).run Tryz.prog w = .ok (.enter g args) w) (p : Option Addr) (n cap : Nat) (l : List FnV) (H : Puttable 3 FnV.row ok F K w0 p n l) (W : World) (hB0 : Below w0.heap.size w0 W) (a b : Nat) (ha : W.cell? ⟨a, 0, none⟩ = some (.slice p n cap)) (hb : W.cell? ⟨b, 0, none⟩ = some (.func (.func g) #[] #[])) :
    Gives 198 #[.pointer (some ⟨a, 0, none⟩), .pointer (some ⟨b, 0, none⟩)] (wholeC F l) W := by
  have hm := H.most
  by_cases hn : n = 0
  · have hq : wholeC F l = [] := by unfold wholeC; rw [if_pos (by rw [H.len]; exact hn)]
    rw [hq]
    subst hn
    clear hq H h hm
    unfold Gives
    go_enter Tryz.func198, Tryz.ntmps198
    go_wp2
    go_ret
    exact ⟨_, rfl, Own.nil9 _ _, Below.refl _ _⟩
  · have hq : wholeC F l = listC F [] l := by unfold wholeC; rw [if_neg (by rw [H.len]; exact hn)]
    rw [hq]
    have hn0 : ((n : Int) == 0) = false := beq_eq_false_iff_ne.2 (by omega)
    have c := list_FnV h eg p n cap l H W.heap.size hB0.size W hB0 (Nat.le_refl _) (.slice none 0 0) [] (Own.nil9 _ _) (by simp)
    clear hq hn H h
    unfold Gives
    go_enter Tryz.func198, Tryz.ntmps198
    go_wp2_with (go_at_call 199; (with_reducible refine c.mono ?_); rintro e w1 ⟨v1, rfl, h1, n1⟩)
    go_ret
    exact ⟨_, rfl, h1, n1.below (Nat.le_refl _)⟩
theorem whole_MemV (p : Option Addr) (n cap g : Nat) (w : World) :
    Calls Tryz.prog 138 #[.slice p n cap, .func (.func g) #[] #[]] w fun e w' => e = .returned (.func (.func 200) #[] #[.pointer (some ⟨w.heap.size, 0, none⟩), .pointer (some ⟨w.heap.size + 1, 0, none⟩)]) ∧ w' = (w.alloc (.cells #[.slice p n cap] 30)).alloc (.cells #[.func (.func g) #[] #[]] 189) := by
  have hmf : ∀ (fn : Fn) (first cap : Array Value) (w : World), (Instr.makeFunc fn first cap).run Tryz.prog w = .ok (.func fn first cap) w := fun _ _ _ _ => rfl
  go_enter Tryz.func138, Tryz.ntmps138
  go_wp2
  go_ret
  exact ⟨rfl, rfl⟩
theorem gives_MemV {g : Nat} {F : List UInt8 → MemV → List UInt8} {ok : World → MemV → Prop} {w0 : World} {K : Nat} (h : Puts g MemV.val ok F w0) (eg : ∀ args w, (callFunc g args).run Tryz.prog w = .ok (.enter g args) w) (p : Option Addr) (n cap : Nat) (l : List MemV) (H : Puttable 2 MemV.row ok F K w0 p n l) (W : World) (hB0 : Below w0.heap.size w0 W) (a b : Nat) (ha : W.cell? ⟨a, 0, none⟩ = some (.slice p n cap)) (hb : W.cell? ⟨b, 0, none⟩ = some (.func (.func g) #[] #[])) :
    Gives 200 #[.pointer (some ⟨a, 0, none⟩), .pointer (some ⟨b, 0, none⟩)] (wholeC F l) W := by
  have hm := H.most
  by_cases hn : n = 0
  · have hq : wholeC F l = [] := by unfold wholeC; rw [if_pos (by rw [H.len]; exact hn)]
    rw [hq]
    subst hn
    clear hq H h hm
    unfold Gives
    go_enter Tryz.func200, Tryz.ntmps200
    go_wp2
    go_ret
    exact ⟨_, rfl, Own.nil9 _ _, Below.refl _ _⟩
  · have hq : wholeC F l = listC F [] l := by unfold wholeC; rw [if_neg (by rw [H.len]; exact hn)]
    rw [hq]
    have hn0 : ((n : Int) == 0) = false := beq_eq_false_iff_ne.2 (by omega)
    have c := list_MemV h eg p n cap l H W.heap.size hB0.size W hB0 (Nat.le_refl _) (.slice none 0 0) [] (Own.nil9 _ _) (by simp)
    clear hq hn H h
    unfold Gives
    go_enter Tryz.func200, Tryz.ntmps200
    go_wp2_with (go_at_call 201; (with_reducible refine c.mono ?_); rintro e w1 ⟨v1, rfl, h1, n1⟩)
    go_ret
    exact ⟨_, rfl, h1, n1.below (Nat.le_refl _)⟩
theorem whole_GlobV (p : Option Addr) (n cap g : Nat) (w : World) :
    Calls Tryz.prog 140 #[.slice p n cap, .func (.func g) #[] #[]] w fun e w' => e = .returned (.func (.func 202) #[] #[.pointer (some ⟨w.heap.size, 0, none⟩), .pointer (some ⟨w.heap.size + 1, 0, none⟩)]) ∧ w' = (w.alloc (.cells #[.slice p n cap] 31)).alloc (.cells #[.func (.func g) #[] #[]] 191) := by
  have hmf : ∀ (fn : Fn) (first cap : Array Value) (w : World), (Instr.makeFunc fn first cap).run Tryz.prog w = .ok (.func fn first cap) w := fun _ _ _ _ => rfl
  go_enter Tryz.func140, Tryz.ntmps140
  go_wp2
  go_ret
  exact ⟨rfl, rfl⟩
theorem gives_GlobV {g : Nat} {F : List UInt8 → GlobV → List UInt8} {ok : World → GlobV → Prop} {w0 : World} {K : Nat} (h : Puts g GlobV.val ok F w0) (eg : ∀ args w, (callFunc g args).run Tryz.prog w = .ok (.enter g args) w) (p : Option Addr) (n cap : Nat) (l : List GlobV) (H : Puttable 3 GlobV.row ok F K w0 p n l) (W : World) (hB0 : Below w0.heap.size w0 W) (a b : Nat) (ha : W.cell? ⟨a, 0, none⟩ = some (.slice p n cap)) (hb : W.cell? ⟨b, 0, none⟩ = some (.func (.func g) #[] #[])) :
    Gives 202 #[.pointer (some ⟨a, 0, none⟩), .pointer (some ⟨b, 0, none⟩)] (wholeC F l) W := by
  have hm := H.most
  by_cases hn : n = 0
  · have hq : wholeC F l = [] := by unfold wholeC; rw [if_pos (by rw [H.len]; exact hn)]
    rw [hq]
    subst hn
    clear hq H h hm
    unfold Gives
    go_enter Tryz.func202, Tryz.ntmps202
    go_wp2
    go_ret
    exact ⟨_, rfl, Own.nil9 _ _, Below.refl _ _⟩
  · have hq : wholeC F l = listC F [] l := by unfold wholeC; rw [if_neg (by rw [H.len]; exact hn)]
    rw [hq]
    have hn0 : ((n : Int) == 0) = false := beq_eq_false_iff_ne.2 (by omega)
    have c := list_GlobV h eg p n cap l H W.heap.size hB0.size W hB0 (Nat.le_refl _) (.slice none 0 0) [] (Own.nil9 _ _) (by simp)
    clear hq hn H h
    unfold Gives
    go_enter Tryz.func202, Tryz.ntmps202
    go_wp2_with (go_at_call 203; (with_reducible refine c.mono ?_); rintro e w1 ⟨v1, rfl, h1, n1⟩)
    go_ret
    exact ⟨_, rfl, h1, n1.below (Nat.le_refl _)⟩
theorem whole_ExpV (p : Option Addr) (n cap g : Nat) (w : World) :
    Calls Tryz.prog 142 #[.slice p n cap, .func (.func g) #[] #[]] w fun e w' => e = .returned (.func (.func 205) #[] #[.pointer (some ⟨w.heap.size, 0, none⟩), .pointer (some ⟨w.heap.size + 1, 0, none⟩)]) ∧ w' = (w.alloc (.cells #[.slice p n cap] 32)).alloc (.cells #[.func (.func g) #[] #[]] 193) := by
  have hmf : ∀ (fn : Fn) (first cap : Array Value) (w : World), (Instr.makeFunc fn first cap).run Tryz.prog w = .ok (.func fn first cap) w := fun _ _ _ _ => rfl
  go_enter Tryz.func142, Tryz.ntmps142
  go_wp2
  go_ret
  exact ⟨rfl, rfl⟩
theorem gives_ExpV {g : Nat} {F : List UInt8 → ExpV → List UInt8} {ok : World → ExpV → Prop} {w0 : World} {K : Nat} (h : Puts g ExpV.val ok F w0) (eg : ∀ args w, (callFunc g args).run Tryz.prog w = .ok (.enter g args) w) (p : Option Addr) (n cap : Nat) (l : List ExpV) (H : Puttable 3 ExpV.row ok F K w0 p n l) (W : World) (hB0 : Below w0.heap.size w0 W) (a b : Nat) (ha : W.cell? ⟨a, 0, none⟩ = some (.slice p n cap)) (hb : W.cell? ⟨b, 0, none⟩ = some (.func (.func g) #[] #[])) :
    Gives 205 #[.pointer (some ⟨a, 0, none⟩), .pointer (some ⟨b, 0, none⟩)] (wholeC F l) W := by
  have hm := H.most
  by_cases hn : n = 0
  · have hq : wholeC F l = [] := by unfold wholeC; rw [if_pos (by rw [H.len]; exact hn)]
    rw [hq]
    subst hn
    clear hq H h hm
    unfold Gives
    go_enter Tryz.func205, Tryz.ntmps205
    go_wp2
    go_ret
    exact ⟨_, rfl, Own.nil9 _ _, Below.refl _ _⟩
  · have hq : wholeC F l = listC F [] l := by unfold wholeC; rw [if_neg (by rw [H.len]; exact hn)]
    rw [hq]
    have hn0 : ((n : Int) == 0) = false := beq_eq_false_iff_ne.2 (by omega)
    have c := list_ExpV h eg p n cap l H W.heap.size hB0.size W hB0 (Nat.le_refl _) (.slice none 0 0) [] (Own.nil9 _ _) (by simp)
    clear hq hn H h
    unfold Gives
    go_enter Tryz.func205, Tryz.ntmps205
    go_wp2_with (go_at_call 206; (with_reducible refine c.mono ?_); rintro e w1 ⟨v1, rfl, h1, n1⟩)
    go_ret
    exact ⟨_, rfl, h1, n1.below (Nat.le_refl _)⟩
theorem whole_DatV (p : Option Addr) (n cap g : Nat) (w : World) :
    Calls Tryz.prog 146 #[.slice p n cap, .func (.func g) #[] #[]] w fun e w' => e = .returned (.func (.func 211) #[] #[.pointer (some ⟨w.heap.size, 0, none⟩), .pointer (some ⟨w.heap.size + 1, 0, none⟩)]) ∧ w' = (w.alloc (.cells #[.slice p n cap] 33)).alloc (.cells #[.func (.func g) #[] #[]] 195) := by
  have hmf : ∀ (fn : Fn) (first cap : Array Value) (w : World), (Instr.makeFunc fn first cap).run Tryz.prog w = .ok (.func fn first cap) w := fun _ _ _ _ => rfl
  go_enter Tryz.func146, Tryz.ntmps146
  go_wp2
  go_ret
  exact ⟨rfl, rfl⟩
theorem gives_DatV {g : Nat} {F : List UInt8 → DatV → List UInt8} {ok : World → DatV → Prop} {w0 : World} {K : Nat} (h : Puts g DatV.val ok F w0) (eg : ∀ args w, (callFunc g args).run Tryz.prog w = .ok (.enter g args) w) (p : Option Addr) (n cap : Nat) (l : List DatV) (H : Puttable 2 DatV.row ok F K w0 p n l) (W : World) (hB0 : Below w0.heap.size w0 W) (a b : Nat) (ha : W.cell? ⟨a, 0, none⟩ = some (.slice p n cap)) (hb : W.cell? ⟨b, 0, none⟩ = some (.func (.func g) #[] #[])) :
    Gives 211 #[.pointer (some ⟨a, 0, none⟩), .pointer (some ⟨b, 0, none⟩)] (wholeC F l) W := by
  have hm := H.most
  by_cases hn : n = 0
  · have hq : wholeC F l = [] := by unfold wholeC; rw [if_pos (by rw [H.len]; exact hn)]
    rw [hq]
    subst hn
    clear hq H h hm
    unfold Gives
    go_enter Tryz.func211, Tryz.ntmps211
    go_wp2
    go_ret
    exact ⟨_, rfl, Own.nil9 _ _, Below.refl _ _⟩
  · have hq : wholeC F l = listC F [] l := by unfold wholeC; rw [if_neg (by rw [H.len]; exact hn)]
    rw [hq]
    have hn0 : ((n : Int) == 0) = false := beq_eq_false_iff_ne.2 (by omega)
    have c := list_DatV h eg p n cap l H W.heap.size hB0.size W hB0 (Nat.le_refl _) (.slice none 0 0) [] (Own.nil9 _ _) (by simp)
    clear hq hn H h
    unfold Gives
    go_enter Tryz.func211, Tryz.ntmps211
    go_wp2_with (go_at_call 212; (with_reducible refine c.mono ?_); rintro e w1 ⟨v1, rfl, h1, n1⟩)
    go_ret
    exact ⟨_, rfl, h1, n1.below (Nat.le_refl _)⟩
theorem gives_start (n : Int) (hn : n = -1 ∨ word4 n = true) (W : World) (b : Nat) (hb : W.cell? ⟨b, 5, none⟩ = some (.int .i64 n)) :
    Gives 144 #[.pointer (some ⟨b, 0, none⟩)] (startC n) W := by
  unfold word4 at hn
  simp only [decide_eq_true_eq] at hn
  by_cases h0 : n < 0
  · have hq : startC n = [] := by unfold startC; rw [if_pos h0]
    rw [hq]
    clear hq
    unfold Gives
    go_enter Tryz.func144, Tryz.ntmps144
    go_wp2
    go_ret
    exact ⟨_, rfl, Own.nil9 _ _, Below.refl _ _⟩
  · have hq : startC n = numC [] n := by unfold startC; rw [if_neg h0]
    rw [hq]
    have c := number_of W.heap.size (.slice none 0 0) [] n W (Own.nil9 _ _) (Nat.le_refl _) (by simp) (by omega) (by omega)
    have h1 : 0 ≤ n := by omega
    clear hq hn
    unfold Gives
    go_enter Tryz.func144, Tryz.ntmps144
    go_wp2_with (go_at_call 137; (with_reducible refine c.mono ?_); rintro e w1 ⟨v1, rfl, h1, n1⟩)
    go_ret
    exact ⟨_, rfl, h1, n1.below (Nat.le_refl _)⟩
end Go.Proofs.YtdinpakclmnacaaGreatDoor
