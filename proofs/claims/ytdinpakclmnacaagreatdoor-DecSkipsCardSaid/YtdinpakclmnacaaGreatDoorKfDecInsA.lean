/-
  Facts and contracts that the proof calls.
-/
import Derived.Test.YtdinpakclmnacaaGreatDoorKfDecInf
import Derived.Test.YtdinpakclmnacaaGreatDoorKfOpSome
namespace Go.Proofs.YtdinpakclmnacaaGreatDoor
set_option maxRecDepth 100000
set_option maxHeartbeats 16000000
open Go.RowKit
set_option linter.unusedVariables false
theorem one_det (w0 : World) (r : RV) : ∃ n r1, 0 ≤ n ∧ n < 256 ∧ Got pOne r r1 n ∧ ∀ (B M : Nat) (T : TypeId) (rest : List Value) (w : World), RdAt w0 B M T rest r w →
    Calls Tryz.prog 114 #[.pointer (some ⟨B, 0, none⟩)] w fun e w' => e = .returned (.int .u8 n) ∧ RdAt w0 B M T rest r1 w' ∧ Mov B M w w' := by
  by_cases hlt : r.pos < r.s.size
  · have hb := UInt8.toNat_lt r.s[r.pos]
    exact ⟨(r.s[r.pos].toNat : Int), ⟨r.s, r.pos + 1, r.e⟩, by omega, by omega, got_one hlt, fun B M T rest w h => one_yes hlt h⟩
  · exact ⟨0, r.bad 2, by decide, by decide, got_end (by omega), fun B M T rest w h => one_no (by omega) h⟩
def Kept6 (B M : Nat) (l : List (Nat × Obj)) (W : World) : Prop := ∀ p ∈ l, W.heap[p.1]? = some p.2 ∧ p.1 ≠ B ∧ p.1 ≠ M
theorem Kept6.mov {B M : Nat} {l : List (Nat × Obj)} {W W' : World} (h : Kept6 B M l W) (hm : Mov B M W W') : Kept6 B M l W' := fun p hp => by
  obtain ⟨h1, h2, h3⟩ := h p hp
  exact ⟨(hm.block _ (in_heap6 h1) h2 h3).trans h1, h2, h3⟩
theorem Kept6.below {B M : Nat} {l : List (Nat × Obj)} {W W' : World} (h : Kept6 B M l W) (hm : Below W.heap.size W W') : Kept6 B M l W' := h.mov (Mov.of_below hm)
theorem Kept6.alloc {B M : Nat} {l : List (Nat × Obj)} {W : World} (h : Kept6 B M l W) (o : Obj) : Kept6 B M l (W.alloc o) := h.mov ((Mov.refl _ _ _).alloc o)
theorem Kept6.add {B M : Nat} {l : List (Nat × Obj)} {W : World} (h : Kept6 B M l W) (hB : B < W.heap.size) (hM : M < W.heap.size) (o : Obj) : Kept6 B M ((W.heap.size, o) :: l) (W.alloc o) := fun p hp => by
  rcases List.mem_cons.1 hp with rfl | hp
  · exact ⟨heap_alloc_new W o, by show W.heap.size ≠ B; omega, by show W.heap.size ≠ M; omega⟩
  · exact h.alloc o p hp
theorem Kept6.nil (B M : Nat) (W : World) : Kept6 B M [] W := fun p hp => by cases hp
theorem Kept6.one {B M b : Nat} {o : Obj} {l : List (Nat × Obj)} {W : World} (h : Kept6 B M ((b, o) :: l) W) : W.heap[b]? = some o ∧ b ≠ B ∧ b ≠ M := h (b, o) (List.mem_cons_self ..)
theorem Kept6.rest {B M : Nat} {p : Nat × Obj} {l : List (Nat × Obj)} {W : World} (h : Kept6 B M (p :: l) W) : Kept6 B M l W := fun q hq => h q (List.mem_cons_of_mem _ hq)
theorem box_at {W : World} {b : Nat} {u0 u1 u2 u3 : Value} {t : TypeId} (h : W.heap[b]? = some (.cells #[u0, u1, u2, u3] t)) :
    (∀ o, (W.alloc o).cell? ⟨b, 0, none⟩ = some u0) ∧ (∀ o, (W.alloc o).cell? ⟨b, 1, none⟩ = some u1) ∧ (∀ o, (W.alloc o).cell? ⟨b, 2, none⟩ = some u2) ∧ (∀ o, (W.alloc o).cell? ⟨b, 3, none⟩ = some u3) ∧
    W.cell? ⟨b, 0, none⟩ = some u0 ∧ W.cell? ⟨b, 1, none⟩ = some u1 ∧ W.cell? ⟨b, 2, none⟩ = some u2 ∧ W.cell? ⟨b, 3, none⟩ = some u3 ∧
    W.frozen? ⟨b, 0, none⟩ = false ∧ W.frozen? ⟨b, 1, none⟩ = false ∧ W.frozen? ⟨b, 2, none⟩ = false ∧ W.frozen? ⟨b, 3, none⟩ = false := by
  have hl := in_heap6 h
  obtain ⟨_, c0, c1, c2, c3⟩ := box6_4 h
  have z := fun j => (by simp [World.frozen?, h] : W.frozen? ⟨b, j, none⟩ = false)
  exact ⟨fun o => (World.cell?_alloc_lt W o _ hl).trans c0, fun o => (World.cell?_alloc_lt W o _ hl).trans c1, fun o => (World.cell?_alloc_lt W o _ hl).trans c2, fun o => (World.cell?_alloc_lt W o _ hl).trans c3, c0, c1, c2, c3, z 0, z 1, z 2, z 3⟩
def InsNew (w w' : World) (x : InsV) : Prop :=
  w'.ownsRow w.heap.size 3 1 (.slice x.lp x.ls.length x.lc) x.ls.length (x.ls.flatMap rowInt) ∧ x.ls.length ≤ 4096 ∧ (∀ n ∈ x.ls, 0 ≤ n ∧ n < 4294967296) ∧ inI64 x.op ∧ inI64 x.a ∧ inI64 x.b
def DidAs {α β : Type} (w0 : World) (B M : Nat) (T : TypeId) (rest : List Value) (r : RV) (w : World) (P : Pr β) (f : α → β) (val : α → Value) (ok : World → World → α → Prop) (e : Ending) (w' : World) : Prop :=
  ∃ x r', e = .returned (val x) ∧ Got P r r' (f x) ∧ RdAt w0 B M T rest r' w' ∧ Mov B M w w' ∧ ok w w' x
theorem insNew_nil (w w' : World) (op a b : Int) (h1 : inI64 op) (h2 : inI64 a) (h3 : inI64 b) : InsNew w w' (bareI op a b []) := ⟨World.ownsRow_nil _ _ _ _, by simp [bareI], fun n hn => by simp [bareI] at hn, h1, h2, h3⟩
theorem last4 {w0 : World} {B M : Nat} {T : TypeId} {rest : List Value} {r : RV} {w W : World} (h : RdAt w0 B M T rest r W) (m : Mov B M w W) {b : Nat} (v0 v1 v2 v3 : Value) (n1 : b ≠ B) (n2 : b ≠ M) (h0 : w0.heap.size ≤ b) (hb : w.heap.size ≤ b) :
    RdAt w0 B M T rest r ((((W.setCell ⟨b, 0, none⟩ v0).setCell ⟨b, 1, none⟩ v1).setCell ⟨b, 2, none⟩ v2).setCell ⟨b, 3, none⟩ v3) ∧ Mov B M w ((((W.setCell ⟨b, 0, none⟩ v0).setCell ⟨b, 1, none⟩ v1).setCell ⟨b, 2, none⟩ v2).setCell ⟨b, 3, none⟩ v3) :=
  ⟨(((h.other 0 _ n1 n2 h0).other 1 _ n1 n2 h0).other 2 _ n1 n2 h0).other 3 _ n1 n2 h0, (((m.setNew 0 _ hb).setNew 1 _ hb).setNew 2 _ hb).setNew 3 _ hb⟩
theorem own_down {w : World} {base b2 e sz n : Nat} {v : Value} {xs : List Value} (h : w.ownsRow base e sz v n xs) (hb : b2 ≤ base) : w.ownsRow b2 e sz v n xs := by
  obtain ⟨hl, h | ⟨g, cap, cur, hv, hbg, hr⟩⟩ := h
  · exact ⟨hl, .inl h⟩
  · exact ⟨hl, .inr ⟨g, cap, cur, hv, Nat.le_trans hb hbg, hr⟩⟩
structure InsSt (w0 w : World) (B M : Nat) (T : TypeId) (rest : List Value) (b : Nat) (u0 u1 u2 u3 : Value) (r : RV) (W : World) : Prop where
  rd : RdAt w0 B M T rest r W
  mov : Mov B M w W
  res : W.heap[w.heap.size]? = some (.cells #[.int .i64 0, .int .i64 0, .int .i64 0, .slice none 0 0] 46)
  own : W.heap[b]? = some (.cells #[u0, u1, u2, u3] 46)
  n1 : w.heap.size ≠ B
  n2 : w.heap.size ≠ M
  n3 : b ≠ B
  n4 : b ≠ M
  lt : w.heap.size < b
  hw : w0.heap.size ≤ w.heap.size
theorem InsSt.call {w0 w : World} {B M : Nat} {T : TypeId} {rest : List Value} {b : Nat} {u0 u1 u2 u3 : Value} {r r' : RV} {W W' : World} (h : InsSt w0 w B M T rest b u0 u1 u2 u3 r W) (m : Mov B M W W') (hr : RdAt w0 B M T rest r' W') : InsSt w0 w B M T rest b u0 u1 u2 u3 r' W' :=
  ⟨hr, h.mov.trans m, (m.block _ (in_heap6 h.res) h.n1 h.n2).trans h.res, (m.block _ (in_heap6 h.own) h.n3 h.n4).trans h.own, h.n1, h.n2, h.n3, h.n4, h.lt, h.hw⟩
theorem InsSt.set {w0 w : World} {B M : Nat} {T : TypeId} {rest : List Value} {b : Nat} {u0 u1 u2 u3 : Value} {r : RV} {W : World} (h : InsSt w0 w B M T rest b u0 u1 u2 u3 r W) (v : Value) :
    InsSt w0 w B M T rest b u0 v u2 u3 r (W.setCell ⟨b, 1, none⟩ v) ∧ InsSt w0 w B M T rest b u0 u1 v u3 r (W.setCell ⟨b, 2, none⟩ v) ∧ InsSt w0 w B M T rest b u0 u1 u2 v r (W.setCell ⟨b, 3, none⟩ v) := by
  have h0 := Nat.le_trans h.hw (Nat.le_of_lt h.lt)
  have hne := Nat.ne_of_lt h.lt
  have hb := Nat.le_of_lt h.lt
  refine ⟨⟨h.rd.other 1 v h.n3 h.n4 h0, h.mov.setNew 1 v hb, (Below.heap_setCell _ _ _ _ hne).trans h.res, ?_, h.n1, h.n2, h.n3, h.n4, h.lt, h.hw⟩, ⟨h.rd.other 2 v h.n3 h.n4 h0, h.mov.setNew 2 v hb, (Below.heap_setCell _ _ _ _ hne).trans h.res, ?_, h.n1, h.n2, h.n3, h.n4, h.lt, h.hw⟩, ⟨h.rd.other 3 v h.n3 h.n4 h0, h.mov.setNew 3 v hb, (Below.heap_setCell _ _ _ _ hne).trans h.res, ?_, h.n1, h.n2, h.n3, h.n4, h.lt, h.hw⟩⟩ <;> simp [World.setCell, Array.getElem?_modify, h.own]
theorem InsSt.facts {w0 w : World} {B M : Nat} {T : TypeId} {rest : List Value} {b : Nat} {u0 u1 u2 u3 : Value} {r : RV} {W : World} (h : InsSt w0 w B M T rest b u0 u1 u2 u3 r W) :
    (W.cell? ⟨w.heap.size, 0, none⟩ = some (.int .i64 0) ∧ W.cell? ⟨w.heap.size, 1, none⟩ = some (.int .i64 0) ∧ W.cell? ⟨w.heap.size, 2, none⟩ = some (.int .i64 0) ∧ W.cell? ⟨w.heap.size, 3, none⟩ = some (.slice none 0 0) ∧
    W.frozen? ⟨w.heap.size, 0, none⟩ = false ∧ W.frozen? ⟨w.heap.size, 1, none⟩ = false ∧ W.frozen? ⟨w.heap.size, 2, none⟩ = false ∧ W.frozen? ⟨w.heap.size, 3, none⟩ = false) ∧
    W.cell? ⟨b, 0, none⟩ = some u0 ∧ W.cell? ⟨b, 1, none⟩ = some u1 ∧ W.cell? ⟨b, 2, none⟩ = some u2 ∧ W.cell? ⟨b, 3, none⟩ = some u3 ∧
    W.frozen? ⟨b, 0, none⟩ = false ∧ W.frozen? ⟨b, 1, none⟩ = false ∧ W.frozen? ⟨b, 2, none⟩ = false ∧ W.frozen? ⟨b, 3, none⟩ = false ∧ w.heap.size ≠ b ∧ w.heap.size < W.heap.size :=
  ⟨(box_at h.res).2.2.2.2, (box_at h.own).2.2.2.2.1, (box_at h.own).2.2.2.2.2.1, (box_at h.own).2.2.2.2.2.2.1, (box_at h.own).2.2.2.2.2.2.2.1, (box_at h.own).2.2.2.2.2.2.2.2.1, (box_at h.own).2.2.2.2.2.2.2.2.2.1, (box_at h.own).2.2.2.2.2.2.2.2.2.2.1, (box_at h.own).2.2.2.2.2.2.2.2.2.2.2, Nat.ne_of_lt h.lt, in_heap6 h.res⟩
theorem Got.congr {α : Type} {P Q : Pr α} {r r' : RV} {x : α} (h : Got P r r' x) (e : ∀ l, P l = Q l) : Got Q r r' x := by
  obtain ⟨h1, h2⟩ := h
  rw [e] at h2
  exact ⟨h1, h2⟩
theorem got_tail1 {n k : Int} {r r' : RV} (h : Got (pOne.and fun k => if k = 64 then .val k else (pKind k).and fun _ => .val k) r r' k) : Got (pTail 1 n) r r' (bareI n k 0 []) := by
  refine (h.map fun k => bareI n k 0 []).congr fun l => ?_
  unfold pTail
  rw [if_pos rfl]
  cases l with
  | nil => rfl
  | cons b l =>
    unfold Pr.and pOne
    simp only
    by_cases hk : (b.toNat : Int) = 64
    · rw [if_pos hk, if_pos hk]; rfl
    · rw [if_neg hk, if_neg hk]
      unfold Pr.val
      cases pKind (b.toNat : Int) l <;> rfl
theorem insNew_list {w W3 w' : World} {n j : Int} {vp : Option Addr} {vc : Nat} {l : List Int} (h : w'.ownsRow W3.heap.size 3 1 (.slice vp l.length vc) l.length (l.flatMap rowInt)) (hs : w.heap.size ≤ W3.heap.size) (hok : ∀ x ∈ l, 0 ≤ x ∧ x < 4294967296) (hl : l.length ≤ 4096) (hn : 0 ≤ n ∧ n < 256) (p0 : 0 ≤ j) (p1 : j < 4294967296) :
    InsNew w w' ⟨n, j, 0, vp, vc, l⟩ := by
  refine ⟨own_down h hs, hl, hok, by unfold inI64; simp only; omega, by unfold inI64; simp only; omega, by unfold inI64; simp only; omega⟩
theorem InsSt.done {w0 w : World} {B M : Nat} {T : TypeId} {rest : List Value} {b : Nat} {u0 u1 u2 u3 : Value} {r : RV} {W : World} (h : InsSt w0 w B M T rest b u0 u1 u2 u3 r W) (v0 v1 v2 v3 : Value) :
    RdAt w0 B M T rest r ((((W.setCell ⟨w.heap.size, 0, none⟩ v0).setCell ⟨w.heap.size, 1, none⟩ v1).setCell ⟨w.heap.size, 2, none⟩ v2).setCell ⟨w.heap.size, 3, none⟩ v3) ∧ Mov B M w ((((W.setCell ⟨w.heap.size, 0, none⟩ v0).setCell ⟨w.heap.size, 1, none⟩ v1).setCell ⟨w.heap.size, 2, none⟩ v2).setCell ⟨w.heap.size, 3, none⟩ v3) :=
  last4 h.rd h.mov v0 v1 v2 v3 h.n1 h.n2 h.hw (Nat.le_refl _)
theorem heap_sets {w : World} {a b g : Nat} (v v0 v1 v2 v3 : Value) (h1 : g ≠ b) (h2 : g ≠ a) : (((((w.setCell ⟨b, 1, none⟩ v).setCell ⟨a, 0, none⟩ v0).setCell ⟨a, 1, none⟩ v1).setCell ⟨a, 2, none⟩ v2).setCell ⟨a, 3, none⟩ v3).heap[g]? = w.heap[g]? :=
  (Below.heap_setCell _ _ _ _ h2).trans ((Below.heap_setCell _ _ _ _ h2).trans ((Below.heap_setCell _ _ _ _ h2).trans ((Below.heap_setCell _ _ _ _ h2).trans (Below.heap_setCell _ _ _ _ h1))))
theorem insNew_sets {w W3 w6 : World} {b : Nat} {n j : Int} {vp : Option Addr} {vc : Nat} {l : List Int} (v v0 v1 v2 v3 : Value) (h : w6.ownsRow W3.heap.size 3 1 (.slice vp l.length vc) l.length (l.flatMap rowInt)) (hb : b < W3.heap.size) (hw : w.heap.size < b) (hok : ∀ x ∈ l, 0 ≤ x ∧ x < 4294967296) (hl : l.length ≤ 4096) (hn : 0 ≤ n ∧ n < 256) (p0 : 0 ≤ j) (p1 : j < 4294967296) :
    InsNew w (((((w6.setCell ⟨b, 1, none⟩ v).setCell ⟨w.heap.size, 0, none⟩ v0).setCell ⟨w.heap.size, 1, none⟩ v1).setCell ⟨w.heap.size, 2, none⟩ v2).setCell ⟨w.heap.size, 3, none⟩ v3) ⟨n, j, 0, vp, vc, l⟩ :=
  insNew_list (own_same h fun g hg => by have := (own_lt6 h g hg).1; exact heap_sets v v0 v1 v2 v3 (by omega) (by omega)) (by omega) hok hl hn p0 p1
theorem number_each (w0 : World) (B M : Nat) (T : TypeId) (rest : List Value) (r : RV) (W : World) (hr : RdAt w0 B M T rest r W) : Calls Tryz.prog 127 (#[.pointer (some ⟨B, 0, none⟩)] ++ #[]) W (Did w0 B M T rest r W pNum valInt (fun _ _ x => 0 ≤ x ∧ x < 4294967296)) := number_reads w0 B M T rest r W hr
theorem enters_num6 : ∀ args w, (callFunc 127 args).run Tryz.prog w = .ok (.enter 127 args) w := enters_of Tryz.func127 (by kernel_rfl) rfl
theorem numbers_reads {w0 : World} {B M : Nat} {T : TypeId} {rest : List Value} {r : RV} {w : World} (h : RdAt w0 B M T rest r w) :
    Calls Tryz.prog 128 #[.pointer (some ⟨B, 0, none⟩), .func (.func 127) #[] #[]] w (DidList w0 B M T rest r w pNum 3 1 rowInt (fun x => 0 ≤ x ∧ x < 4294967296)) :=
  list_int enters_num6 (number_each w0) h
theorem instr_float {w0 : World} (hLaid : Laid w0) {B M : Nat} {T : TypeId} {rest : List Value} {r : RV} {w : World} (h : RdAt w0 B M T rest r w) (n : Int) (r1 : RV) (hn : 0 ≤ n ∧ n < 256) (g1 : Got pOne r r1 n)
    (c1 : ∀ (B M : Nat) (T : TypeId) (rest : List Value) (w : World), RdAt w0 B M T rest r w → Calls Tryz.prog 114 #[.pointer (some ⟨B, 0, none⟩)] w fun e w' => e = .returned (.int .u8 n) ∧ RdAt w0 B M T rest r1 w' ∧ Mov B M w w') (hnone : byCode n = none) (hfloat : isFloat n = true) :
    Calls Tryz.prog 51 #[.pointer (some ⟨B, 0, none⟩)] w (DidAs w0 B M T rest r w pIns InsV.bare InsV.val InsNew) := by
  have hn0 := hn.1
  have hn1 := hn.2
  have hlt := h.lt
  have hw0 := h.below.size
  have n1 : w.heap.size ≠ B := by omega
  have n2 : w.heap.size ≠ M := by omega
  have ha := h.alloc (.cells #[.int .i64 0, .int .i64 0, .int .i64 0, .slice none 0 0] 46)
  have ka := (Kept6.nil B M w).add hlt.1 hlt.2 (.cells #[.int .i64 0, .int .i64 0, .int .i64 0, .slice none 0 0] 46)
  clear h
  have hby : infoVal (byCode n) = .agg #[.string ⟨#[]⟩, .int .i64 0, .string ⟨#[]⟩, .string ⟨#[]⟩] ∧ (byCode n).isSome = false := by rw [hnone]; exact ⟨rfl, rfl⟩
  obtain ⟨hby, hok⟩ := hby
  have c1' := c1
  have hfl := hfloat
  clear hfloat c1'
  go_enter Tryz.func51, Tryz.ntmps51
  go_wp2_with (first
    | (go_at_call 114; (with_reducible refine (c1 _ _ _ _ _ ha).mono ?_); rintro e w1 ⟨rfl, h1, m1⟩; have k1 := ka.mov m1; have mm1 := ((Mov.refl B M w).alloc _).trans m1; obtain ⟨_, _, _, x3, _⟩ := h1.reads; have c2 := infos_of hLaid.spaces h1 n hn; rw [hby, hok] at c2; clear c1 ha ka)
    | (go_at_call 124; (with_reducible refine c2.mono ?_); rintro e w2 ⟨rfl, h2, m2⟩; have k2 := (k1.mov m2).add h2.lt.1 h2.lt.2 (.cells #[.string ⟨#[]⟩, .int .i64 0, .string ⟨#[]⟩, .string ⟨#[]⟩] 177); have mm2 := (mm1.trans m2).alloc (.cells #[.string ⟨#[]⟩, .int .i64 0, .string ⟨#[]⟩, .string ⟨#[]⟩] 177); have h2a := h2.alloc (.cells #[.string ⟨#[]⟩, .int .i64 0, .string ⟨#[]⟩, .string ⟨#[]⟩] 177); have c3 := op_float n (by omega) (by omega) (w2.alloc (.cells #[.string ⟨#[]⟩, .int .i64 0, .string ⟨#[]⟩, .string ⟨#[]⟩] 177)); rw [hfl] at c3; clear h1 k1 mm1 m1 m2 h2 c2 x3)
    | (go_at_call 125; (with_reducible refine c3.mono ?_); rintro e w3 ⟨rfl, hb3⟩; have h3 := h2a.at' hb3; have k3 := k2.below hb3; have mm3 := mm2.then hb3; have hbx4 := box_at (k3.one).1; obtain ⟨p0, p1, p2, p3, _⟩ := hbx4; have c4 := fail_of h3 3; clear h2a k2 mm2 c3 hb3)
    | (go_at_call 115; (with_reducible refine c4.mono ?_); rintro e w4 ⟨rfl, h4, m4⟩; have k4 := k3.mov m4; have mm4 := mm3.trans m4; have hbx4 := box_at (k4.one).1; obtain ⟨p0, p1, p2, p3, _⟩ := hbx4; have hlB := in_heap6 (k4.rest.one).1; have hq0 := box_at (k4.rest.one).1; obtain ⟨_, _, _, _, t0, t1, t2, t3, f0, f1, f2, f3⟩ := hq0; clear h3 k3 mm3 m4 c4))
  refine bodyPost_ret (v := .agg #[.int .i64 n, .int .i64 0, .int .i64 0, .slice none 0 0]) ?_ rfl ?_
  · rw [results_one_cell rfl]; go_simp
  · have hl := last4 h4 mm4 (.int .i64 n) (.int .i64 0) (.int .i64 0) (.slice none 0 0) n1 n2 hw0 (Nat.le_refl _)
    exact ⟨bareI n 0 0 [], _, rfl, g1.and (by rw [if_pos (.inl hfl)]; exact Got.no (by decide) _ _), hl.1.alloc _, hl.2.alloc _, insNew_nil _ _ _ _ _ (by unfold inI64; omega) (by unfold inI64; omega) (by unfold inI64; omega)⟩
theorem instr_k17 {w0 : World} (hLaid : Laid w0) {B M : Nat} {T : TypeId} {rest : List Value} {r : RV} {w : World} (h : RdAt w0 B M T rest r w) (n : Int) (r1 : RV) (hn : 0 ≤ n ∧ n < 256) (g1 : Got pOne r r1 n)
    (c1 : ∀ (B M : Nat) (T : TypeId) (rest : List Value) (w : World), RdAt w0 B M T rest r w → Calls Tryz.prog 114 #[.pointer (some ⟨B, 0, none⟩)] w fun e w' => e = .returned (.int .u8 n) ∧ RdAt w0 B M T rest r1 w' ∧ Mov B M w w') (h17 : n = 17) (hnone : byCode n = none) (hfloat : isFloat n = false) :
    Calls Tryz.prog 51 #[.pointer (some ⟨B, 0, none⟩)] w (DidAs w0 B M T rest r w pIns InsV.bare InsV.val InsNew) := by
  have hn0 := hn.1
  have hn1 := hn.2
  have hlt := h.lt
  have hw0 := h.below.size
  have n1 : w.heap.size ≠ B := by omega
  have n2 : w.heap.size ≠ M := by omega
  have ha := h.alloc (.cells #[.int .i64 0, .int .i64 0, .int .i64 0, .slice none 0 0] 46)
  have ka := (Kept6.nil B M w).add hlt.1 hlt.2 (.cells #[.int .i64 0, .int .i64 0, .int .i64 0, .slice none 0 0] 46)
  clear h
  have hby : infoVal (byCode n) = .agg #[.string ⟨#[]⟩, .int .i64 0, .string ⟨#[]⟩, .string ⟨#[]⟩] ∧ (byCode n).isSome = false := by rw [hnone]; exact ⟨rfl, rfl⟩
  obtain ⟨hby, hok⟩ := hby
  have c1' := c1
  have hfl := hfloat
  clear hfloat c1'
  have hq17 : (n == 17) = true := beq_iff_eq.2 h17
  have H17 := Lib.hid h17
  clear h17
  go_enter Tryz.func51, Tryz.ntmps51
  go_wp2_with (first
    | (go_at_call 114; (with_reducible refine (c1 _ _ _ _ _ ha).mono ?_); rintro e w1 ⟨rfl, h1, m1⟩; have k1 := ka.mov m1; have mm1 := ((Mov.refl B M w).alloc _).trans m1; obtain ⟨_, _, _, x3, _⟩ := h1.reads; have c2 := infos_of hLaid.spaces h1 n hn; rw [hby, hok] at c2; clear c1 ha ka)
    | (go_at_call 124; (with_reducible refine c2.mono ?_); rintro e w2 ⟨rfl, h2, m2⟩; have k2 := (k1.mov m2).add h2.lt.1 h2.lt.2 (.cells #[.string ⟨#[]⟩, .int .i64 0, .string ⟨#[]⟩, .string ⟨#[]⟩] 177); have mm2 := (mm1.trans m2).alloc (.cells #[.string ⟨#[]⟩, .int .i64 0, .string ⟨#[]⟩, .string ⟨#[]⟩] 177); have h2a := h2.alloc (.cells #[.string ⟨#[]⟩, .int .i64 0, .string ⟨#[]⟩, .string ⟨#[]⟩] 177); have c3 := op_float n (by omega) (by omega) (w2.alloc (.cells #[.string ⟨#[]⟩, .int .i64 0, .string ⟨#[]⟩, .string ⟨#[]⟩] 177)); rw [hfl] at c3; clear h1 k1 mm1 m1 m2 h2 c2 x3)
    | (go_at_call 125; (with_reducible refine c3.mono ?_); rintro e w3 ⟨rfl, hb3⟩; have h3 := h2a.at' hb3; have k3 := k2.below hb3; have mm3 := mm2.then hb3; have hbx4 := box_at (k3.one).1; obtain ⟨p0, p1, p2, p3, _⟩ := hbx4; have c4 := fail_of h3 3; clear h2a k2 mm2 c3 hb3)
    | (go_at_call 115; (with_reducible refine c4.mono ?_); rintro e w4 ⟨rfl, h4, m4⟩; have k4 := k3.mov m4; have mm4 := mm3.trans m4; have hbx4 := box_at (k4.one).1; obtain ⟨p0, p1, p2, p3, _⟩ := hbx4; have hlB := in_heap6 (k4.rest.one).1; have hq0 := box_at (k4.rest.one).1; obtain ⟨_, _, _, _, t0, t1, t2, t3, f0, f1, f2, f3⟩ := hq0; clear h3 k3 mm3 m4 c4))
  refine bodyPost_ret (v := .agg #[.int .i64 n, .int .i64 0, .int .i64 0, .slice none 0 0]) ?_ rfl ?_
  · rw [results_one_cell rfl]; go_simp
  · have hl := last4 h4 mm4 (.int .i64 n) (.int .i64 0) (.int .i64 0) (.slice none 0 0) n1 n2 hw0 (Nat.le_refl _)
    exact ⟨bareI n 0 0 [], _, rfl, g1.and (by rw [if_pos (.inr H17.out)]; exact Got.no (by decide) _ _), hl.1.alloc _, hl.2.alloc _, insNew_nil _ _ _ _ _ (by unfold inI64; omega) (by unfold inI64; omega) (by unfold inI64; omega)⟩
theorem instr_none {w0 : World} (hLaid : Laid w0) {B M : Nat} {T : TypeId} {rest : List Value} {r : RV} {w : World} (h : RdAt w0 B M T rest r w) (n : Int) (r1 : RV) (hn : 0 ≤ n ∧ n < 256) (g1 : Got pOne r r1 n)
    (c1 : ∀ (B M : Nat) (T : TypeId) (rest : List Value) (w : World), RdAt w0 B M T rest r w → Calls Tryz.prog 114 #[.pointer (some ⟨B, 0, none⟩)] w fun e w' => e = .returned (.int .u8 n) ∧ RdAt w0 B M T rest r1 w' ∧ Mov B M w w') (h17 : ¬ n = 17) (hnone : byCode n = none) (hfloat : isFloat n = false) :
    Calls Tryz.prog 51 #[.pointer (some ⟨B, 0, none⟩)] w (DidAs w0 B M T rest r w pIns InsV.bare InsV.val InsNew) := by
  have hn0 := hn.1
  have hn1 := hn.2
  have hlt := h.lt
  have hw0 := h.below.size
  have n1 : w.heap.size ≠ B := by omega
  have n2 : w.heap.size ≠ M := by omega
  have ha := h.alloc (.cells #[.int .i64 0, .int .i64 0, .int .i64 0, .slice none 0 0] 46)
  have ka := (Kept6.nil B M w).add hlt.1 hlt.2 (.cells #[.int .i64 0, .int .i64 0, .int .i64 0, .slice none 0 0] 46)
  clear h
  have hby : infoVal (byCode n) = .agg #[.string ⟨#[]⟩, .int .i64 0, .string ⟨#[]⟩, .string ⟨#[]⟩] ∧ (byCode n).isSome = false := by rw [hnone]; exact ⟨rfl, rfl⟩
  obtain ⟨hby, hok⟩ := hby
  have c1' := c1
  have hfl := hfloat
  clear hfloat c1'
  have hq17 : (n == 17) = false := beq_eq_false_iff_ne.2 h17
  go_enter Tryz.func51, Tryz.ntmps51
  go_wp2_with (first
    | (go_at_call 114; (with_reducible refine (c1 _ _ _ _ _ ha).mono ?_); rintro e w1 ⟨rfl, h1, m1⟩; have k1 := ka.mov m1; have mm1 := ((Mov.refl B M w).alloc _).trans m1; obtain ⟨_, _, _, x3, _⟩ := h1.reads; have c2 := infos_of hLaid.spaces h1 n hn; rw [hby, hok] at c2; clear c1 ha ka)
    | (go_at_call 124; (with_reducible refine c2.mono ?_); rintro e w2 ⟨rfl, h2, m2⟩; have k2 := (k1.mov m2).add h2.lt.1 h2.lt.2 (.cells #[.string ⟨#[]⟩, .int .i64 0, .string ⟨#[]⟩, .string ⟨#[]⟩] 177); have mm2 := (mm1.trans m2).alloc (.cells #[.string ⟨#[]⟩, .int .i64 0, .string ⟨#[]⟩, .string ⟨#[]⟩] 177); have h2a := h2.alloc (.cells #[.string ⟨#[]⟩, .int .i64 0, .string ⟨#[]⟩, .string ⟨#[]⟩] 177); have c3 := op_float n (by omega) (by omega) (w2.alloc (.cells #[.string ⟨#[]⟩, .int .i64 0, .string ⟨#[]⟩, .string ⟨#[]⟩] 177)); rw [hfl] at c3; clear h1 k1 mm1 m1 m2 h2 c2 x3)
    | (go_at_call 125; (with_reducible refine c3.mono ?_); rintro e w3 ⟨rfl, hb3⟩; have h3 := h2a.at' hb3; have k3 := k2.below hb3; have mm3 := mm2.then hb3; have hbx4 := box_at (k3.one).1; obtain ⟨p0, p1, p2, p3, _⟩ := hbx4; have c4 := fail_of h3 2; clear h2a k2 mm2 c3 hb3)
    | (go_at_call 115; (with_reducible refine c4.mono ?_); rintro e w4 ⟨rfl, h4, m4⟩; have k4 := k3.mov m4; have mm4 := mm3.trans m4; have hbx4 := box_at (k4.one).1; obtain ⟨p0, p1, p2, p3, _⟩ := hbx4; have hlB := in_heap6 (k4.rest.one).1; have hq0 := box_at (k4.rest.one).1; obtain ⟨_, _, _, _, t0, t1, t2, t3, f0, f1, f2, f3⟩ := hq0; clear h3 k3 mm3 m4 c4))
  refine bodyPost_ret (v := .agg #[.int .i64 n, .int .i64 0, .int .i64 0, .slice none 0 0]) ?_ rfl ?_
  · rw [results_one_cell rfl]; go_simp
  · have hl := last4 h4 mm4 (.int .i64 n) (.int .i64 0) (.int .i64 0) (.slice none 0 0) n1 n2 hw0 (Nat.le_refl _)
    exact ⟨bareI n 0 0 [], _, rfl, g1.and (by rw [if_neg (by rw [hfl]; simp; exact h17), hnone]; exact Got.no (by decide) _ _), hl.1.alloc _, hl.2.alloc _, insNew_nil _ _ _ _ _ (by unfold inI64; omega) (by unfold inI64; omega) (by unfold inI64; omega)⟩
theorem instr_s0 {w0 : World} (hLaid : Laid w0) {B M : Nat} {T : TypeId} {rest : List Value} {r : RV} {w : World} (h : RdAt w0 B M T rest r w) (n : Int) (r1 : RV) (hn : 0 ≤ n ∧ n < 256) (g1 : Got pOne r r1 n)
    (c1 : ∀ (B M : Nat) (T : TypeId) (rest : List Value) (w : World), RdAt w0 B M T rest r w → Calls Tryz.prog 114 #[.pointer (some ⟨B, 0, none⟩)] w fun e w' => e = .returned (.int .u8 n) ∧ RdAt w0 B M T rest r1 w' ∧ Mov B M w w') (rc : Int) (rn rp rr : ByteArray) (hR : byCode n = some ⟨rc, rn, 0, rp, rr⟩) :
    Calls Tryz.prog 51 #[.pointer (some ⟨B, 0, none⟩)] w (DidAs w0 B M T rest r w pIns InsV.bare InsV.val InsNew) := by
  have hn0 := hn.1
  have hn1 := hn.2
  have hlt := h.lt
  have hw0 := h.below.size
  have n1 : w.heap.size ≠ B := by omega
  have n2 : w.heap.size ≠ M := by omega
  have ha := h.alloc (.cells #[.int .i64 0, .int .i64 0, .int .i64 0, .slice none 0 0] 46)
  have ka := (Kept6.nil B M w).add hlt.1 hlt.2 (.cells #[.int .i64 0, .int .i64 0, .int .i64 0, .slice none 0 0] 46)
  clear h
  have h6 := byCode_6 hR
  have hfl : isFloat n = false := h6.1
  have h17 : ¬ n = 17 := h6.2.1
  have hq17 : (n == 17) = false := beq_eq_false_iff_ne.2 h17
  have hby : infoVal (byCode n) = .agg #[.string rn, .int .i64 0, .string rp, .string rr] ∧ (byCode n).isSome = true := by rw [hR]; exact ⟨rfl, rfl⟩
  obtain ⟨hby, hok⟩ := hby
  clear h6
  go_enter Tryz.func51, Tryz.ntmps51
  go_wp2_with (first
    | (go_at_call 114; (with_reducible refine (c1 _ _ _ _ _ ha).mono ?_); rintro e w1 ⟨rfl, h1, m1⟩; have k1 := ka.mov m1; have mm1 := ((Mov.refl B M w).alloc _).trans m1; obtain ⟨_, _, _, x3, _⟩ := h1.reads; have c2 := infos_of hLaid.spaces h1 n hn; rw [hby, hok] at c2; clear c1 ha ka)
    | (go_at_call 124; (with_reducible refine c2.mono ?_); rintro e w2 ⟨rfl, h2, m2⟩; have k2 := (k1.mov m2).add h2.lt.1 h2.lt.2 (.cells #[.string rn, .int .i64 0, .string rp, .string rr] 177); have mm2 := (mm1.trans m2).alloc (.cells #[.string rn, .int .i64 0, .string rp, .string rr] 177); have h2a := h2.alloc (.cells #[.string rn, .int .i64 0, .string rp, .string rr] 177); have c3 := op_float n (by omega) (by omega) (w2.alloc (.cells #[.string rn, .int .i64 0, .string rp, .string rr] 177)); rw [hfl] at c3; clear h1 k1 mm1 m1 m2 h2 c2 x3)
    | (go_at_call 125; (with_reducible refine c3.mono ?_); rintro e w3 ⟨rfl, hb3⟩; have h3 := h2a.at' hb3; have k3 := k2.below hb3; have mm3 := mm2.then hb3; have hbx4 := box_at (k3.one).1; obtain ⟨p0, p1, p2, p3, _⟩ := hbx4; have hl3 := h3.lt; have S3 : InsSt w0 w B M T rest w3.heap.size (.int .i64 n) (.int .i64 0) (.int .i64 0) (.slice none 0 0) r1 (w3.alloc (.cells #[.int .i64 n, .int .i64 0, .int .i64 0, .slice none 0 0] 46)) := ⟨h3.alloc _, mm3.alloc _, (Below.heap_alloc w3 _ _ (in_heap6 (k3.rest.one).1)).trans (k3.rest.one).1, heap_alloc_new w3 _, n1, n2, (by omega), (by omega), in_heap6 (k3.rest.one).1, hw0⟩; have hlB := in_heap6 (k3.rest.one).1; have hq0 := box_at (k3.rest.one).1; obtain ⟨_, _, _, _, t0, t1, t2, t3, f0, f1, f2, f3⟩ := hq0; clear k3 hl3 h2a k2 mm2 c3 hb3))
  refine bodyPost_ret (v := .agg #[.int .i64 n, .int .i64 0, .int .i64 0, .slice none 0 0]) ?_ rfl ?_
  · rw [results_one_cell rfl]; go_simp
  · have hl := last4 h3 mm3 (.int .i64 n) (.int .i64 0) (.int .i64 0) (.slice none 0 0) n1 n2 hw0 (Nat.le_refl _)
    exact ⟨bareI n 0 0 [], r1, rfl, g1.and (by rw [if_neg (by rw [hfl]; simp; exact h17), hR]; exact Got.val _ _), hl.1.alloc _, hl.2.alloc _, insNew_nil _ _ _ _ _ (by unfold inI64; omega) (by unfold inI64; omega) (by unfold inI64; omega)⟩
theorem instr_s1 {w0 : World} (hLaid : Laid w0) {B M : Nat} {T : TypeId} {rest : List Value} {r : RV} {w : World} (h : RdAt w0 B M T rest r w) (n : Int) (r1 : RV) (hn : 0 ≤ n ∧ n < 256) (g1 : Got pOne r r1 n)
    (c1 : ∀ (B M : Nat) (T : TypeId) (rest : List Value) (w : World), RdAt w0 B M T rest r w → Calls Tryz.prog 114 #[.pointer (some ⟨B, 0, none⟩)] w fun e w' => e = .returned (.int .u8 n) ∧ RdAt w0 B M T rest r1 w' ∧ Mov B M w w') (rc : Int) (rn rp rr : ByteArray) (hR : byCode n = some ⟨rc, rn, 1, rp, rr⟩) :
    Calls Tryz.prog 51 #[.pointer (some ⟨B, 0, none⟩)] w (DidAs w0 B M T rest r w pIns InsV.bare InsV.val InsNew) := by
  have hn0 := hn.1
  have hn1 := hn.2
  have hlt := h.lt
  have hw0 := h.below.size
  have n1 : w.heap.size ≠ B := by omega
  have n2 : w.heap.size ≠ M := by omega
  have ha := h.alloc (.cells #[.int .i64 0, .int .i64 0, .int .i64 0, .slice none 0 0] 46)
  have ka := (Kept6.nil B M w).add hlt.1 hlt.2 (.cells #[.int .i64 0, .int .i64 0, .int .i64 0, .slice none 0 0] 46)
  clear h
  have h6 := byCode_6 hR
  have hfl : isFloat n = false := h6.1
  have h17 : ¬ n = 17 := h6.2.1
  have hq17 : (n == 17) = false := beq_eq_false_iff_ne.2 h17
  have hby : infoVal (byCode n) = .agg #[.string rn, .int .i64 1, .string rp, .string rr] ∧ (byCode n).isSome = true := by rw [hR]; exact ⟨rfl, rfl⟩
  obtain ⟨hby, hok⟩ := hby
  clear h6
  go_enter Tryz.func51, Tryz.ntmps51
  go_wp2_with (first
    | (go_at_call 114; (with_reducible refine (c1 _ _ _ _ _ ha).mono ?_); rintro e w1 ⟨rfl, h1, m1⟩; have k1 := ka.mov m1; have mm1 := ((Mov.refl B M w).alloc _).trans m1; obtain ⟨_, _, _, x3, _⟩ := h1.reads; have c2 := infos_of hLaid.spaces h1 n hn; rw [hby, hok] at c2; clear c1 ha ka)
    | (go_at_call 124; (with_reducible refine c2.mono ?_); rintro e w2 ⟨rfl, h2, m2⟩; have k2 := (k1.mov m2).add h2.lt.1 h2.lt.2 (.cells #[.string rn, .int .i64 1, .string rp, .string rr] 177); have mm2 := (mm1.trans m2).alloc (.cells #[.string rn, .int .i64 1, .string rp, .string rr] 177); have h2a := h2.alloc (.cells #[.string rn, .int .i64 1, .string rp, .string rr] 177); have c3 := op_float n (by omega) (by omega) (w2.alloc (.cells #[.string rn, .int .i64 1, .string rp, .string rr] 177)); rw [hfl] at c3; clear h1 k1 mm1 m1 m2 h2 c2 x3)
    | (go_at_call 125; (with_reducible refine c3.mono ?_); rintro e w3 ⟨rfl, hb3⟩; have h3 := h2a.at' hb3; have k3 := k2.below hb3; have mm3 := mm2.then hb3; have hbx4 := box_at (k3.one).1; obtain ⟨p0, p1, p2, p3, _⟩ := hbx4; have hl3 := h3.lt; have S3 : InsSt w0 w B M T rest w3.heap.size (.int .i64 n) (.int .i64 0) (.int .i64 0) (.slice none 0 0) r1 (w3.alloc (.cells #[.int .i64 n, .int .i64 0, .int .i64 0, .slice none 0 0] 46)) := ⟨h3.alloc _, mm3.alloc _, (Below.heap_alloc w3 _ _ (in_heap6 (k3.rest.one).1)).trans (k3.rest.one).1, heap_alloc_new w3 _, n1, n2, (by omega), (by omega), in_heap6 (k3.rest.one).1, hw0⟩; have hlB := in_heap6 (k3.rest.one).1; have c5 := answer_reads w0 B M T rest r1 _ S3.rd; clear mm3 k3 h3 hl3 h2a k2 mm2 c3 hb3)
    | (go_at_call 126; (with_reducible refine c5.mono ?_); rintro e w5 ⟨k, r5, rfl, g5, h5, m5, ok5⟩; have S5 := S3.call m5 h5; have o0 := ok5.1; have o1 := ok5.2; obtain ⟨⟨t0, t1, t2, t3, f0, f1, f2, f3⟩, e0, e1, e2, e3, z0, z1, z2, z3, nb, hlW⟩ := S5.facts; clear c5 S3 m5 h5; dsimp only [valU8]))
  refine bodyPost_ret (v := .agg #[.int .i64 n, .int .i64 k, .int .i64 0, .slice none 0 0]) ?_ rfl ?_
  · rw [results_one_cell rfl]; go_simp
  · have hl := ((S5.set (.int .i64 k)).1).done (.int .i64 n) (.int .i64 k) (.int .i64 0) (.slice none 0 0)
    exact ⟨bareI n k 0 [], r5, rfl, g1.and (by rw [if_neg (by rw [hfl]; simp; exact h17), hR]; exact got_tail1 g5), hl.1, hl.2, insNew_nil _ _ _ _ _ (by unfold inI64; omega) (by unfold inI64; omega) (by unfold inI64; omega)⟩
theorem instr_s2 {w0 : World} (hLaid : Laid w0) {B M : Nat} {T : TypeId} {rest : List Value} {r : RV} {w : World} (h : RdAt w0 B M T rest r w) (n : Int) (r1 : RV) (hn : 0 ≤ n ∧ n < 256) (g1 : Got pOne r r1 n)
    (c1 : ∀ (B M : Nat) (T : TypeId) (rest : List Value) (w : World), RdAt w0 B M T rest r w → Calls Tryz.prog 114 #[.pointer (some ⟨B, 0, none⟩)] w fun e w' => e = .returned (.int .u8 n) ∧ RdAt w0 B M T rest r1 w' ∧ Mov B M w w') (rc : Int) (rn rp rr : ByteArray) (hR : byCode n = some ⟨rc, rn, 2, rp, rr⟩) :
    Calls Tryz.prog 51 #[.pointer (some ⟨B, 0, none⟩)] w (DidAs w0 B M T rest r w pIns InsV.bare InsV.val InsNew) := by
  have hn0 := hn.1
  have hn1 := hn.2
  have hlt := h.lt
  have hw0 := h.below.size
  have n1 : w.heap.size ≠ B := by omega
  have n2 : w.heap.size ≠ M := by omega
  have ha := h.alloc (.cells #[.int .i64 0, .int .i64 0, .int .i64 0, .slice none 0 0] 46)
  have ka := (Kept6.nil B M w).add hlt.1 hlt.2 (.cells #[.int .i64 0, .int .i64 0, .int .i64 0, .slice none 0 0] 46)
  clear h
  have h6 := byCode_6 hR
  have hfl : isFloat n = false := h6.1
  have h17 : ¬ n = 17 := h6.2.1
  have hq17 : (n == 17) = false := beq_eq_false_iff_ne.2 h17
  have hby : infoVal (byCode n) = .agg #[.string rn, .int .i64 2, .string rp, .string rr] ∧ (byCode n).isSome = true := by rw [hR]; exact ⟨rfl, rfl⟩
  obtain ⟨hby, hok⟩ := hby
  clear h6
  go_enter Tryz.func51, Tryz.ntmps51
  go_wp2_with (first
    | (go_at_call 114; (with_reducible refine (c1 _ _ _ _ _ ha).mono ?_); rintro e w1 ⟨rfl, h1, m1⟩; have k1 := ka.mov m1; have mm1 := ((Mov.refl B M w).alloc _).trans m1; obtain ⟨_, _, _, x3, _⟩ := h1.reads; have c2 := infos_of hLaid.spaces h1 n hn; rw [hby, hok] at c2; clear c1 ha ka)
    | (go_at_call 124; (with_reducible refine c2.mono ?_); rintro e w2 ⟨rfl, h2, m2⟩; have k2 := (k1.mov m2).add h2.lt.1 h2.lt.2 (.cells #[.string rn, .int .i64 2, .string rp, .string rr] 177); have mm2 := (mm1.trans m2).alloc (.cells #[.string rn, .int .i64 2, .string rp, .string rr] 177); have h2a := h2.alloc (.cells #[.string rn, .int .i64 2, .string rp, .string rr] 177); have c3 := op_float n (by omega) (by omega) (w2.alloc (.cells #[.string rn, .int .i64 2, .string rp, .string rr] 177)); rw [hfl] at c3; clear h1 k1 mm1 m1 m2 h2 c2 x3)
    | (go_at_call 125; (with_reducible refine c3.mono ?_); rintro e w3 ⟨rfl, hb3⟩; have h3 := h2a.at' hb3; have k3 := k2.below hb3; have mm3 := mm2.then hb3; have hbx4 := box_at (k3.one).1; obtain ⟨p0, p1, p2, p3, _⟩ := hbx4; have hl3 := h3.lt; have S3 : InsSt w0 w B M T rest w3.heap.size (.int .i64 n) (.int .i64 0) (.int .i64 0) (.slice none 0 0) r1 (w3.alloc (.cells #[.int .i64 n, .int .i64 0, .int .i64 0, .slice none 0 0] 46)) := ⟨h3.alloc _, mm3.alloc _, (Below.heap_alloc w3 _ _ (in_heap6 (k3.rest.one).1)).trans (k3.rest.one).1, heap_alloc_new w3 _, n1, n2, (by omega), (by omega), in_heap6 (k3.rest.one).1, hw0⟩; have hlB := in_heap6 (k3.rest.one).1; have c5 := number_reads w0 B M T rest r1 _ S3.rd; clear mm3 k3 h3 hl3 h2a k2 mm2 c3 hb3)
    | (go_at_call 127; (with_reducible refine c5.mono ?_); rintro e w5 ⟨k, r5, rfl, g5, h5, m5, ok5⟩; have S5 := S3.call m5 h5; have o0 := ok5.1; have o1 := ok5.2; obtain ⟨⟨t0, t1, t2, t3, f0, f1, f2, f3⟩, e0, e1, e2, e3, z0, z1, z2, z3, nb, hlW⟩ := S5.facts; clear c5 S3 m5 h5; dsimp only [valInt]))
  refine bodyPost_ret (v := .agg #[.int .i64 n, .int .i64 k, .int .i64 0, .slice none 0 0]) ?_ rfl ?_
  · rw [results_one_cell rfl]; go_simp
  · have hl := ((S5.set (.int .i64 k)).1).done (.int .i64 n) (.int .i64 k) (.int .i64 0) (.slice none 0 0)
    exact ⟨bareI n k 0 [], r5, rfl, g1.and (by rw [if_neg (by rw [hfl]; simp; exact h17), hR]; exact g5.map fun a => bareI n a 0 []), hl.1, hl.2, insNew_nil _ _ _ _ _ (by unfold inI64; omega) (by unfold inI64; omega) (by unfold inI64; omega)⟩
theorem instr_s4 {w0 : World} (hLaid : Laid w0) {B M : Nat} {T : TypeId} {rest : List Value} {r : RV} {w : World} (h : RdAt w0 B M T rest r w) (n : Int) (r1 : RV) (hn : 0 ≤ n ∧ n < 256) (g1 : Got pOne r r1 n)
    (c1 : ∀ (B M : Nat) (T : TypeId) (rest : List Value) (w : World), RdAt w0 B M T rest r w → Calls Tryz.prog 114 #[.pointer (some ⟨B, 0, none⟩)] w fun e w' => e = .returned (.int .u8 n) ∧ RdAt w0 B M T rest r1 w' ∧ Mov B M w w') (rc : Int) (rn rp rr : ByteArray) (hR : byCode n = some ⟨rc, rn, 4, rp, rr⟩) :
    Calls Tryz.prog 51 #[.pointer (some ⟨B, 0, none⟩)] w (DidAs w0 B M T rest r w pIns InsV.bare InsV.val InsNew) := by
  have hn0 := hn.1
  have hn1 := hn.2
  have hlt := h.lt
  have hw0 := h.below.size
  have n1 : w.heap.size ≠ B := by omega
  have n2 : w.heap.size ≠ M := by omega
  have ha := h.alloc (.cells #[.int .i64 0, .int .i64 0, .int .i64 0, .slice none 0 0] 46)
  have ka := (Kept6.nil B M w).add hlt.1 hlt.2 (.cells #[.int .i64 0, .int .i64 0, .int .i64 0, .slice none 0 0] 46)
  clear h
  have h6 := byCode_6 hR
  have hfl : isFloat n = false := h6.1
  have h17 : ¬ n = 17 := h6.2.1
  have hq17 : (n == 17) = false := beq_eq_false_iff_ne.2 h17
  have hby : infoVal (byCode n) = .agg #[.string rn, .int .i64 4, .string rp, .string rr] ∧ (byCode n).isSome = true := by rw [hR]; exact ⟨rfl, rfl⟩
  obtain ⟨hby, hok⟩ := hby
  clear h6
  go_enter Tryz.func51, Tryz.ntmps51
  go_wp2_with (first
    | (go_at_call 114; (with_reducible refine (c1 _ _ _ _ _ ha).mono ?_); rintro e w1 ⟨rfl, h1, m1⟩; have k1 := ka.mov m1; have mm1 := ((Mov.refl B M w).alloc _).trans m1; obtain ⟨_, _, _, x3, _⟩ := h1.reads; have c2 := infos_of hLaid.spaces h1 n hn; rw [hby, hok] at c2; clear c1 ha ka)
    | (go_at_call 124; (with_reducible refine c2.mono ?_); rintro e w2 ⟨rfl, h2, m2⟩; have k2 := (k1.mov m2).add h2.lt.1 h2.lt.2 (.cells #[.string rn, .int .i64 4, .string rp, .string rr] 177); have mm2 := (mm1.trans m2).alloc (.cells #[.string rn, .int .i64 4, .string rp, .string rr] 177); have h2a := h2.alloc (.cells #[.string rn, .int .i64 4, .string rp, .string rr] 177); have c3 := op_float n (by omega) (by omega) (w2.alloc (.cells #[.string rn, .int .i64 4, .string rp, .string rr] 177)); rw [hfl] at c3; clear h1 k1 mm1 m1 m2 h2 c2 x3)
    | (go_at_call 125; (with_reducible refine c3.mono ?_); rintro e w3 ⟨rfl, hb3⟩; have h3 := h2a.at' hb3; have k3 := k2.below hb3; have mm3 := mm2.then hb3; have hbx4 := box_at (k3.one).1; obtain ⟨p0, p1, p2, p3, _⟩ := hbx4; have hl3 := h3.lt; have S3 : InsSt w0 w B M T rest w3.heap.size (.int .i64 n) (.int .i64 0) (.int .i64 0) (.slice none 0 0) r1 (w3.alloc (.cells #[.int .i64 n, .int .i64 0, .int .i64 0, .slice none 0 0] 46)) := ⟨h3.alloc _, mm3.alloc _, (Below.heap_alloc w3 _ _ (in_heap6 (k3.rest.one).1)).trans (k3.rest.one).1, heap_alloc_new w3 _, n1, n2, (by omega), (by omega), in_heap6 (k3.rest.one).1, hw0⟩; have hlB := in_heap6 (k3.rest.one).1; have c5 := number_reads w0 B M T rest r1 _ S3.rd; clear mm3 k3 h3 hl3 h2a k2 mm2 c3 hb3)
    | (go_at_call 127; (with_reducible refine c5.mono ?_); rintro e w5 ⟨k, r5, rfl, g5, h5, m5, ok5⟩; have S5 := S3.call m5 h5; have o0 := ok5.1; have o1 := ok5.2; obtain ⟨⟨t0, t1, t2, t3, f0, f1, f2, f3⟩, e0, e1, e2, e3, z0, z1, z2, z3, nb, hlW⟩ := S5.facts; clear c5 S3 m5 h5; dsimp only [valInt]))
  refine bodyPost_ret (v := .agg #[.int .i64 n, .int .i64 k, .int .i64 0, .slice none 0 0]) ?_ rfl ?_
  · rw [results_one_cell rfl]; go_simp
  · have hl := ((S5.set (.int .i64 k)).1).done (.int .i64 n) (.int .i64 k) (.int .i64 0) (.slice none 0 0)
    exact ⟨bareI n k 0 [], r5, rfl, g1.and (by rw [if_neg (by rw [hfl]; simp; exact h17), hR]; exact g5.map fun a => bareI n a 0 []), hl.1, hl.2, insNew_nil _ _ _ _ _ (by unfold inI64; omega) (by unfold inI64; omega) (by unfold inI64; omega)⟩
theorem instr_s5 {w0 : World} (hLaid : Laid w0) {B M : Nat} {T : TypeId} {rest : List Value} {r : RV} {w : World} (h : RdAt w0 B M T rest r w) (n : Int) (r1 : RV) (hn : 0 ≤ n ∧ n < 256) (g1 : Got pOne r r1 n)
    (c1 : ∀ (B M : Nat) (T : TypeId) (rest : List Value) (w : World), RdAt w0 B M T rest r w → Calls Tryz.prog 114 #[.pointer (some ⟨B, 0, none⟩)] w fun e w' => e = .returned (.int .u8 n) ∧ RdAt w0 B M T rest r1 w' ∧ Mov B M w w') (rc : Int) (rn rp rr : ByteArray) (hR : byCode n = some ⟨rc, rn, 5, rp, rr⟩) :
    Calls Tryz.prog 51 #[.pointer (some ⟨B, 0, none⟩)] w (DidAs w0 B M T rest r w pIns InsV.bare InsV.val InsNew) := by
  have hn0 := hn.1
  have hn1 := hn.2
  have hlt := h.lt
  have hw0 := h.below.size
  have n1 : w.heap.size ≠ B := by omega
  have n2 : w.heap.size ≠ M := by omega
  have ha := h.alloc (.cells #[.int .i64 0, .int .i64 0, .int .i64 0, .slice none 0 0] 46)
  have ka := (Kept6.nil B M w).add hlt.1 hlt.2 (.cells #[.int .i64 0, .int .i64 0, .int .i64 0, .slice none 0 0] 46)
  clear h
  have h6 := byCode_6 hR
  have hfl : isFloat n = false := h6.1
  have h17 : ¬ n = 17 := h6.2.1
  have hq17 : (n == 17) = false := beq_eq_false_iff_ne.2 h17
  have hby : infoVal (byCode n) = .agg #[.string rn, .int .i64 5, .string rp, .string rr] ∧ (byCode n).isSome = true := by rw [hR]; exact ⟨rfl, rfl⟩
  obtain ⟨hby, hok⟩ := hby
  clear h6
  go_enter Tryz.func51, Tryz.ntmps51
  go_wp2_with (first
    | (go_at_call 114; (with_reducible refine (c1 _ _ _ _ _ ha).mono ?_); rintro e w1 ⟨rfl, h1, m1⟩; have k1 := ka.mov m1; have mm1 := ((Mov.refl B M w).alloc _).trans m1; obtain ⟨_, _, _, x3, _⟩ := h1.reads; have c2 := infos_of hLaid.spaces h1 n hn; rw [hby, hok] at c2; clear c1 ha ka)
    | (go_at_call 124; (with_reducible refine c2.mono ?_); rintro e w2 ⟨rfl, h2, m2⟩; have k2 := (k1.mov m2).add h2.lt.1 h2.lt.2 (.cells #[.string rn, .int .i64 5, .string rp, .string rr] 177); have mm2 := (mm1.trans m2).alloc (.cells #[.string rn, .int .i64 5, .string rp, .string rr] 177); have h2a := h2.alloc (.cells #[.string rn, .int .i64 5, .string rp, .string rr] 177); have c3 := op_float n (by omega) (by omega) (w2.alloc (.cells #[.string rn, .int .i64 5, .string rp, .string rr] 177)); rw [hfl] at c3; clear h1 k1 mm1 m1 m2 h2 c2 x3)
    | (go_at_call 125; (with_reducible refine c3.mono ?_); rintro e w3 ⟨rfl, hb3⟩; have h3 := h2a.at' hb3; have k3 := k2.below hb3; have mm3 := mm2.then hb3; have hbx4 := box_at (k3.one).1; obtain ⟨p0, p1, p2, p3, _⟩ := hbx4; have hl3 := h3.lt; have S3 : InsSt w0 w B M T rest w3.heap.size (.int .i64 n) (.int .i64 0) (.int .i64 0) (.slice none 0 0) r1 (w3.alloc (.cells #[.int .i64 n, .int .i64 0, .int .i64 0, .slice none 0 0] 46)) := ⟨h3.alloc _, mm3.alloc _, (Below.heap_alloc w3 _ _ (in_heap6 (k3.rest.one).1)).trans (k3.rest.one).1, heap_alloc_new w3 _, n1, n2, (by omega), (by omega), in_heap6 (k3.rest.one).1, hw0⟩; have hlB := in_heap6 (k3.rest.one).1; have c5 := number_reads w0 B M T rest r1 _ S3.rd; clear mm3 k3 h3 hl3 h2a k2 mm2 c3 hb3)
    | (go_at_call 127; (with_reducible refine c5.mono ?_); rintro e w5 ⟨k, r5, rfl, g5, h5, m5, ok5⟩; have S5 := S3.call m5 h5; have o0 := ok5.1; have o1 := ok5.2; have S5s := (S5.set (.int .i64 k)).1; have c6 := number_reads w0 B M T rest r5 _ S5s.rd; obtain ⟨⟨t0, t1, t2, t3, f0, f1, f2, f3⟩, e0, e1, e2, e3, z0, z1, z2, z3, nb, hlW⟩ := S5.facts; clear c5 S3 m5 h5; dsimp only [valInt])
    | (go_at_call 127; (with_reducible refine c6.mono ?_); rintro e w6 ⟨j, r6, rfl, g6, h5, m5, ok6⟩; have S6 := S5s.call m5 h5; have p0 := ok6.1; have p1 := ok6.2; clear t0 t1 t2 t3 f0 f1 f2 f3 e0 e1 e2 e3 z0 z1 z2 z3 nb hlW; obtain ⟨⟨t0, t1, t2, t3, f0, f1, f2, f3⟩, e0, e1, e2, e3, z0, z1, z2, z3, nb, hlW⟩ := S6.facts; clear c6 S5s m5 h5; dsimp only [valInt]))
  refine bodyPost_ret (v := .agg #[.int .i64 n, .int .i64 k, .int .i64 j, .slice none 0 0]) ?_ rfl ?_
  · rw [results_one_cell rfl]; go_simp
  · have hl := ((S6.set (.int .i64 j)).2.1).done (.int .i64 n) (.int .i64 k) (.int .i64 j) (.slice none 0 0)
    exact ⟨bareI n k j [], r6, rfl, g1.and (by rw [if_neg (by rw [hfl]; simp; exact h17), hR]; exact g5.and (g6.map fun b => bareI n k b [])), hl.1, hl.2, insNew_nil _ _ _ _ _ (by unfold inI64; omega) (by unfold inI64; omega) (by unfold inI64; omega)⟩
theorem instr_s6 {w0 : World} (hLaid : Laid w0) {B M : Nat} {T : TypeId} {rest : List Value} {r : RV} {w : World} (h : RdAt w0 B M T rest r w) (n : Int) (r1 : RV) (hn : 0 ≤ n ∧ n < 256) (g1 : Got pOne r r1 n)
    (c1 : ∀ (B M : Nat) (T : TypeId) (rest : List Value) (w : World), RdAt w0 B M T rest r w → Calls Tryz.prog 114 #[.pointer (some ⟨B, 0, none⟩)] w fun e w' => e = .returned (.int .u8 n) ∧ RdAt w0 B M T rest r1 w' ∧ Mov B M w w') (rc : Int) (rn rp rr : ByteArray) (hR : byCode n = some ⟨rc, rn, 6, rp, rr⟩) :
    Calls Tryz.prog 51 #[.pointer (some ⟨B, 0, none⟩)] w (DidAs w0 B M T rest r w pIns InsV.bare InsV.val InsNew) := by
  have hn0 := hn.1
  have hn1 := hn.2
  have hlt := h.lt
  have hw0 := h.below.size
  have n1 : w.heap.size ≠ B := by omega
  have n2 : w.heap.size ≠ M := by omega
  have ha := h.alloc (.cells #[.int .i64 0, .int .i64 0, .int .i64 0, .slice none 0 0] 46)
  have ka := (Kept6.nil B M w).add hlt.1 hlt.2 (.cells #[.int .i64 0, .int .i64 0, .int .i64 0, .slice none 0 0] 46)
  clear h
  have h6 := byCode_6 hR
  have hfl : isFloat n = false := h6.1
  have h17 : ¬ n = 17 := h6.2.1
  have hq17 : (n == 17) = false := beq_eq_false_iff_ne.2 h17
  have hby : infoVal (byCode n) = .agg #[.string rn, .int .i64 6, .string rp, .string rr] ∧ (byCode n).isSome = true := by rw [hR]; exact ⟨rfl, rfl⟩
  obtain ⟨hby, hok⟩ := hby
  clear h6
  go_enter Tryz.func51, Tryz.ntmps51
  go_wp2_with (first
    | (go_at_call 114; (with_reducible refine (c1 _ _ _ _ _ ha).mono ?_); rintro e w1 ⟨rfl, h1, m1⟩; have k1 := ka.mov m1; have mm1 := ((Mov.refl B M w).alloc _).trans m1; obtain ⟨_, _, _, x3, _⟩ := h1.reads; have c2 := infos_of hLaid.spaces h1 n hn; rw [hby, hok] at c2; clear c1 ha ka)
    | (go_at_call 124; (with_reducible refine c2.mono ?_); rintro e w2 ⟨rfl, h2, m2⟩; have k2 := (k1.mov m2).add h2.lt.1 h2.lt.2 (.cells #[.string rn, .int .i64 6, .string rp, .string rr] 177); have mm2 := (mm1.trans m2).alloc (.cells #[.string rn, .int .i64 6, .string rp, .string rr] 177); have h2a := h2.alloc (.cells #[.string rn, .int .i64 6, .string rp, .string rr] 177); have c3 := op_float n (by omega) (by omega) (w2.alloc (.cells #[.string rn, .int .i64 6, .string rp, .string rr] 177)); rw [hfl] at c3; clear h1 k1 mm1 m1 m2 h2 c2 x3)
    | (go_at_call 125; (with_reducible refine c3.mono ?_); rintro e w3 ⟨rfl, hb3⟩; have h3 := h2a.at' hb3; have k3 := k2.below hb3; have mm3 := mm2.then hb3; have hbx4 := box_at (k3.one).1; obtain ⟨p0, p1, p2, p3, _⟩ := hbx4; have hl3 := h3.lt; have S3 : InsSt w0 w B M T rest w3.heap.size (.int .i64 n) (.int .i64 0) (.int .i64 0) (.slice none 0 0) r1 (w3.alloc (.cells #[.int .i64 n, .int .i64 0, .int .i64 0, .slice none 0 0] 46)) := ⟨h3.alloc _, mm3.alloc _, (Below.heap_alloc w3 _ _ (in_heap6 (k3.rest.one).1)).trans (k3.rest.one).1, heap_alloc_new w3 _, n1, n2, (by omega), (by omega), in_heap6 (k3.rest.one).1, hw0⟩; have hlB := in_heap6 (k3.rest.one).1; have c5 := is_reads S3.rd 0; clear mm3 k3 h3 hl3 h2a k2 mm2 c3 hb3)
    | (go_at_call 129; (with_reducible refine c5.mono ?_); rintro e w5 ⟨k, r5, rfl, g5, h5, m5, ok5⟩; have S5 := S3.call m5 h5; obtain ⟨⟨t0, t1, t2, t3, f0, f1, f2, f3⟩, e0, e1, e2, e3, z0, z1, z2, z3, nb, hlW⟩ := S5.facts; clear c5 S3 m5 h5; dsimp only [valUnit]))
  refine bodyPost_ret (v := .agg #[.int .i64 n, .int .i64 0, .int .i64 0, .slice none 0 0]) ?_ rfl ?_
  · rw [results_one_cell rfl]; go_simp
  · have hl := (S5).done (.int .i64 n) (.int .i64 0) (.int .i64 0) (.slice none 0 0)
    exact ⟨bareI n 0 0 [], r5, rfl, g1.and (by rw [if_neg (by rw [hfl]; simp; exact h17), hR]; exact g5.map fun _ => bareI n 0 0 []), hl.1, hl.2, insNew_nil _ _ _ _ _ (by unfold inI64; omega) (by unfold inI64; omega) (by unfold inI64; omega)⟩
theorem instr_s7 {w0 : World} (hLaid : Laid w0) {B M : Nat} {T : TypeId} {rest : List Value} {r : RV} {w : World} (h : RdAt w0 B M T rest r w) (n : Int) (r1 : RV) (hn : 0 ≤ n ∧ n < 256) (g1 : Got pOne r r1 n)
    (c1 : ∀ (B M : Nat) (T : TypeId) (rest : List Value) (w : World), RdAt w0 B M T rest r w → Calls Tryz.prog 114 #[.pointer (some ⟨B, 0, none⟩)] w fun e w' => e = .returned (.int .u8 n) ∧ RdAt w0 B M T rest r1 w' ∧ Mov B M w w') (rc : Int) (rn rp rr : ByteArray) (hR : byCode n = some ⟨rc, rn, 7, rp, rr⟩) :
    Calls Tryz.prog 51 #[.pointer (some ⟨B, 0, none⟩)] w (DidAs w0 B M T rest r w pIns InsV.bare InsV.val InsNew) := by
  have hn0 := hn.1
  have hn1 := hn.2
  have hlt := h.lt
  have hw0 := h.below.size
  have n1 : w.heap.size ≠ B := by omega
  have n2 : w.heap.size ≠ M := by omega
  have ha := h.alloc (.cells #[.int .i64 0, .int .i64 0, .int .i64 0, .slice none 0 0] 46)
  have ka := (Kept6.nil B M w).add hlt.1 hlt.2 (.cells #[.int .i64 0, .int .i64 0, .int .i64 0, .slice none 0 0] 46)
  clear h
  have h6 := byCode_6 hR
  have hfl : isFloat n = false := h6.1
  have h17 : ¬ n = 17 := h6.2.1
  have hq17 : (n == 17) = false := beq_eq_false_iff_ne.2 h17
  have hby : infoVal (byCode n) = .agg #[.string rn, .int .i64 7, .string rp, .string rr] ∧ (byCode n).isSome = true := by rw [hR]; exact ⟨rfl, rfl⟩
  obtain ⟨hby, hok⟩ := hby
  clear h6
  go_enter Tryz.func51, Tryz.ntmps51
  go_wp2_with (first
    | (go_at_call 114; (with_reducible refine (c1 _ _ _ _ _ ha).mono ?_); rintro e w1 ⟨rfl, h1, m1⟩; have k1 := ka.mov m1; have mm1 := ((Mov.refl B M w).alloc _).trans m1; obtain ⟨_, _, _, x3, _⟩ := h1.reads; have c2 := infos_of hLaid.spaces h1 n hn; rw [hby, hok] at c2; clear c1 ha ka)
    | (go_at_call 124; (with_reducible refine c2.mono ?_); rintro e w2 ⟨rfl, h2, m2⟩; have k2 := (k1.mov m2).add h2.lt.1 h2.lt.2 (.cells #[.string rn, .int .i64 7, .string rp, .string rr] 177); have mm2 := (mm1.trans m2).alloc (.cells #[.string rn, .int .i64 7, .string rp, .string rr] 177); have h2a := h2.alloc (.cells #[.string rn, .int .i64 7, .string rp, .string rr] 177); have c3 := op_float n (by omega) (by omega) (w2.alloc (.cells #[.string rn, .int .i64 7, .string rp, .string rr] 177)); rw [hfl] at c3; clear h1 k1 mm1 m1 m2 h2 c2 x3)
    | (go_at_call 125; (with_reducible refine c3.mono ?_); rintro e w3 ⟨rfl, hb3⟩; have h3 := h2a.at' hb3; have k3 := k2.below hb3; have mm3 := mm2.then hb3; have hbx4 := box_at (k3.one).1; obtain ⟨p0, p1, p2, p3, _⟩ := hbx4; have hl3 := h3.lt; have S3 : InsSt w0 w B M T rest w3.heap.size (.int .i64 n) (.int .i64 0) (.int .i64 0) (.slice none 0 0) r1 (w3.alloc (.cells #[.int .i64 n, .int .i64 0, .int .i64 0, .slice none 0 0] 46)) := ⟨h3.alloc _, mm3.alloc _, (Below.heap_alloc w3 _ _ (in_heap6 (k3.rest.one).1)).trans (k3.rest.one).1, heap_alloc_new w3 _, n1, n2, (by omega), (by omega), in_heap6 (k3.rest.one).1, hw0⟩; have hlB := in_heap6 (k3.rest.one).1; have c5 := signed_reads S3.rd n; clear mm3 k3 h3 hl3 h2a k2 mm2 c3 hb3)
    | (go_at_call 130; (with_reducible refine c5.mono ?_); rintro e w5 ⟨k, r5, rfl, g5, h5, m5, ok5⟩; have S5 := S3.call m5 h5; have o0 := ok5.1; have o1 := ok5.2; obtain ⟨⟨t0, t1, t2, t3, f0, f1, f2, f3⟩, e0, e1, e2, e3, z0, z1, z2, z3, nb, hlW⟩ := S5.facts; clear c5 S3 m5 h5; dsimp only [valInt]))
  refine bodyPost_ret (v := .agg #[.int .i64 n, .int .i64 k, .int .i64 0, .slice none 0 0]) ?_ rfl ?_
  · rw [results_one_cell rfl]; go_simp
  · have hl := ((S5.set (.int .i64 k)).1).done (.int .i64 n) (.int .i64 k) (.int .i64 0) (.slice none 0 0)
    exact ⟨bareI n k 0 [], r5, rfl, g1.and (by rw [if_neg (by rw [hfl]; simp; exact h17), hR]; exact g5.map fun a => bareI n a 0 []), hl.1, hl.2, insNew_nil _ _ _ _ _ (by unfold inI64; omega) (by unfold inI64; omega) (by unfold inI64; omega)⟩
theorem instr_s3 {w0 : World} (hLaid : Laid w0) {B M : Nat} {T : TypeId} {rest : List Value} {r : RV} {w : World} (h : RdAt w0 B M T rest r w) (n : Int) (r1 : RV) (hn : 0 ≤ n ∧ n < 256) (g1 : Got pOne r r1 n)
    (c1 : ∀ (B M : Nat) (T : TypeId) (rest : List Value) (w : World), RdAt w0 B M T rest r w → Calls Tryz.prog 114 #[.pointer (some ⟨B, 0, none⟩)] w fun e w' => e = .returned (.int .u8 n) ∧ RdAt w0 B M T rest r1 w' ∧ Mov B M w w') (rc : Int) (rn rp rr : ByteArray) (hR : byCode n = some ⟨rc, rn, 3, rp, rr⟩) :
    Calls Tryz.prog 51 #[.pointer (some ⟨B, 0, none⟩)] w (DidAs w0 B M T rest r w pIns InsV.bare InsV.val InsNew) := by
  have hn0 := hn.1
  have hn1 := hn.2
  have hlt := h.lt
  have hw0 := h.below.size
  have n1 : w.heap.size ≠ B := by omega
  have n2 : w.heap.size ≠ M := by omega
  have ha := h.alloc (.cells #[.int .i64 0, .int .i64 0, .int .i64 0, .slice none 0 0] 46)
  have ka := (Kept6.nil B M w).add hlt.1 hlt.2 (.cells #[.int .i64 0, .int .i64 0, .int .i64 0, .slice none 0 0] 46)
  clear h
  have h6 := byCode_6 hR
  have hfl : isFloat n = false := h6.1
  have h17 : ¬ n = 17 := h6.2.1
  have hq17 : (n == 17) = false := beq_eq_false_iff_ne.2 h17
  have hby : infoVal (byCode n) = .agg #[.string rn, .int .i64 3, .string rp, .string rr] ∧ (byCode n).isSome = true := by rw [hR]; exact ⟨rfl, rfl⟩
  obtain ⟨hby, hok⟩ := hby
  clear h6
  go_enter Tryz.func51, Tryz.ntmps51
  go_wp2_with (first
    | (go_at_call 114; (with_reducible refine (c1 _ _ _ _ _ ha).mono ?_); rintro e w1 ⟨rfl, h1, m1⟩; have k1 := ka.mov m1; have mm1 := ((Mov.refl B M w).alloc _).trans m1; obtain ⟨_, _, _, x3, _⟩ := h1.reads; have c2 := infos_of hLaid.spaces h1 n hn; rw [hby, hok] at c2; clear c1 ha ka)
    | (go_at_call 124; (with_reducible refine c2.mono ?_); rintro e w2 ⟨rfl, h2, m2⟩; have k2 := (k1.mov m2).add h2.lt.1 h2.lt.2 (.cells #[.string rn, .int .i64 3, .string rp, .string rr] 177); have mm2 := (mm1.trans m2).alloc (.cells #[.string rn, .int .i64 3, .string rp, .string rr] 177); have h2a := h2.alloc (.cells #[.string rn, .int .i64 3, .string rp, .string rr] 177); have c3 := op_float n (by omega) (by omega) (w2.alloc (.cells #[.string rn, .int .i64 3, .string rp, .string rr] 177)); rw [hfl] at c3; clear h1 k1 mm1 m1 m2 h2 c2 x3)
    | (go_at_call 125; (with_reducible refine c3.mono ?_); rintro e w3 ⟨rfl, hb3⟩; have h3 := h2a.at' hb3; have k3 := k2.below hb3; have mm3 := mm2.then hb3; have hbx4 := box_at (k3.one).1; obtain ⟨p0, p1, p2, p3, _⟩ := hbx4; have hl3 := h3.lt; have S3 : InsSt w0 w B M T rest w3.heap.size (.int .i64 n) (.int .i64 0) (.int .i64 0) (.slice none 0 0) r1 (w3.alloc (.cells #[.int .i64 n, .int .i64 0, .int .i64 0, .slice none 0 0] 46)) := ⟨h3.alloc _, mm3.alloc _, (Below.heap_alloc w3 _ _ (in_heap6 (k3.rest.one).1)).trans (k3.rest.one).1, heap_alloc_new w3 _, n1, n2, (by omega), (by omega), in_heap6 (k3.rest.one).1, hw0⟩; have hlB := in_heap6 (k3.rest.one).1; have c5 := numbers_reads S3.rd; clear mm3 k3 h3 hl3 h2a k2 mm2 c3 hb3)
    | (go_at_call 128; (with_reducible refine c5.mono ?_); rintro e w5 ⟨l, r5, v, rfl, g5, h5, m5, hown, hok5, hlen⟩; have S5 := S3.call m5 h5; obtain ⟨vp, vc, rfl⟩ := own_any6 hown; have hlt5 := S3.rd.lt; have hsz5 := S3.mov.size; have S5s := (S5.set (.slice vp l.length vc)).2.2; have hown5 := own_same (w' := w5.setCell ⟨w3.heap.size, 3, none⟩ (.slice vp l.length vc)) hown (fun g hg => Below.heap_setCell _ _ _ _ (by have := (own_lt6 hown g hg).1; have := in_heap6 S3.own; show g ≠ w3.heap.size; omega)); have hB5 : B < (w3.alloc (.cells #[.int .i64 n, .int .i64 0, .int .i64 0, .slice none 0 0] 46)).heap.size := S3.rd.lt.1; have hM5 := S3.rd.lt.2; have hbW := in_heap6 S3.own; have c6 := number_reads w0 B M T rest r5 _ S5s.rd; obtain ⟨⟨t0, t1, t2, t3, f0, f1, f2, f3⟩, e0, e1, e2, e3, z0, z1, z2, z3, nb, hlW⟩ := S5.facts; clear c5 S3 m5 h5)
    | (go_at_call 127; (with_reducible refine c6.mono ?_); rintro e w6 ⟨j, r6, rfl, g6, h5, m5, ok6⟩; have S6 := S5s.call m5 h5; have p0 := ok6.1; have p1 := ok6.2; have hown6 := own_mov hown5 m5 hB5 hM5; clear t0 t1 t2 t3 f0 f1 f2 f3 e0 e1 e2 e3 z0 z1 z2 z3 nb hlW; obtain ⟨⟨t0, t1, t2, t3, f0, f1, f2, f3⟩, e0, e1, e2, e3, z0, z1, z2, z3, nb, hlW⟩ := S6.facts; clear c6 S5s m5 h5; dsimp only [valInt]))
  refine bodyPost_ret (v := .agg #[.int .i64 n, .int .i64 j, .int .i64 0, .slice vp l.length vc]) ?_ rfl ?_
  · rw [results_one_cell rfl]; go_simp
  · have hl := ((S6.set (.int .i64 j)).1).done (.int .i64 n) (.int .i64 j) (.int .i64 0) (.slice vp l.length vc)
    exact ⟨⟨n, j, 0, vp, vc, l⟩, r6, rfl, g1.and (by rw [if_neg (by rw [hfl]; simp; exact h17), hR]; exact g5.and (g6.map fun a => bareI n a 0 l)), hl.1, hl.2, insNew_sets _ _ _ _ _ hown6 hbW S6.lt hok5 hlen hn p0 p1⟩
theorem instr_reads {w0 : World} (hLaid : Laid w0) {B M : Nat} {T : TypeId} {rest : List Value} {r : RV} {w : World} (h : RdAt w0 B M T rest r w) :
    Calls Tryz.prog 51 #[.pointer (some ⟨B, 0, none⟩)] w (DidAs w0 B M T rest r w pIns InsV.bare InsV.val InsNew) := by
  obtain ⟨n, r1, n0, n1, g1, c1⟩ := one_det w0 r
  have hn : 0 ≤ n ∧ n < 256 := ⟨n0, n1⟩
  cases hb : byCode n with
  | none =>
    cases hf : isFloat n with
    | true => exact instr_float hLaid h n r1 hn g1 c1 hb hf
    | false =>
      by_cases h17 : n = 17
      · exact instr_k17 hLaid h n r1 hn g1 c1 h17 hb hf
      · exact instr_none hLaid h n r1 hn g1 c1 h17 hb hf
  | some R =>
    have h6 := byCode_6 hb
    obtain ⟨rc, rn, s, rp, rr⟩ := R
    simp only at h6
    rcases (show s = 0 ∨ s = 1 ∨ s = 2 ∨ s = 3 ∨ s = 4 ∨ s = 5 ∨ s = 6 ∨ s = 7 by omega) with rfl | rfl | rfl | rfl | rfl | rfl | rfl | rfl
    · exact instr_s0 hLaid h n r1 hn g1 c1 rc rn rp rr hb
    · exact instr_s1 hLaid h n r1 hn g1 c1 rc rn rp rr hb
    · exact instr_s2 hLaid h n r1 hn g1 c1 rc rn rp rr hb
    · exact instr_s3 hLaid h n r1 hn g1 c1 rc rn rp rr hb
    · exact instr_s4 hLaid h n r1 hn g1 c1 rc rn rp rr hb
    · exact instr_s5 hLaid h n r1 hn g1 c1 rc rn rp rr hb
    · exact instr_s6 hLaid h n r1 hn g1 c1 rc rn rp rr hb
    · exact instr_s7 hLaid h n r1 hn g1 c1 rc rn rp rr hb
end Go.Proofs.YtdinpakclmnacaaGreatDoor
namespace Go.Proofs.YtdinpakclmnacaaGreatDoor
set_option maxRecDepth 100000
set_option maxHeartbeats 16000000
open Go.RowKit Go.Maps
set_option linter.unusedVariables false
def insAns (s : List UInt8) (place : Int) : InsV × Int × Int :=
  if place < 0 ∨ (s.length : Int) < place then (bareI 0 0 0 [], 0, 1)
  else match pIns (s.drop place.toNat) with
    | .bad e => (bareI 0 0 0 [], 0, e)
    | .ok x rest => (x, (s.length : Int) - rest.length, 0)
theorem results_cell_tmp2 {fn : Func} {p u v : Tmp} {ty : TypeId} (h : fn.results = #[.cell p ty, .tmp u, .tmp v]) (tmps : Array Value) (P : Program) (w : World) :
    (results fn tmps).run P w =
      ((asAddr (tmps.getD p undef)).run P w).andThen fun a w₁ => ((loadVar ty a).run P w₁).andThen fun x w₂ => .ok (.tuple #[x, tmps.getD u undef, tmps.getD v undef]) w₂ := by
  simp only [results, h]
  simp [Sem.run_bind, Result.andThen]
theorem intsAt_own {w : World} {base n c : Nat} {p : Option Addr} {l : List Int} (h : w.ownsRow base 3 1 (.slice p n c) n (l.flatMap rowInt)) (hn : l.length = n) : IntsAt w p l := by
  intro j hj
  have hl : (l.flatMap rowInt)[j]? = some (.int .i64 l[j]) := by
    have e : ∀ m : List Int, m.flatMap rowInt = m.map (.int .i64) := fun m => by induction m with
      | nil => rfl
      | cons a m ih => rw [List.flatMap_cons, ih]; rfl
    rw [e, List.getElem?_map, List.getElem?_eq_getElem hj]; rfl
  rcases h.2 with ⟨h0, h1⟩ | ⟨g, cap, cur, hv, _, hg, _⟩
  · exfalso; omega
  · injection hv with hp _ _
    subst hp
    have := World.ownsRow.cells h (g := g) rfl j _ hl
    rw [Go.WideShapes.add_plain] at this
    exact ⟨g, 0, rfl, in_heap6 hg, this⟩
theorem InsNew.insAt {w w' : World} {x : InsV} (h : InsNew w w' x) : InsAt w' x :=
  ⟨intsAt_own h.1 rfl, by have := h.2.1; omega, h.2.2.2.1, h.2.2.2.2.1, h.2.2.2.2.2, fun n hn => by have := h.2.2.1 n hn; unfold inI64; omega⟩
theorem InsNew.same {w w' w2 : World} {x : InsV} (h : InsNew w w' x) (hs : ∀ g, w.heap.size ≤ g → w2.heap[g]? = w'.heap[g]?) : InsNew w w2 x :=
  ⟨own_same h.1 fun g hg => hs g (own_lt6 h.1 g hg).1, h.2⟩
theorem InsNew.down {w w0 w' : World} {x : InsV} (h : InsNew w w' x) (hw : w0.heap.size ≤ w.heap.size) : InsNew w0 w' x := ⟨own_down h.1 hw, h.2⟩
theorem new_reader (s : ByteArray) (a : Int) (w : World) :
    Calls Tryz.prog 38 #[.string s, .int .i64 a] w fun e w' => ∃ M, e = .returned (.agg #[.string s, .int .i64 a, .int .i64 0, .map (some M)]) ∧ w.heap.size ≤ M ∧ Infos M w' (.map []) ∧ Below w.heap.size w w' := by
  have hmm := @run_makeMap Tryz.prog
  have hB1 := (Below.refl w.heap.size w).alloc (Nat.le_refl _) (.cells #[.string ⟨#[]⟩, .int .i64 0, .int .i64 0, .map none] 98)
  go_enter Tryz.func38, Tryz.ntmps38
  go_wp2
  refine bodyPost_ret (v := .agg #[.string s, .int .i64 a, .int .i64 0, .map (some (w.heap.size + 1))]) ?_ rfl ?_
  · rw [results_one_cell rfl]; go_simp
  · have hB := (Below.refl w.heap.size w).alloc (Nat.le_refl _) (.cells #[.string s, .int .i64 a, .int .i64 0, .map (some (w.heap.size + 1))] 98)
    have ho := World.ownsMap_made (w.alloc (.cells #[.string s, .int .i64 a, .int .i64 0, .map (some (w.heap.size + 1))] 98)) Tryz.prog 3 (infoRead (H := Unit))
    have hsz : (w.alloc (.cells #[.string s, .int .i64 a, .int .i64 0, .map (some (w.heap.size + 1))] 98)).heap.size = w.heap.size + 1 := by simp
    rw [hsz] at ho
    exact ⟨w.heap.size + 1, rfl, by omega, ⟨ho.mono (Nat.zero_le _), isMap_empty, fun c hc => by cases hc⟩, hB.alloc (by omega) _⟩
theorem sets4_box {W : World} {b : Nat} {u0 u1 u2 u3 : Value} {t : TypeId} (v0 v1 v2 v3 : Value) (h : W.heap[b]? = some (.cells #[u0, u1, u2, u3] t)) : ((((W.setCell ⟨b, 0, none⟩ v0).setCell ⟨b, 1, none⟩ v1).setCell ⟨b, 2, none⟩ v2).setCell ⟨b, 3, none⟩ v3).heap[b]? = some (.cells #[v0, v1, v2, v3] t) := by
  simp [World.setCell, Array.getElem?_modify, h]
theorem sets4_other {W : World} {b g : Nat} (v0 v1 v2 v3 : Value) (h : g ≠ b) : ((((W.setCell ⟨b, 0, none⟩ v0).setCell ⟨b, 1, none⟩ v1).setCell ⟨b, 2, none⟩ v2).setCell ⟨b, 3, none⟩ v3).heap[g]? = W.heap[g]? :=
  (Below.heap_setCell _ _ _ _ h).trans ((Below.heap_setCell _ _ _ _ h).trans ((Below.heap_setCell _ _ _ _ h).trans (Below.heap_setCell _ _ _ _ h)))
def AnsIns (s : ByteArray) (a : Int) (w : World) (e : Ending) (w' : World) : Prop :=
  ∃ x, e = .returned (.tuple #[x.val, .int .i64 (insAns s.data.toList a).2.1, .int .i64 (insAns s.data.toList a).2.2]) ∧ x.bare = (insAns s.data.toList a).1 ∧ InsNew w w' x ∧ Below w.heap.size w w'
theorem rem_len {r : RV} (h : r.pos ≤ r.s.size) : (r.pos : Int) = (r.s.data.toList.length : Int) - r.rem.length := by
  unfold RV.rem
  rw [List.length_drop, Array.length_toList]
  have e : r.s.size = r.s.data.size := rfl
  omega
theorem zero_new (w w' : World) : InsNew w w' (bareI 0 0 0 []) := insNew_nil _ _ _ _ _ ⟨by decide, by decide⟩ ⟨by decide, by decide⟩ ⟨by decide, by decide⟩
theorem dec_instr_out (s : ByteArray) (a : Int) (ha : a < 0 ∨ (s.size : Int) < a) (w : World) : Calls Tryz.prog 16 #[.string s, .int .i64 a] w (AnsIns s a w) := by
  have hans : insAns s.data.toList a = (bareI 0 0 0 [], 0, 1) := by unfold insAns; rw [if_pos (by rw [Array.length_toList]; exact ha)]
  have hB := (Below.refl w.heap.size w).alloc (Nat.le_refl _) (.cells #[.int .i64 0, .int .i64 0, .int .i64 0, .slice none 0 0] 46)
  by_cases h0 : a < 0
  · go_enter Tryz.func16, Tryz.ntmps16
    go_wp2
    refine bodyPost_ret (v := .tuple #[.agg #[.int .i64 0, .int .i64 0, .int .i64 0, .slice none 0 0], .int .i64 0, .int .i64 1]) ?_ rfl ?_
    · rw [results_cell_tmp2 rfl]; go_simp
    · exact ⟨bareI 0 0 0 [], by rw [hans]; rfl, by rw [hans]; rfl, zero_new _ _, hB⟩
  · have h1 : (s.size : Int) < a := by omega
    go_enter Tryz.func16, Tryz.ntmps16
    go_wp2
    refine bodyPost_ret (v := .tuple #[.agg #[.int .i64 0, .int .i64 0, .int .i64 0, .slice none 0 0], .int .i64 0, .int .i64 1]) ?_ rfl ?_
    · rw [results_cell_tmp2 rfl]; go_simp
    · exact ⟨bareI 0 0 0 [], by rw [hans]; rfl, by rw [hans]; rfl, zero_new _ _, hB⟩
theorem dec_instr_in (s : ByteArray) (a : Nat) (ha : a ≤ s.size) (hs : s.size ≤ 281474976710656) (w : World) (hLaid : Laid w) : Calls Tryz.prog 16 #[.string s, .int .i64 a] w (AnsIns s a w) := by
  have q0 : ¬ (a : Int) < 0 := by omega
  have q1 : ¬ (s.size : Int) < a := by omega
  have hres := heap_alloc_new w (.cells #[.int .i64 0, .int .i64 0, .int .i64 0, .slice none 0 0] 46)
  have hB := (Below.refl w.heap.size w).alloc (Nat.le_refl _) (.cells #[.int .i64 0, .int .i64 0, .int .i64 0, .slice none 0 0] 46)
  have hwa : (w.alloc (.cells #[.int .i64 0, .int .i64 0, .int .i64 0, .slice none 0 0] 46)).heap.size = w.heap.size + 1 := by simp
  have c1 := new_reader s a (w.alloc (.cells #[.int .i64 0, .int .i64 0, .int .i64 0, .slice none 0 0] 46))
  go_enter Tryz.func16, Tryz.ntmps16
  go_wp2_with (first
    | (go_at_call 38; (with_reducible refine c1.mono ?_); rintro e w1 ⟨M, rfl, hM, hD, hb1⟩; have hs1 := hb1.size; have hM1 := ownsMap_in hD.own; have hb0 := (hb1.block w.heap.size (by omega)).trans hres; have hB1 := hB.trans (hb1.mono hB.size); have hr : RdAt w w1.heap.size M 98 [] ⟨s, a, 0⟩ (w1.alloc (.cells #[.string s, .int .i64 a, .int .i64 0, .map (some M)] 98)) := ⟨hB1.alloc hB1.size _, heap_alloc_new w1 _, ⟨_, hD.same (Below.heap_alloc _ _ _ hM1)⟩, (by omega), hB1.size, (by omega), hs, ha⟩; have c2 := instr_reads hLaid hr; clear c1 hres hD hb1)
    | (go_at_call 51; (with_reducible refine c2.mono ?_); rintro e w2 ⟨⟨op, xa, xb, lp, lc, ls⟩, r2, rfl, g2, h2, m2, hn2⟩; have hb2 := (m2.block w.heap.size (by simp; omega) (by omega) (by omega)).trans ((Below.heap_alloc w1 _ _ (by omega)).trans hb0); obtain ⟨k0, k1, k2, k3, e0, e1, e2, e3, z0, z1, z2, z3⟩ := box_at hb2; obtain ⟨x0, x1, x2, x3, y0, y1, y2, y3⟩ := h2.reads; have hne : w.heap.size ≠ w1.heap.size := (by omega); have hlt2 := in_heap6 hb2; clear c2 hb0 hr; dsimp only [InsV.val]))
  all_goals
    have hW0 := sets4_box (.int .i64 op) (.int .i64 xa) (.int .i64 xb) (.slice lp ls.length lc) hb2
    have hl := (last4 h2 ((Mov.of_below (hB1.alloc hB1.size _)).trans m2) (b := w.heap.size) (.int .i64 op) (.int .i64 xa) (.int .i64 xb) (.slice lp ls.length lc) (by omega) (by omega) (Nat.le_refl _) (Nat.le_refl _)).1
    have hN : InsNew (w1.alloc (.cells #[.string s, .int .i64 a, .int .i64 0, .map (some M)] 98)) ((((w2.setCell ⟨w.heap.size, 0, none⟩ (.int .i64 op)).setCell ⟨w.heap.size, 1, none⟩ (.int .i64 xa)).setCell ⟨w.heap.size, 2, none⟩ (.int .i64 xb)).setCell ⟨w.heap.size, 3, none⟩ (.slice lp ls.length lc)) ⟨op, xa, xb, lp, lc, ls⟩ := hn2.same fun g hg => sets4_other _ _ _ _ (by simp at hg; omega)
    clear x0 x1 x2 x3 y0 y1 y2 y3 k0 k1 k2 k3 e0 e1 e2 e3 z0 z1 z2 z3 h2 hb2 hn2 m2
    generalize (((w2.setCell ⟨w.heap.size, 0, none⟩ (.int .i64 op)).setCell ⟨w.heap.size, 1, none⟩ (.int .i64 xa)).setCell ⟨w.heap.size, 2, none⟩ (.int .i64 xb)).setCell ⟨w.heap.size, 3, none⟩ (.slice lp ls.length lc) = W at *
    obtain ⟨k0, k1, k2, k3, e0, e1, e2, e3, z0, z1, z2, z3⟩ := box_at hW0
    obtain ⟨x0, x1, x2, x3, y0, y1, y2, y3⟩ := hl.reads
  · have hq : (r2.e != 0) = true := by assumption
    have hans : insAns s.data.toList a = (bareI 0 0 0 [], 0, r2.e) := by
      unfold insAns
      rw [if_neg (by rw [Array.length_toList]; have e : s.size = s.data.size := rfl; omega), Int.toNat_natCast]
      rcases g2.2 with ⟨g3, _⟩ | ⟨_, g3, _⟩ | ⟨_, g3, g4⟩
      · exact absurd rfl g3
      · rw [g3] at hq; cases hq
      · rw [show s.data.toList.drop a = (⟨s, a, 0⟩ : RV).rem from rfl, g4]
    have hbel := hl.below
    clear hW0 hN hl g2
    go_region
    all_goals
      go_wp2
      refine bodyPost_ret (v := .tuple #[.agg #[.int .i64 0, .int .i64 0, .int .i64 0, .slice none 0 0], .int .i64 0, .int .i64 r2.e]) ?_ rfl ?_
      · rw [results_cell_tmp2 rfl]; go_simp
      · exact ⟨bareI 0 0 0 [], by rw [hans]; rfl, by rw [hans]; rfl, zero_new _ _, ((((hbel.setCell (Nat.le_refl _) _).setCell (Nat.le_refl _) _).setCell (Nat.le_refl _) _).setCell (Nat.le_refl _) _).drew⟩
  · have hq : r2.e = 0 := by
      have h0 : (r2.e != 0) = false := by assumption
      simpa using h0
    have hans : insAns s.data.toList a = ((⟨op, xa, xb, lp, lc, ls⟩ : InsV).bare, (r2.pos : Int), 0) := by
      unfold insAns
      rw [if_neg (by rw [Array.length_toList]; have e : s.size = s.data.size := rfl; omega), Int.toNat_natCast]
      have hs2 : r2.s = s := g2.1
      rcases g2.2 with ⟨g3, _⟩ | ⟨_, _, g4⟩ | ⟨_, g3, _⟩
      · exact absurd rfl g3
      · rw [show s.data.toList.drop a = (⟨s, a, 0⟩ : RV).rem from rfl, g4]
        simp only
        rw [rem_len hl.pos, hs2]
      · exact absurd hq g3
    have hbel := hl.below
    have HQ := Lib.hid hq
    clear hW0 hl g2 hq
    go_region
    all_goals
      go_wp2
      refine bodyPost_ret (v := .tuple #[.agg #[.int .i64 op, .int .i64 xa, .int .i64 xb, .slice lp ls.length lc], .int .i64 r2.pos, .int .i64 0]) ?_ rfl ?_
      · rw [results_cell_tmp2 rfl]; go_simp
      · refine ⟨⟨op, xa, xb, lp, lc, ls⟩, by rw [hans]; rfl, by rw [hans], ?_, ((((hbel.setCell (Nat.le_refl _) _).setCell (Nat.le_refl _) _).setCell (Nat.le_refl _) _).setCell (Nat.le_refl _) _).drew⟩
        exact InsNew.down (hN.same fun g hg => sets4_other _ _ _ _ (by simp at hg; omega)) (by simp; omega)
theorem dec_instr (s : ByteArray) (a : Int) (hs : s.size ≤ 281474976710656) (w : World) (hLaid : Laid w) : Calls Tryz.prog 16 #[.string s, .int .i64 a] w (AnsIns s a w) := by
  by_cases ha : a < 0 ∨ (s.size : Int) < a
  · exact dec_instr_out s a ha w
  · obtain ⟨k, rfl⟩ := Int.eq_ofNat_of_zero_le (show 0 ≤ a by omega)
    exact dec_instr_in s k (by omega) hs w hLaid
end Go.Proofs.YtdinpakclmnacaaGreatDoor
