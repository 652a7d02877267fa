/-
  Package dec reads an instruction: what is held on the way. Facts that the proofs call; no statement is proved here.
-/
import Derived.Test.YthfipknfdnfalaaGreatDoorKcDecInf
import Derived.Test.YthfipknfdnfalaaGreatDoorKcDecLsA
import Derived.Test.YthfipknfdnfalaaGreatDoorKcOpSome
import Derived.Test.YthfipknfdnfalaaGreatDoorKcEncRefM
namespace Go.Proofs.YthfipknfdnfalaaGreatDoor
set_option maxRecDepth 100000
set_option maxHeartbeats 16000000
open Go.RowKit
set_option linter.unusedVariables false
theorem one_det (w0 : World) (r : RV) : ∃ n r1, 0 ≤ n ∧ n < 256 ∧ Got pOne r r1 n ∧ ∀ (B M : Nat) (T : TypeId) (rest : List Value) (w : World), RdAt w0 B M T rest r w →
    Calls Tryz.prog 137 #[.pointer (some ⟨B, 0, none⟩)] w fun e w' => e = .returned (.int .u8 n) ∧ RdAt w0 B M T rest r1 w' ∧ Mov B M w w' := by
  by_cases hlt : r.pos < r.s.size
  · have hb := UInt8.toNat_lt r.s[r.pos]
    exact ⟨(r.s[r.pos].toNat : Int), ⟨r.s, r.pos + 1, r.e⟩, by omega, by omega, got_one hlt, fun B M T rest w h => one_yes hlt h⟩
  · exact ⟨0, r.bad 2, by decide, by decide, got_end (by omega), fun B M T rest w h => one_no (by omega) h⟩
def Kept6 (B M : Nat) (l : List (Nat × Obj)) (W : World) : Prop := ∀ p ∈ l, W.heap[p.1]? = some p.2 ∧ p.1 ≠ B ∧ p.1 ≠ M
theorem Kept6.mov {B M : Nat} {l : List (Nat × Obj)} {W W' : World} (h : Kept6 B M l W) (hm : Mov B M W W') : Kept6 B M l W' := fun p hp => by
  obtain ⟨h1, h2, h3⟩ := h p hp
  exact ⟨(hm.block _ (in_heap6 h1) h2 h3).trans h1, h2, h3⟩
theorem Kept6.below {B M : Nat} {l : List (Nat × Obj)} {W W' : World} (h : Kept6 B M l W) (hm : Below W.heap.size W W') : Kept6 B M l W' := h.mov (Mov.of_below hm)
theorem Kept6.alloc {B M : Nat} {l : List (Nat × Obj)} {W : World} (h : Kept6 B M l W) (o : Obj) : Kept6 B M l (W.alloc o) := h.mov ((Mov.refl _ _ _).alloc o)
theorem Kept6.add {B M : Nat} {l : List (Nat × Obj)} {W : World} (h : Kept6 B M l W) (hB : B < W.heap.size) (hM : M < W.heap.size) (o : Obj) : Kept6 B M ((W.heap.size, o) :: l) (W.alloc o) := fun p hp => by
  rcases List.mem_cons.1 hp with rfl | hp
  · exact ⟨heap_alloc_new W o, by show W.heap.size ≠ B; omega, by show W.heap.size ≠ M; omega⟩
  · exact h.alloc o p hp
theorem Kept6.nil (B M : Nat) (W : World) : Kept6 B M [] W := fun p hp => by cases hp
theorem Kept6.one {B M b : Nat} {o : Obj} {l : List (Nat × Obj)} {W : World} (h : Kept6 B M ((b, o) :: l) W) : W.heap[b]? = some o ∧ b ≠ B ∧ b ≠ M := h (b, o) (List.mem_cons_self ..)
theorem Kept6.rest {B M : Nat} {p : Nat × Obj} {l : List (Nat × Obj)} {W : World} (h : Kept6 B M (p :: l) W) : Kept6 B M l W := fun q hq => h q (List.mem_cons_of_mem _ hq)
theorem box_at {W : World} {b : Nat} {u0 u1 u2 u3 : Value} {t : TypeId} (h : W.heap[b]? = some (.cells #[u0, u1, u2, u3] t)) :
    (∀ o, (W.alloc o).cell? ⟨b, 0, none⟩ = some u0) ∧ (∀ o, (W.alloc o).cell? ⟨b, 1, none⟩ = some u1) ∧ (∀ o, (W.alloc o).cell? ⟨b, 2, none⟩ = some u2) ∧ (∀ o, (W.alloc o).cell? ⟨b, 3, none⟩ = some u3) ∧
    W.cell? ⟨b, 0, none⟩ = some u0 ∧ W.cell? ⟨b, 1, none⟩ = some u1 ∧ W.cell? ⟨b, 2, none⟩ = some u2 ∧ W.cell? ⟨b, 3, none⟩ = some u3 ∧
    W.frozen? ⟨b, 0, none⟩ = false ∧ W.frozen? ⟨b, 1, none⟩ = false ∧ W.frozen? ⟨b, 2, none⟩ = false ∧ W.frozen? ⟨b, 3, none⟩ = false := by
  have hl := in_heap6 h
  obtain ⟨_, c0, c1, c2, c3⟩ := box6_4 h
  have z := fun j => (by simp [World.frozen?, h] : W.frozen? ⟨b, j, none⟩ = false)
  exact ⟨fun o => (World.cell?_alloc_lt W o _ hl).trans c0, fun o => (World.cell?_alloc_lt W o _ hl).trans c1, fun o => (World.cell?_alloc_lt W o _ hl).trans c2, fun o => (World.cell?_alloc_lt W o _ hl).trans c3, c0, c1, c2, c3, z 0, z 1, z 2, z 3⟩
def InsNew (w w' : World) (x : InsV) : Prop :=
  w'.ownsRow w.heap.size 3 1 (.slice x.lp x.ls.length x.lc) x.ls.length (x.ls.flatMap rowInt) ∧ x.ls.length ≤ 4096 ∧ (∀ n ∈ x.ls, 0 ≤ n ∧ n < 4294967296) ∧ inI64 x.op ∧ inI64 x.a ∧ inI64 x.b
def DidAs {α β : Type} (w0 : World) (B M : Nat) (T : TypeId) (rest : List Value) (r : RV) (w : World) (P : Pr β) (f : α → β) (val : α → Value) (ok : World → World → α → Prop) (e : Ending) (w' : World) : Prop :=
  ∃ x r', e = .returned (val x) ∧ Got P r r' (f x) ∧ RdAt w0 B M T rest r' w' ∧ Mov B M w w' ∧ ok w w' x
theorem insNew_nil (w w' : World) (op a b : Int) (h1 : inI64 op) (h2 : inI64 a) (h3 : inI64 b) : InsNew w w' (bareI op a b []) := ⟨World.ownsRow_nil _ _ _ _, by simp [bareI], fun n hn => by simp [bareI] at hn, h1, h2, h3⟩
theorem last4 {w0 : World} {B M : Nat} {T : TypeId} {rest : List Value} {r : RV} {w W : World} (h : RdAt w0 B M T rest r W) (m : Mov B M w W) {b : Nat} (v0 v1 v2 v3 : Value) (n1 : b ≠ B) (n2 : b ≠ M) (h0 : w0.heap.size ≤ b) (hb : w.heap.size ≤ b) :
    RdAt w0 B M T rest r ((((W.setCell ⟨b, 0, none⟩ v0).setCell ⟨b, 1, none⟩ v1).setCell ⟨b, 2, none⟩ v2).setCell ⟨b, 3, none⟩ v3) ∧ Mov B M w ((((W.setCell ⟨b, 0, none⟩ v0).setCell ⟨b, 1, none⟩ v1).setCell ⟨b, 2, none⟩ v2).setCell ⟨b, 3, none⟩ v3) :=
  ⟨(((h.other 0 _ n1 n2 h0).other 1 _ n1 n2 h0).other 2 _ n1 n2 h0).other 3 _ n1 n2 h0, (((m.setNew 0 _ hb).setNew 1 _ hb).setNew 2 _ hb).setNew 3 _ hb⟩
theorem own_down {w : World} {base b2 e sz n : Nat} {v : Value} {xs : List Value} (h : w.ownsRow base e sz v n xs) (hb : b2 ≤ base) : w.ownsRow b2 e sz v n xs := by
  obtain ⟨hl, h | ⟨g, cap, cur, hv, hbg, hr⟩⟩ := h
  · exact ⟨hl, .inl h⟩
  · exact ⟨hl, .inr ⟨g, cap, cur, hv, Nat.le_trans hb hbg, hr⟩⟩
structure InsSt (w0 w : World) (B M : Nat) (T : TypeId) (rest : List Value) (b : Nat) (u0 u1 u2 u3 : Value) (r : RV) (W : World) : Prop where
  rd : RdAt w0 B M T rest r W
  mov : Mov B M w W
  res : W.heap[w.heap.size]? = some (.cells #[.int .i64 0, .int .i64 0, .int .i64 0, .slice none 0 0] 46)
  own : W.heap[b]? = some (.cells #[u0, u1, u2, u3] 46)
  n1 : w.heap.size ≠ B
  n2 : w.heap.size ≠ M
  n3 : b ≠ B
  n4 : b ≠ M
  lt : w.heap.size < b
  hw : w0.heap.size ≤ w.heap.size
theorem InsSt.call {w0 w : World} {B M : Nat} {T : TypeId} {rest : List Value} {b : Nat} {u0 u1 u2 u3 : Value} {r r' : RV} {W W' : World} (h : InsSt w0 w B M T rest b u0 u1 u2 u3 r W) (m : Mov B M W W') (hr : RdAt w0 B M T rest r' W') : InsSt w0 w B M T rest b u0 u1 u2 u3 r' W' :=
  ⟨hr, h.mov.trans m, (m.block _ (in_heap6 h.res) h.n1 h.n2).trans h.res, (m.block _ (in_heap6 h.own) h.n3 h.n4).trans h.own, h.n1, h.n2, h.n3, h.n4, h.lt, h.hw⟩
theorem InsSt.set {w0 w : World} {B M : Nat} {T : TypeId} {rest : List Value} {b : Nat} {u0 u1 u2 u3 : Value} {r : RV} {W : World} (h : InsSt w0 w B M T rest b u0 u1 u2 u3 r W) (v : Value) :
    InsSt w0 w B M T rest b u0 v u2 u3 r (W.setCell ⟨b, 1, none⟩ v) ∧ InsSt w0 w B M T rest b u0 u1 v u3 r (W.setCell ⟨b, 2, none⟩ v) ∧ InsSt w0 w B M T rest b u0 u1 u2 v r (W.setCell ⟨b, 3, none⟩ v) := by
  have h0 := Nat.le_trans h.hw (Nat.le_of_lt h.lt)
  have hne := Nat.ne_of_lt h.lt
  have hb := Nat.le_of_lt h.lt
  refine ⟨⟨h.rd.other 1 v h.n3 h.n4 h0, h.mov.setNew 1 v hb, (Below.heap_setCell _ _ _ _ hne).trans h.res, ?_, h.n1, h.n2, h.n3, h.n4, h.lt, h.hw⟩, ⟨h.rd.other 2 v h.n3 h.n4 h0, h.mov.setNew 2 v hb, (Below.heap_setCell _ _ _ _ hne).trans h.res, ?_, h.n1, h.n2, h.n3, h.n4, h.lt, h.hw⟩, ⟨h.rd.other 3 v h.n3 h.n4 h0, h.mov.setNew 3 v hb, (Below.heap_setCell _ _ _ _ hne).trans h.res, ?_, h.n1, h.n2, h.n3, h.n4, h.lt, h.hw⟩⟩ <;> simp [World.setCell, Array.getElem?_modify, h.own]
theorem InsSt.facts {w0 w : World} {B M : Nat} {T : TypeId} {rest : List Value} {b : Nat} {u0 u1 u2 u3 : Value} {r : RV} {W : World} (h : InsSt w0 w B M T rest b u0 u1 u2 u3 r W) :
    (W.cell? ⟨w.heap.size, 0, none⟩ = some (.int .i64 0) ∧ W.cell? ⟨w.heap.size, 1, none⟩ = some (.int .i64 0) ∧ W.cell? ⟨w.heap.size, 2, none⟩ = some (.int .i64 0) ∧ W.cell? ⟨w.heap.size, 3, none⟩ = some (.slice none 0 0) ∧
    W.frozen? ⟨w.heap.size, 0, none⟩ = false ∧ W.frozen? ⟨w.heap.size, 1, none⟩ = false ∧ W.frozen? ⟨w.heap.size, 2, none⟩ = false ∧ W.frozen? ⟨w.heap.size, 3, none⟩ = false) ∧
    W.cell? ⟨b, 0, none⟩ = some u0 ∧ W.cell? ⟨b, 1, none⟩ = some u1 ∧ W.cell? ⟨b, 2, none⟩ = some u2 ∧ W.cell? ⟨b, 3, none⟩ = some u3 ∧
    W.frozen? ⟨b, 0, none⟩ = false ∧ W.frozen? ⟨b, 1, none⟩ = false ∧ W.frozen? ⟨b, 2, none⟩ = false ∧ W.frozen? ⟨b, 3, none⟩ = false ∧ w.heap.size ≠ b ∧ w.heap.size < W.heap.size :=
  ⟨(box_at h.res).2.2.2.2, (box_at h.own).2.2.2.2.1, (box_at h.own).2.2.2.2.2.1, (box_at h.own).2.2.2.2.2.2.1, (box_at h.own).2.2.2.2.2.2.2.1, (box_at h.own).2.2.2.2.2.2.2.2.1, (box_at h.own).2.2.2.2.2.2.2.2.2.1, (box_at h.own).2.2.2.2.2.2.2.2.2.2.1, (box_at h.own).2.2.2.2.2.2.2.2.2.2.2, Nat.ne_of_lt h.lt, in_heap6 h.res⟩
theorem Got.congr {α : Type} {P Q : Pr α} {r r' : RV} {x : α} (h : Got P r r' x) (e : ∀ l, P l = Q l) : Got Q r r' x := by
  obtain ⟨h1, h2⟩ := h
  rw [e] at h2
  exact ⟨h1, h2⟩
theorem got_tail1 {n k : Int} {r r' : RV} (h : Got (pOne.and fun k => if k = 64 then .val k else (pKind k).and fun _ => .val k) r r' k) : Got (pTail 1 n) r r' (bareI n k 0 []) := by
  refine (h.map fun k => bareI n k 0 []).congr fun l => ?_
  unfold pTail
  rw [if_pos rfl]
  cases l with
  | nil => rfl
  | cons b l =>
    unfold Pr.and pOne
    simp only
    by_cases hk : (b.toNat : Int) = 64
    · rw [if_pos hk, if_pos hk]; rfl
    · rw [if_neg hk, if_neg hk]
      unfold Pr.val
      cases pKind (b.toNat : Int) l <;> rfl
theorem insNew_list {w W3 w' : World} {n j : Int} {vp : Option Addr} {vc : Nat} {l : List Int} (h : w'.ownsRow W3.heap.size 3 1 (.slice vp l.length vc) l.length (l.flatMap rowInt)) (hs : w.heap.size ≤ W3.heap.size) (hok : ∀ x ∈ l, 0 ≤ x ∧ x < 4294967296) (hl : l.length ≤ 4096) (hn : 0 ≤ n ∧ n < 256) (p0 : 0 ≤ j) (p1 : j < 4294967296) :
    InsNew w w' ⟨n, j, 0, vp, vc, l⟩ := by
  refine ⟨own_down h hs, hl, hok, by unfold inI64; simp only; omega, by unfold inI64; simp only; omega, by unfold inI64; simp only; omega⟩
theorem InsSt.done {w0 w : World} {B M : Nat} {T : TypeId} {rest : List Value} {b : Nat} {u0 u1 u2 u3 : Value} {r : RV} {W : World} (h : InsSt w0 w B M T rest b u0 u1 u2 u3 r W) (v0 v1 v2 v3 : Value) :
    RdAt w0 B M T rest r ((((W.setCell ⟨w.heap.size, 0, none⟩ v0).setCell ⟨w.heap.size, 1, none⟩ v1).setCell ⟨w.heap.size, 2, none⟩ v2).setCell ⟨w.heap.size, 3, none⟩ v3) ∧ Mov B M w ((((W.setCell ⟨w.heap.size, 0, none⟩ v0).setCell ⟨w.heap.size, 1, none⟩ v1).setCell ⟨w.heap.size, 2, none⟩ v2).setCell ⟨w.heap.size, 3, none⟩ v3) :=
  last4 h.rd h.mov v0 v1 v2 v3 h.n1 h.n2 h.hw (Nat.le_refl _)
theorem heap_sets {w : World} {a b g : Nat} (v v0 v1 v2 v3 : Value) (h1 : g ≠ b) (h2 : g ≠ a) : (((((w.setCell ⟨b, 1, none⟩ v).setCell ⟨a, 0, none⟩ v0).setCell ⟨a, 1, none⟩ v1).setCell ⟨a, 2, none⟩ v2).setCell ⟨a, 3, none⟩ v3).heap[g]? = w.heap[g]? :=
  (Below.heap_setCell _ _ _ _ h2).trans ((Below.heap_setCell _ _ _ _ h2).trans ((Below.heap_setCell _ _ _ _ h2).trans ((Below.heap_setCell _ _ _ _ h2).trans (Below.heap_setCell _ _ _ _ h1))))
theorem insNew_sets {w W3 w6 : World} {b : Nat} {n j : Int} {vp : Option Addr} {vc : Nat} {l : List Int} (v v0 v1 v2 v3 : Value) (h : w6.ownsRow W3.heap.size 3 1 (.slice vp l.length vc) l.length (l.flatMap rowInt)) (hb : b < W3.heap.size) (hw : w.heap.size < b) (hok : ∀ x ∈ l, 0 ≤ x ∧ x < 4294967296) (hl : l.length ≤ 4096) (hn : 0 ≤ n ∧ n < 256) (p0 : 0 ≤ j) (p1 : j < 4294967296) :
    InsNew w (((((w6.setCell ⟨b, 1, none⟩ v).setCell ⟨w.heap.size, 0, none⟩ v0).setCell ⟨w.heap.size, 1, none⟩ v1).setCell ⟨w.heap.size, 2, none⟩ v2).setCell ⟨w.heap.size, 3, none⟩ v3) ⟨n, j, 0, vp, vc, l⟩ :=
  insNew_list (own_same h fun g hg => by have := (own_lt6 h g hg).1; exact heap_sets v v0 v1 v2 v3 (by omega) (by omega)) (by omega) hok hl hn p0 p1
theorem number_each (w0 : World) (B M : Nat) (T : TypeId) (rest : List Value) (r : RV) (W : World) (hr : RdAt w0 B M T rest r W) : Calls Tryz.prog 150 (#[.pointer (some ⟨B, 0, none⟩)] ++ #[]) W (Did w0 B M T rest r W pNum valInt (fun _ _ x => 0 ≤ x ∧ x < 4294967296)) := number_reads w0 B M T rest r W hr
theorem enters_num6 : ∀ args w, (callFunc 150 args).run Tryz.prog w = .ok (.enter 150 args) w := enters_of Tryz.func150 (by kernel_rfl) rfl
theorem numbers_reads {w0 : World} {B M : Nat} {T : TypeId} {rest : List Value} {r : RV} {w : World} (h : RdAt w0 B M T rest r w) :
    Calls Tryz.prog 151 #[.pointer (some ⟨B, 0, none⟩), .func (.func 150) #[] #[]] w (DidList w0 B M T rest r w pNum 3 1 rowInt (fun x => 0 ≤ x ∧ x < 4294967296)) :=
  list_int enters_num6 (number_each w0) h
theorem instr_float {w0 : World} (hLaid : Laid w0) {B M : Nat} {T : TypeId} {rest : List Value} {r : RV} {w : World} (h : RdAt w0 B M T rest r w) (n : Int) (r1 : RV) (hn : 0 ≤ n ∧ n < 256) (g1 : Got pOne r r1 n)
    (c1 : ∀ (B M : Nat) (T : TypeId) (rest : List Value) (w : World), RdAt w0 B M T rest r w → Calls Tryz.prog 137 #[.pointer (some ⟨B, 0, none⟩)] w fun e w' => e = .returned (.int .u8 n) ∧ RdAt w0 B M T rest r1 w' ∧ Mov B M w w') (hnone : byCode n = none) (hfloat : isFloat n = true) :
    Calls Tryz.prog 62 #[.pointer (some ⟨B, 0, none⟩)] w (DidAs w0 B M T rest r w pIns InsV.bare InsV.val InsNew) := by
  have hn0 := hn.1
  have hn1 := hn.2
  have hlt := h.lt
  have hw0 := h.below.size
  have n1 : w.heap.size ≠ B := by omega
  have n2 : w.heap.size ≠ M := by omega
  have ha := h.alloc (.cells #[.int .i64 0, .int .i64 0, .int .i64 0, .slice none 0 0] 46)
  have ka := (Kept6.nil B M w).add hlt.1 hlt.2 (.cells #[.int .i64 0, .int .i64 0, .int .i64 0, .slice none 0 0] 46)
  clear h
  have hby : infoVal (byCode n) = .agg #[.string ⟨#[]⟩, .int .i64 0, .string ⟨#[]⟩, .string ⟨#[]⟩] ∧ (byCode n).isSome = false := by rw [hnone]; exact ⟨rfl, rfl⟩
  obtain ⟨hby, hok⟩ := hby
  have c1' := c1
  have hfl := hfloat
  clear hfloat c1'
  go_enter Tryz.func62, Tryz.ntmps62
  go_wp2_with (first
    | (go_at_call 137; (with_reducible refine (c1 _ _ _ _ _ ha).mono ?_); rintro e w1 ⟨rfl, h1, m1⟩; have k1 := ka.mov m1; have mm1 := ((Mov.refl B M w).alloc _).trans m1; obtain ⟨_, _, _, x3, _⟩ := h1.reads; have c2 := infos_of hLaid.spaces h1 n hn; rw [hby, hok] at c2; clear c1 ha ka)
    | (go_at_call 147; (with_reducible refine c2.mono ?_); rintro e w2 ⟨rfl, h2, m2⟩; have k2 := (k1.mov m2).add h2.lt.1 h2.lt.2 (.cells #[.string ⟨#[]⟩, .int .i64 0, .string ⟨#[]⟩, .string ⟨#[]⟩] 200); have mm2 := (mm1.trans m2).alloc (.cells #[.string ⟨#[]⟩, .int .i64 0, .string ⟨#[]⟩, .string ⟨#[]⟩] 200); have h2a := h2.alloc (.cells #[.string ⟨#[]⟩, .int .i64 0, .string ⟨#[]⟩, .string ⟨#[]⟩] 200); have c3 := op_float n (by omega) (by omega) (w2.alloc (.cells #[.string ⟨#[]⟩, .int .i64 0, .string ⟨#[]⟩, .string ⟨#[]⟩] 200)); rw [hfl] at c3; clear h1 k1 mm1 m1 m2 h2 c2 x3)
    | (go_at_call 148; (with_reducible refine c3.mono ?_); rintro e w3 ⟨rfl, hb3⟩; have h3 := h2a.at' hb3; have k3 := k2.below hb3; have mm3 := mm2.then hb3; have hbx4 := box_at (k3.one).1; obtain ⟨p0, p1, p2, p3, _⟩ := hbx4; have c4 := fail_of h3 3; clear h2a k2 mm2 c3 hb3)
    | (go_at_call 138; (with_reducible refine c4.mono ?_); rintro e w4 ⟨rfl, h4, m4⟩; have k4 := k3.mov m4; have mm4 := mm3.trans m4; have hbx4 := box_at (k4.one).1; obtain ⟨p0, p1, p2, p3, _⟩ := hbx4; have hlB := in_heap6 (k4.rest.one).1; have hq0 := box_at (k4.rest.one).1; obtain ⟨_, _, _, _, t0, t1, t2, t3, f0, f1, f2, f3⟩ := hq0; clear h3 k3 mm3 m4 c4))
  refine bodyPost_ret (v := .agg #[.int .i64 n, .int .i64 0, .int .i64 0, .slice none 0 0]) ?_ rfl ?_
  · rw [results_one_cell rfl]; go_simp
  · have hl := last4 h4 mm4 (.int .i64 n) (.int .i64 0) (.int .i64 0) (.slice none 0 0) n1 n2 hw0 (Nat.le_refl _)
    exact ⟨bareI n 0 0 [], _, rfl, g1.and (by rw [if_pos (.inl hfl)]; exact Got.no (by decide) _ _), hl.1.alloc _, hl.2.alloc _, insNew_nil _ _ _ _ _ (by unfold inI64; omega) (by unfold inI64; omega) (by unfold inI64; omega)⟩
theorem instr_k17 {w0 : World} (hLaid : Laid w0) {B M : Nat} {T : TypeId} {rest : List Value} {r : RV} {w : World} (h : RdAt w0 B M T rest r w) (n : Int) (r1 : RV) (hn : 0 ≤ n ∧ n < 256) (g1 : Got pOne r r1 n)
    (c1 : ∀ (B M : Nat) (T : TypeId) (rest : List Value) (w : World), RdAt w0 B M T rest r w → Calls Tryz.prog 137 #[.pointer (some ⟨B, 0, none⟩)] w fun e w' => e = .returned (.int .u8 n) ∧ RdAt w0 B M T rest r1 w' ∧ Mov B M w w') (h17 : n = 17) (hnone : byCode n = none) (hfloat : isFloat n = false) :
    Calls Tryz.prog 62 #[.pointer (some ⟨B, 0, none⟩)] w (DidAs w0 B M T rest r w pIns InsV.bare InsV.val InsNew) := by
  have hn0 := hn.1
  have hn1 := hn.2
  have hlt := h.lt
  have hw0 := h.below.size
  have n1 : w.heap.size ≠ B := by omega
  have n2 : w.heap.size ≠ M := by omega
  have ha := h.alloc (.cells #[.int .i64 0, .int .i64 0, .int .i64 0, .slice none 0 0] 46)
  have ka := (Kept6.nil B M w).add hlt.1 hlt.2 (.cells #[.int .i64 0, .int .i64 0, .int .i64 0, .slice none 0 0] 46)
  clear h
  have hby : infoVal (byCode n) = .agg #[.string ⟨#[]⟩, .int .i64 0, .string ⟨#[]⟩, .string ⟨#[]⟩] ∧ (byCode n).isSome = false := by rw [hnone]; exact ⟨rfl, rfl⟩
  obtain ⟨hby, hok⟩ := hby
  have c1' := c1
  have hfl := hfloat
  clear hfloat c1'
  have hq17 : (n == 17) = true := beq_iff_eq.2 h17
  have H17 := Lib.hid h17
  clear h17
  go_enter Tryz.func62, Tryz.ntmps62
  go_wp2_with (first
    | (go_at_call 137; (with_reducible refine (c1 _ _ _ _ _ ha).mono ?_); rintro e w1 ⟨rfl, h1, m1⟩; have k1 := ka.mov m1; have mm1 := ((Mov.refl B M w).alloc _).trans m1; obtain ⟨_, _, _, x3, _⟩ := h1.reads; have c2 := infos_of hLaid.spaces h1 n hn; rw [hby, hok] at c2; clear c1 ha ka)
    | (go_at_call 147; (with_reducible refine c2.mono ?_); rintro e w2 ⟨rfl, h2, m2⟩; have k2 := (k1.mov m2).add h2.lt.1 h2.lt.2 (.cells #[.string ⟨#[]⟩, .int .i64 0, .string ⟨#[]⟩, .string ⟨#[]⟩] 200); have mm2 := (mm1.trans m2).alloc (.cells #[.string ⟨#[]⟩, .int .i64 0, .string ⟨#[]⟩, .string ⟨#[]⟩] 200); have h2a := h2.alloc (.cells #[.string ⟨#[]⟩, .int .i64 0, .string ⟨#[]⟩, .string ⟨#[]⟩] 200); have c3 := op_float n (by omega) (by omega) (w2.alloc (.cells #[.string ⟨#[]⟩, .int .i64 0, .string ⟨#[]⟩, .string ⟨#[]⟩] 200)); rw [hfl] at c3; clear h1 k1 mm1 m1 m2 h2 c2 x3)
    | (go_at_call 148; (with_reducible refine c3.mono ?_); rintro e w3 ⟨rfl, hb3⟩; have h3 := h2a.at' hb3; have k3 := k2.below hb3; have mm3 := mm2.then hb3; have hbx4 := box_at (k3.one).1; obtain ⟨p0, p1, p2, p3, _⟩ := hbx4; have c4 := fail_of h3 3; clear h2a k2 mm2 c3 hb3)
    | (go_at_call 138; (with_reducible refine c4.mono ?_); rintro e w4 ⟨rfl, h4, m4⟩; have k4 := k3.mov m4; have mm4 := mm3.trans m4; have hbx4 := box_at (k4.one).1; obtain ⟨p0, p1, p2, p3, _⟩ := hbx4; have hlB := in_heap6 (k4.rest.one).1; have hq0 := box_at (k4.rest.one).1; obtain ⟨_, _, _, _, t0, t1, t2, t3, f0, f1, f2, f3⟩ := hq0; clear h3 k3 mm3 m4 c4))
  refine bodyPost_ret (v := .agg #[.int .i64 n, .int .i64 0, .int .i64 0, .slice none 0 0]) ?_ rfl ?_
  · rw [results_one_cell rfl]; go_simp
  · have hl := last4 h4 mm4 (.int .i64 n) (.int .i64 0) (.int .i64 0) (.slice none 0 0) n1 n2 hw0 (Nat.le_refl _)
    exact ⟨bareI n 0 0 [], _, rfl, g1.and (by rw [if_pos (.inr H17.out)]; exact Got.no (by decide) _ _), hl.1.alloc _, hl.2.alloc _, insNew_nil _ _ _ _ _ (by unfold inI64; omega) (by unfold inI64; omega) (by unfold inI64; omega)⟩
theorem instr_none {w0 : World} (hLaid : Laid w0) {B M : Nat} {T : TypeId} {rest : List Value} {r : RV} {w : World} (h : RdAt w0 B M T rest r w) (n : Int) (r1 : RV) (hn : 0 ≤ n ∧ n < 256) (g1 : Got pOne r r1 n)
    (c1 : ∀ (B M : Nat) (T : TypeId) (rest : List Value) (w : World), RdAt w0 B M T rest r w → Calls Tryz.prog 137 #[.pointer (some ⟨B, 0, none⟩)] w fun e w' => e = .returned (.int .u8 n) ∧ RdAt w0 B M T rest r1 w' ∧ Mov B M w w') (h17 : ¬ n = 17) (hnone : byCode n = none) (hfloat : isFloat n = false) :
    Calls Tryz.prog 62 #[.pointer (some ⟨B, 0, none⟩)] w (DidAs w0 B M T rest r w pIns InsV.bare InsV.val InsNew) := by
  have hn0 := hn.1
  have hn1 := hn.2
  have hlt := h.lt
  have hw0 := h.below.size
  have n1 : w.heap.size ≠ B := by omega
  have n2 : w.heap.size ≠ M := by omega
  have ha := h.alloc (.cells #[.int .i64 0, .int .i64 0, .int .i64 0, .slice none 0 0] 46)
  have ka := (Kept6.nil B M w).add hlt.1 hlt.2 (.cells #[.int .i64 0, .int .i64 0, .int .i64 0, .slice none 0 0] 46)
  clear h
  have hby : infoVal (byCode n) = .agg #[.string ⟨#[]⟩, .int .i64 0, .string ⟨#[]⟩, .string ⟨#[]⟩] ∧ (byCode n).isSome = false := by rw [hnone]; exact ⟨rfl, rfl⟩
  obtain ⟨hby, hok⟩ := hby
  have c1' := c1
  have hfl := hfloat
  clear hfloat c1'
  have hq17 : (n == 17) = false := beq_eq_false_iff_ne.2 h17
  go_enter Tryz.func62, Tryz.ntmps62
  go_wp2_with (first
    | (go_at_call 137; (with_reducible refine (c1 _ _ _ _ _ ha).mono ?_); rintro e w1 ⟨rfl, h1, m1⟩; have k1 := ka.mov m1; have mm1 := ((Mov.refl B M w).alloc _).trans m1; obtain ⟨_, _, _, x3, _⟩ := h1.reads; have c2 := infos_of hLaid.spaces h1 n hn; rw [hby, hok] at c2; clear c1 ha ka)
    | (go_at_call 147; (with_reducible refine c2.mono ?_); rintro e w2 ⟨rfl, h2, m2⟩; have k2 := (k1.mov m2).add h2.lt.1 h2.lt.2 (.cells #[.string ⟨#[]⟩, .int .i64 0, .string ⟨#[]⟩, .string ⟨#[]⟩] 200); have mm2 := (mm1.trans m2).alloc (.cells #[.string ⟨#[]⟩, .int .i64 0, .string ⟨#[]⟩, .string ⟨#[]⟩] 200); have h2a := h2.alloc (.cells #[.string ⟨#[]⟩, .int .i64 0, .string ⟨#[]⟩, .string ⟨#[]⟩] 200); have c3 := op_float n (by omega) (by omega) (w2.alloc (.cells #[.string ⟨#[]⟩, .int .i64 0, .string ⟨#[]⟩, .string ⟨#[]⟩] 200)); rw [hfl] at c3; clear h1 k1 mm1 m1 m2 h2 c2 x3)
    | (go_at_call 148; (with_reducible refine c3.mono ?_); rintro e w3 ⟨rfl, hb3⟩; have h3 := h2a.at' hb3; have k3 := k2.below hb3; have mm3 := mm2.then hb3; have hbx4 := box_at (k3.one).1; obtain ⟨p0, p1, p2, p3, _⟩ := hbx4; have c4 := fail_of h3 2; clear h2a k2 mm2 c3 hb3)
    | (go_at_call 138; (with_reducible refine c4.mono ?_); rintro e w4 ⟨rfl, h4, m4⟩; have k4 := k3.mov m4; have mm4 := mm3.trans m4; have hbx4 := box_at (k4.one).1; obtain ⟨p0, p1, p2, p3, _⟩ := hbx4; have hlB := in_heap6 (k4.rest.one).1; have hq0 := box_at (k4.rest.one).1; obtain ⟨_, _, _, _, t0, t1, t2, t3, f0, f1, f2, f3⟩ := hq0; clear h3 k3 mm3 m4 c4))
  refine bodyPost_ret (v := .agg #[.int .i64 n, .int .i64 0, .int .i64 0, .slice none 0 0]) ?_ rfl ?_
  · rw [results_one_cell rfl]; go_simp
  · have hl := last4 h4 mm4 (.int .i64 n) (.int .i64 0) (.int .i64 0) (.slice none 0 0) n1 n2 hw0 (Nat.le_refl _)
    exact ⟨bareI n 0 0 [], _, rfl, g1.and (by rw [if_neg (by rw [hfl]; simp; exact h17), hnone]; exact Got.no (by decide) _ _), hl.1.alloc _, hl.2.alloc _, insNew_nil _ _ _ _ _ (by unfold inI64; omega) (by unfold inI64; omega) (by unfold inI64; omega)⟩
theorem instr_s0 {w0 : World} (hLaid : Laid w0) {B M : Nat} {T : TypeId} {rest : List Value} {r : RV} {w : World} (h : RdAt w0 B M T rest r w) (n : Int) (r1 : RV) (hn : 0 ≤ n ∧ n < 256) (g1 : Got pOne r r1 n)
    (c1 : ∀ (B M : Nat) (T : TypeId) (rest : List Value) (w : World), RdAt w0 B M T rest r w → Calls Tryz.prog 137 #[.pointer (some ⟨B, 0, none⟩)] w fun e w' => e = .returned (.int .u8 n) ∧ RdAt w0 B M T rest r1 w' ∧ Mov B M w w') (rc : Int) (rn rp rr : ByteArray) (hR : byCode n = some ⟨rc, rn, 0, rp, rr⟩) :
    Calls Tryz.prog 62 #[.pointer (some ⟨B, 0, none⟩)] w (DidAs w0 B M T rest r w pIns InsV.bare InsV.val InsNew) := by
  have hn0 := hn.1
  have hn1 := hn.2
  have hlt := h.lt
  have hw0 := h.below.size
  have n1 : w.heap.size ≠ B := by omega
  have n2 : w.heap.size ≠ M := by omega
  have ha := h.alloc (.cells #[.int .i64 0, .int .i64 0, .int .i64 0, .slice none 0 0] 46)
  have ka := (Kept6.nil B M w).add hlt.1 hlt.2 (.cells #[.int .i64 0, .int .i64 0, .int .i64 0, .slice none 0 0] 46)
  clear h
  have h6 := byCode_6 hR
  have hfl : isFloat n = false := h6.1
  have h17 : ¬ n = 17 := h6.2.1
  have hq17 : (n == 17) = false := beq_eq_false_iff_ne.2 h17
  have hby : infoVal (byCode n) = .agg #[.string rn, .int .i64 0, .string rp, .string rr] ∧ (byCode n).isSome = true := by rw [hR]; exact ⟨rfl, rfl⟩
  obtain ⟨hby, hok⟩ := hby
  clear h6
  go_enter Tryz.func62, Tryz.ntmps62
  go_wp2_with (first
    | (go_at_call 137; (with_reducible refine (c1 _ _ _ _ _ ha).mono ?_); rintro e w1 ⟨rfl, h1, m1⟩; have k1 := ka.mov m1; have mm1 := ((Mov.refl B M w).alloc _).trans m1; obtain ⟨_, _, _, x3, _⟩ := h1.reads; have c2 := infos_of hLaid.spaces h1 n hn; rw [hby, hok] at c2; clear c1 ha ka)
    | (go_at_call 147; (with_reducible refine c2.mono ?_); rintro e w2 ⟨rfl, h2, m2⟩; have k2 := (k1.mov m2).add h2.lt.1 h2.lt.2 (.cells #[.string rn, .int .i64 0, .string rp, .string rr] 200); have mm2 := (mm1.trans m2).alloc (.cells #[.string rn, .int .i64 0, .string rp, .string rr] 200); have h2a := h2.alloc (.cells #[.string rn, .int .i64 0, .string rp, .string rr] 200); have c3 := op_float n (by omega) (by omega) (w2.alloc (.cells #[.string rn, .int .i64 0, .string rp, .string rr] 200)); rw [hfl] at c3; clear h1 k1 mm1 m1 m2 h2 c2 x3)
    | (go_at_call 148; (with_reducible refine c3.mono ?_); rintro e w3 ⟨rfl, hb3⟩; have h3 := h2a.at' hb3; have k3 := k2.below hb3; have mm3 := mm2.then hb3; have hbx4 := box_at (k3.one).1; obtain ⟨p0, p1, p2, p3, _⟩ := hbx4; have hl3 := h3.lt; have S3 : InsSt w0 w B M T rest w3.heap.size (.int .i64 n) (.int .i64 0) (.int .i64 0) (.slice none 0 0) r1 (w3.alloc (.cells #[.int .i64 n, .int .i64 0, .int .i64 0, .slice none 0 0] 46)) := ⟨h3.alloc _, mm3.alloc _, (Below.heap_alloc w3 _ _ (in_heap6 (k3.rest.one).1)).trans (k3.rest.one).1, heap_alloc_new w3 _, n1, n2, (by omega), (by omega), in_heap6 (k3.rest.one).1, hw0⟩; have hlB := in_heap6 (k3.rest.one).1; have hq0 := box_at (k3.rest.one).1; obtain ⟨_, _, _, _, t0, t1, t2, t3, f0, f1, f2, f3⟩ := hq0; clear k3 hl3 h2a k2 mm2 c3 hb3))
  refine bodyPost_ret (v := .agg #[.int .i64 n, .int .i64 0, .int .i64 0, .slice none 0 0]) ?_ rfl ?_
  · rw [results_one_cell rfl]; go_simp
  · have hl := last4 h3 mm3 (.int .i64 n) (.int .i64 0) (.int .i64 0) (.slice none 0 0) n1 n2 hw0 (Nat.le_refl _)
    exact ⟨bareI n 0 0 [], r1, rfl, g1.and (by rw [if_neg (by rw [hfl]; simp; exact h17), hR]; exact Got.val _ _), hl.1.alloc _, hl.2.alloc _, insNew_nil _ _ _ _ _ (by unfold inI64; omega) (by unfold inI64; omega) (by unfold inI64; omega)⟩
theorem instr_s1 {w0 : World} (hLaid : Laid w0) {B M : Nat} {T : TypeId} {rest : List Value} {r : RV} {w : World} (h : RdAt w0 B M T rest r w) (n : Int) (r1 : RV) (hn : 0 ≤ n ∧ n < 256) (g1 : Got pOne r r1 n)
    (c1 : ∀ (B M : Nat) (T : TypeId) (rest : List Value) (w : World), RdAt w0 B M T rest r w → Calls Tryz.prog 137 #[.pointer (some ⟨B, 0, none⟩)] w fun e w' => e = .returned (.int .u8 n) ∧ RdAt w0 B M T rest r1 w' ∧ Mov B M w w') (rc : Int) (rn rp rr : ByteArray) (hR : byCode n = some ⟨rc, rn, 1, rp, rr⟩) :
    Calls Tryz.prog 62 #[.pointer (some ⟨B, 0, none⟩)] w (DidAs w0 B M T rest r w pIns InsV.bare InsV.val InsNew) := by
  have hn0 := hn.1
  have hn1 := hn.2
  have hlt := h.lt
  have hw0 := h.below.size
  have n1 : w.heap.size ≠ B := by omega
  have n2 : w.heap.size ≠ M := by omega
  have ha := h.alloc (.cells #[.int .i64 0, .int .i64 0, .int .i64 0, .slice none 0 0] 46)
  have ka := (Kept6.nil B M w).add hlt.1 hlt.2 (.cells #[.int .i64 0, .int .i64 0, .int .i64 0, .slice none 0 0] 46)
  clear h
  have h6 := byCode_6 hR
  have hfl : isFloat n = false := h6.1
  have h17 : ¬ n = 17 := h6.2.1
  have hq17 : (n == 17) = false := beq_eq_false_iff_ne.2 h17
  have hby : infoVal (byCode n) = .agg #[.string rn, .int .i64 1, .string rp, .string rr] ∧ (byCode n).isSome = true := by rw [hR]; exact ⟨rfl, rfl⟩
  obtain ⟨hby, hok⟩ := hby
  clear h6
  go_enter Tryz.func62, Tryz.ntmps62
  go_wp2_with (first
    | (go_at_call 137; (with_reducible refine (c1 _ _ _ _ _ ha).mono ?_); rintro e w1 ⟨rfl, h1, m1⟩; have k1 := ka.mov m1; have mm1 := ((Mov.refl B M w).alloc _).trans m1; obtain ⟨_, _, _, x3, _⟩ := h1.reads; have c2 := infos_of hLaid.spaces h1 n hn; rw [hby, hok] at c2; clear c1 ha ka)
    | (go_at_call 147; (with_reducible refine c2.mono ?_); rintro e w2 ⟨rfl, h2, m2⟩; have k2 := (k1.mov m2).add h2.lt.1 h2.lt.2 (.cells #[.string rn, .int .i64 1, .string rp, .string rr] 200); have mm2 := (mm1.trans m2).alloc (.cells #[.string rn, .int .i64 1, .string rp, .string rr] 200); have h2a := h2.alloc (.cells #[.string rn, .int .i64 1, .string rp, .string rr] 200); have c3 := op_float n (by omega) (by omega) (w2.alloc (.cells #[.string rn, .int .i64 1, .string rp, .string rr] 200)); rw [hfl] at c3; clear h1 k1 mm1 m1 m2 h2 c2 x3)
    | (go_at_call 148; (with_reducible refine c3.mono ?_); rintro e w3 ⟨rfl, hb3⟩; have h3 := h2a.at' hb3; have k3 := k2.below hb3; have mm3 := mm2.then hb3; have hbx4 := box_at (k3.one).1; obtain ⟨p0, p1, p2, p3, _⟩ := hbx4; have hl3 := h3.lt; have S3 : InsSt w0 w B M T rest w3.heap.size (.int .i64 n) (.int .i64 0) (.int .i64 0) (.slice none 0 0) r1 (w3.alloc (.cells #[.int .i64 n, .int .i64 0, .int .i64 0, .slice none 0 0] 46)) := ⟨h3.alloc _, mm3.alloc _, (Below.heap_alloc w3 _ _ (in_heap6 (k3.rest.one).1)).trans (k3.rest.one).1, heap_alloc_new w3 _, n1, n2, (by omega), (by omega), in_heap6 (k3.rest.one).1, hw0⟩; have hlB := in_heap6 (k3.rest.one).1; have c5 := answer_reads w0 B M T rest r1 _ S3.rd; clear mm3 k3 h3 hl3 h2a k2 mm2 c3 hb3)
    | (go_at_call 149; (with_reducible refine c5.mono ?_); rintro e w5 ⟨k, r5, rfl, g5, h5, m5, ok5⟩; have S5 := S3.call m5 h5; have o0 := ok5.1; have o1 := ok5.2; obtain ⟨⟨t0, t1, t2, t3, f0, f1, f2, f3⟩, e0, e1, e2, e3, z0, z1, z2, z3, nb, hlW⟩ := S5.facts; clear c5 S3 m5 h5; dsimp only [valU8]))
  refine bodyPost_ret (v := .agg #[.int .i64 n, .int .i64 k, .int .i64 0, .slice none 0 0]) ?_ rfl ?_
  · rw [results_one_cell rfl]; go_simp
  · have hl := ((S5.set (.int .i64 k)).1).done (.int .i64 n) (.int .i64 k) (.int .i64 0) (.slice none 0 0)
    exact ⟨bareI n k 0 [], r5, rfl, g1.and (by rw [if_neg (by rw [hfl]; simp; exact h17), hR]; exact got_tail1 g5), hl.1, hl.2, insNew_nil _ _ _ _ _ (by unfold inI64; omega) (by unfold inI64; omega) (by unfold inI64; omega)⟩
theorem instr_s2 {w0 : World} (hLaid : Laid w0) {B M : Nat} {T : TypeId} {rest : List Value} {r : RV} {w : World} (h : RdAt w0 B M T rest r w) (n : Int) (r1 : RV) (hn : 0 ≤ n ∧ n < 256) (g1 : Got pOne r r1 n)
    (c1 : ∀ (B M : Nat) (T : TypeId) (rest : List Value) (w : World), RdAt w0 B M T rest r w → Calls Tryz.prog 137 #[.pointer (some ⟨B, 0, none⟩)] w fun e w' => e = .returned (.int .u8 n) ∧ RdAt w0 B M T rest r1 w' ∧ Mov B M w w') (rc : Int) (rn rp rr : ByteArray) (hR : byCode n = some ⟨rc, rn, 2, rp, rr⟩) :
    Calls Tryz.prog 62 #[.pointer (some ⟨B, 0, none⟩)] w (DidAs w0 B M T rest r w pIns InsV.bare InsV.val InsNew) := by
  have hn0 := hn.1
  have hn1 := hn.2
  have hlt := h.lt
  have hw0 := h.below.size
  have n1 : w.heap.size ≠ B := by omega
  have n2 : w.heap.size ≠ M := by omega
  have ha := h.alloc (.cells #[.int .i64 0, .int .i64 0, .int .i64 0, .slice none 0 0] 46)
  have ka := (Kept6.nil B M w).add hlt.1 hlt.2 (.cells #[.int .i64 0, .int .i64 0, .int .i64 0, .slice none 0 0] 46)
  clear h
  have h6 := byCode_6 hR
  have hfl : isFloat n = false := h6.1
  have h17 : ¬ n = 17 := h6.2.1
  have hq17 : (n == 17) = false := beq_eq_false_iff_ne.2 h17
  have hby : infoVal (byCode n) = .agg #[.string rn, .int .i64 2, .string rp, .string rr] ∧ (byCode n).isSome = true := by rw [hR]; exact ⟨rfl, rfl⟩
  obtain ⟨hby, hok⟩ := hby
  clear h6
  go_enter Tryz.func62, Tryz.ntmps62
  go_wp2_with (first
    | (go_at_call 137; (with_reducible refine (c1 _ _ _ _ _ ha).mono ?_); rintro e w1 ⟨rfl, h1, m1⟩; have k1 := ka.mov m1; have mm1 := ((Mov.refl B M w).alloc _).trans m1; obtain ⟨_, _, _, x3, _⟩ := h1.reads; have c2 := infos_of hLaid.spaces h1 n hn; rw [hby, hok] at c2; clear c1 ha ka)
    | (go_at_call 147; (with_reducible refine c2.mono ?_); rintro e w2 ⟨rfl, h2, m2⟩; have k2 := (k1.mov m2).add h2.lt.1 h2.lt.2 (.cells #[.string rn, .int .i64 2, .string rp, .string rr] 200); have mm2 := (mm1.trans m2).alloc (.cells #[.string rn, .int .i64 2, .string rp, .string rr] 200); have h2a := h2.alloc (.cells #[.string rn, .int .i64 2, .string rp, .string rr] 200); have c3 := op_float n (by omega) (by omega) (w2.alloc (.cells #[.string rn, .int .i64 2, .string rp, .string rr] 200)); rw [hfl] at c3; clear h1 k1 mm1 m1 m2 h2 c2 x3)
    | (go_at_call 148; (with_reducible refine c3.mono ?_); rintro e w3 ⟨rfl, hb3⟩; have h3 := h2a.at' hb3; have k3 := k2.below hb3; have mm3 := mm2.then hb3; have hbx4 := box_at (k3.one).1; obtain ⟨p0, p1, p2, p3, _⟩ := hbx4; have hl3 := h3.lt; have S3 : InsSt w0 w B M T rest w3.heap.size (.int .i64 n) (.int .i64 0) (.int .i64 0) (.slice none 0 0) r1 (w3.alloc (.cells #[.int .i64 n, .int .i64 0, .int .i64 0, .slice none 0 0] 46)) := ⟨h3.alloc _, mm3.alloc _, (Below.heap_alloc w3 _ _ (in_heap6 (k3.rest.one).1)).trans (k3.rest.one).1, heap_alloc_new w3 _, n1, n2, (by omega), (by omega), in_heap6 (k3.rest.one).1, hw0⟩; have hlB := in_heap6 (k3.rest.one).1; have c5 := number_reads w0 B M T rest r1 _ S3.rd; clear mm3 k3 h3 hl3 h2a k2 mm2 c3 hb3)
    | (go_at_call 150; (with_reducible refine c5.mono ?_); rintro e w5 ⟨k, r5, rfl, g5, h5, m5, ok5⟩; have S5 := S3.call m5 h5; have o0 := ok5.1; have o1 := ok5.2; obtain ⟨⟨t0, t1, t2, t3, f0, f1, f2, f3⟩, e0, e1, e2, e3, z0, z1, z2, z3, nb, hlW⟩ := S5.facts; clear c5 S3 m5 h5; dsimp only [valInt]))
  refine bodyPost_ret (v := .agg #[.int .i64 n, .int .i64 k, .int .i64 0, .slice none 0 0]) ?_ rfl ?_
  · rw [results_one_cell rfl]; go_simp
  · have hl := ((S5.set (.int .i64 k)).1).done (.int .i64 n) (.int .i64 k) (.int .i64 0) (.slice none 0 0)
    exact ⟨bareI n k 0 [], r5, rfl, g1.and (by rw [if_neg (by rw [hfl]; simp; exact h17), hR]; exact g5.map fun a => bareI n a 0 []), hl.1, hl.2, insNew_nil _ _ _ _ _ (by unfold inI64; omega) (by unfold inI64; omega) (by unfold inI64; omega)⟩
theorem instr_s4 {w0 : World} (hLaid : Laid w0) {B M : Nat} {T : TypeId} {rest : List Value} {r : RV} {w : World} (h : RdAt w0 B M T rest r w) (n : Int) (r1 : RV) (hn : 0 ≤ n ∧ n < 256) (g1 : Got pOne r r1 n)
    (c1 : ∀ (B M : Nat) (T : TypeId) (rest : List Value) (w : World), RdAt w0 B M T rest r w → Calls Tryz.prog 137 #[.pointer (some ⟨B, 0, none⟩)] w fun e w' => e = .returned (.int .u8 n) ∧ RdAt w0 B M T rest r1 w' ∧ Mov B M w w') (rc : Int) (rn rp rr : ByteArray) (hR : byCode n = some ⟨rc, rn, 4, rp, rr⟩) :
    Calls Tryz.prog 62 #[.pointer (some ⟨B, 0, none⟩)] w (DidAs w0 B M T rest r w pIns InsV.bare InsV.val InsNew) := by
  have hn0 := hn.1
  have hn1 := hn.2
  have hlt := h.lt
  have hw0 := h.below.size
  have n1 : w.heap.size ≠ B := by omega
  have n2 : w.heap.size ≠ M := by omega
  have ha := h.alloc (.cells #[.int .i64 0, .int .i64 0, .int .i64 0, .slice none 0 0] 46)
  have ka := (Kept6.nil B M w).add hlt.1 hlt.2 (.cells #[.int .i64 0, .int .i64 0, .int .i64 0, .slice none 0 0] 46)
  clear h
  have h6 := byCode_6 hR
  have hfl : isFloat n = false := h6.1
  have h17 : ¬ n = 17 := h6.2.1
  have hq17 : (n == 17) = false := beq_eq_false_iff_ne.2 h17
  have hby : infoVal (byCode n) = .agg #[.string rn, .int .i64 4, .string rp, .string rr] ∧ (byCode n).isSome = true := by rw [hR]; exact ⟨rfl, rfl⟩
  obtain ⟨hby, hok⟩ := hby
  clear h6
  go_enter Tryz.func62, Tryz.ntmps62
  go_wp2_with (first
    | (go_at_call 137; (with_reducible refine (c1 _ _ _ _ _ ha).mono ?_); rintro e w1 ⟨rfl, h1, m1⟩; have k1 := ka.mov m1; have mm1 := ((Mov.refl B M w).alloc _).trans m1; obtain ⟨_, _, _, x3, _⟩ := h1.reads; have c2 := infos_of hLaid.spaces h1 n hn; rw [hby, hok] at c2; clear c1 ha ka)
    | (go_at_call 147; (with_reducible refine c2.mono ?_); rintro e w2 ⟨rfl, h2, m2⟩; have k2 := (k1.mov m2).add h2.lt.1 h2.lt.2 (.cells #[.string rn, .int .i64 4, .string rp, .string rr] 200); have mm2 := (mm1.trans m2).alloc (.cells #[.string rn, .int .i64 4, .string rp, .string rr] 200); have h2a := h2.alloc (.cells #[.string rn, .int .i64 4, .string rp, .string rr] 200); have c3 := op_float n (by omega) (by omega) (w2.alloc (.cells #[.string rn, .int .i64 4, .string rp, .string rr] 200)); rw [hfl] at c3; clear h1 k1 mm1 m1 m2 h2 c2 x3)
    | (go_at_call 148; (with_reducible refine c3.mono ?_); rintro e w3 ⟨rfl, hb3⟩; have h3 := h2a.at' hb3; have k3 := k2.below hb3; have mm3 := mm2.then hb3; have hbx4 := box_at (k3.one).1; obtain ⟨p0, p1, p2, p3, _⟩ := hbx4; have hl3 := h3.lt; have S3 : InsSt w0 w B M T rest w3.heap.size (.int .i64 n) (.int .i64 0) (.int .i64 0) (.slice none 0 0) r1 (w3.alloc (.cells #[.int .i64 n, .int .i64 0, .int .i64 0, .slice none 0 0] 46)) := ⟨h3.alloc _, mm3.alloc _, (Below.heap_alloc w3 _ _ (in_heap6 (k3.rest.one).1)).trans (k3.rest.one).1, heap_alloc_new w3 _, n1, n2, (by omega), (by omega), in_heap6 (k3.rest.one).1, hw0⟩; have hlB := in_heap6 (k3.rest.one).1; have c5 := number_reads w0 B M T rest r1 _ S3.rd; clear mm3 k3 h3 hl3 h2a k2 mm2 c3 hb3)
    | (go_at_call 150; (with_reducible refine c5.mono ?_); rintro e w5 ⟨k, r5, rfl, g5, h5, m5, ok5⟩; have S5 := S3.call m5 h5; have o0 := ok5.1; have o1 := ok5.2; obtain ⟨⟨t0, t1, t2, t3, f0, f1, f2, f3⟩, e0, e1, e2, e3, z0, z1, z2, z3, nb, hlW⟩ := S5.facts; clear c5 S3 m5 h5; dsimp only [valInt]))
  refine bodyPost_ret (v := .agg #[.int .i64 n, .int .i64 k, .int .i64 0, .slice none 0 0]) ?_ rfl ?_
  · rw [results_one_cell rfl]; go_simp
  · have hl := ((S5.set (.int .i64 k)).1).done (.int .i64 n) (.int .i64 k) (.int .i64 0) (.slice none 0 0)
    exact ⟨bareI n k 0 [], r5, rfl, g1.and (by rw [if_neg (by rw [hfl]; simp; exact h17), hR]; exact g5.map fun a => bareI n a 0 []), hl.1, hl.2, insNew_nil _ _ _ _ _ (by unfold inI64; omega) (by unfold inI64; omega) (by unfold inI64; omega)⟩
theorem instr_s5 {w0 : World} (hLaid : Laid w0) {B M : Nat} {T : TypeId} {rest : List Value} {r : RV} {w : World} (h : RdAt w0 B M T rest r w) (n : Int) (r1 : RV) (hn : 0 ≤ n ∧ n < 256) (g1 : Got pOne r r1 n)
    (c1 : ∀ (B M : Nat) (T : TypeId) (rest : List Value) (w : World), RdAt w0 B M T rest r w → Calls Tryz.prog 137 #[.pointer (some ⟨B, 0, none⟩)] w fun e w' => e = .returned (.int .u8 n) ∧ RdAt w0 B M T rest r1 w' ∧ Mov B M w w') (rc : Int) (rn rp rr : ByteArray) (hR : byCode n = some ⟨rc, rn, 5, rp, rr⟩) :
    Calls Tryz.prog 62 #[.pointer (some ⟨B, 0, none⟩)] w (DidAs w0 B M T rest r w pIns InsV.bare InsV.val InsNew) := by
  have hn0 := hn.1
  have hn1 := hn.2
  have hlt := h.lt
  have hw0 := h.below.size
  have n1 : w.heap.size ≠ B := by omega
  have n2 : w.heap.size ≠ M := by omega
  have ha := h.alloc (.cells #[.int .i64 0, .int .i64 0, .int .i64 0, .slice none 0 0] 46)
  have ka := (Kept6.nil B M w).add hlt.1 hlt.2 (.cells #[.int .i64 0, .int .i64 0, .int .i64 0, .slice none 0 0] 46)
  clear h
  have h6 := byCode_6 hR
  have hfl : isFloat n = false := h6.1
  have h17 : ¬ n = 17 := h6.2.1
  have hq17 : (n == 17) = false := beq_eq_false_iff_ne.2 h17
  have hby : infoVal (byCode n) = .agg #[.string rn, .int .i64 5, .string rp, .string rr] ∧ (byCode n).isSome = true := by rw [hR]; exact ⟨rfl, rfl⟩
  obtain ⟨hby, hok⟩ := hby
  clear h6
  go_enter Tryz.func62, Tryz.ntmps62
  go_wp2_with (first
    | (go_at_call 137; (with_reducible refine (c1 _ _ _ _ _ ha).mono ?_); rintro e w1 ⟨rfl, h1, m1⟩; have k1 := ka.mov m1; have mm1 := ((Mov.refl B M w).alloc _).trans m1; obtain ⟨_, _, _, x3, _⟩ := h1.reads; have c2 := infos_of hLaid.spaces h1 n hn; rw [hby, hok] at c2; clear c1 ha ka)
    | (go_at_call 147; (with_reducible refine c2.mono ?_); rintro e w2 ⟨rfl, h2, m2⟩; have k2 := (k1.mov m2).add h2.lt.1 h2.lt.2 (.cells #[.string rn, .int .i64 5, .string rp, .string rr] 200); have mm2 := (mm1.trans m2).alloc (.cells #[.string rn, .int .i64 5, .string rp, .string rr] 200); have h2a := h2.alloc (.cells #[.string rn, .int .i64 5, .string rp, .string rr] 200); have c3 := op_float n (by omega) (by omega) (w2.alloc (.cells #[.string rn, .int .i64 5, .string rp, .string rr] 200)); rw [hfl] at c3; clear h1 k1 mm1 m1 m2 h2 c2 x3)
    | (go_at_call 148; (with_reducible refine c3.mono ?_); rintro e w3 ⟨rfl, hb3⟩; have h3 := h2a.at' hb3; have k3 := k2.below hb3; have mm3 := mm2.then hb3; have hbx4 := box_at (k3.one).1; obtain ⟨p0, p1, p2, p3, _⟩ := hbx4; have hl3 := h3.lt; have S3 : InsSt w0 w B M T rest w3.heap.size (.int .i64 n) (.int .i64 0) (.int .i64 0) (.slice none 0 0) r1 (w3.alloc (.cells #[.int .i64 n, .int .i64 0, .int .i64 0, .slice none 0 0] 46)) := ⟨h3.alloc _, mm3.alloc _, (Below.heap_alloc w3 _ _ (in_heap6 (k3.rest.one).1)).trans (k3.rest.one).1, heap_alloc_new w3 _, n1, n2, (by omega), (by omega), in_heap6 (k3.rest.one).1, hw0⟩; have hlB := in_heap6 (k3.rest.one).1; have c5 := number_reads w0 B M T rest r1 _ S3.rd; clear mm3 k3 h3 hl3 h2a k2 mm2 c3 hb3)
    | (go_at_call 150; (with_reducible refine c5.mono ?_); rintro e w5 ⟨k, r5, rfl, g5, h5, m5, ok5⟩; have S5 := S3.call m5 h5; have o0 := ok5.1; have o1 := ok5.2; have S5s := (S5.set (.int .i64 k)).1; have c6 := number_reads w0 B M T rest r5 _ S5s.rd; obtain ⟨⟨t0, t1, t2, t3, f0, f1, f2, f3⟩, e0, e1, e2, e3, z0, z1, z2, z3, nb, hlW⟩ := S5.facts; clear c5 S3 m5 h5; dsimp only [valInt])
    | (go_at_call 150; (with_reducible refine c6.mono ?_); rintro e w6 ⟨j, r6, rfl, g6, h5, m5, ok6⟩; have S6 := S5s.call m5 h5; have p0 := ok6.1; have p1 := ok6.2; clear t0 t1 t2 t3 f0 f1 f2 f3 e0 e1 e2 e3 z0 z1 z2 z3 nb hlW; obtain ⟨⟨t0, t1, t2, t3, f0, f1, f2, f3⟩, e0, e1, e2, e3, z0, z1, z2, z3, nb, hlW⟩ := S6.facts; clear c6 S5s m5 h5; dsimp only [valInt]))
  refine bodyPost_ret (v := .agg #[.int .i64 n, .int .i64 k, .int .i64 j, .slice none 0 0]) ?_ rfl ?_
  · rw [results_one_cell rfl]; go_simp
  · have hl := ((S6.set (.int .i64 j)).2.1).done (.int .i64 n) (.int .i64 k) (.int .i64 j) (.slice none 0 0)
    exact ⟨bareI n k j [], r6, rfl, g1.and (by rw [if_neg (by rw [hfl]; simp; exact h17), hR]; exact g5.and (g6.map fun b => bareI n k b [])), hl.1, hl.2, insNew_nil _ _ _ _ _ (by unfold inI64; omega) (by unfold inI64; omega) (by unfold inI64; omega)⟩
theorem instr_s6 {w0 : World} (hLaid : Laid w0) {B M : Nat} {T : TypeId} {rest : List Value} {r : RV} {w : World} (h : RdAt w0 B M T rest r w) (n : Int) (r1 : RV) (hn : 0 ≤ n ∧ n < 256) (g1 : Got pOne r r1 n)
    (c1 : ∀ (B M : Nat) (T : TypeId) (rest : List Value) (w : World), RdAt w0 B M T rest r w → Calls Tryz.prog 137 #[.pointer (some ⟨B, 0, none⟩)] w fun e w' => e = .returned (.int .u8 n) ∧ RdAt w0 B M T rest r1 w' ∧ Mov B M w w') (rc : Int) (rn rp rr : ByteArray) (hR : byCode n = some ⟨rc, rn, 6, rp, rr⟩) :
    Calls Tryz.prog 62 #[.pointer (some ⟨B, 0, none⟩)] w (DidAs w0 B M T rest r w pIns InsV.bare InsV.val InsNew) := by
  have hn0 := hn.1
  have hn1 := hn.2
  have hlt := h.lt
  have hw0 := h.below.size
  have n1 : w.heap.size ≠ B := by omega
  have n2 : w.heap.size ≠ M := by omega
  have ha := h.alloc (.cells #[.int .i64 0, .int .i64 0, .int .i64 0, .slice none 0 0] 46)
  have ka := (Kept6.nil B M w).add hlt.1 hlt.2 (.cells #[.int .i64 0, .int .i64 0, .int .i64 0, .slice none 0 0] 46)
  clear h
  have h6 := byCode_6 hR
  have hfl : isFloat n = false := h6.1
  have h17 : ¬ n = 17 := h6.2.1
  have hq17 : (n == 17) = false := beq_eq_false_iff_ne.2 h17
  have hby : infoVal (byCode n) = .agg #[.string rn, .int .i64 6, .string rp, .string rr] ∧ (byCode n).isSome = true := by rw [hR]; exact ⟨rfl, rfl⟩
  obtain ⟨hby, hok⟩ := hby
  clear h6
  go_enter Tryz.func62, Tryz.ntmps62
  go_wp2_with (first
    | (go_at_call 137; (with_reducible refine (c1 _ _ _ _ _ ha).mono ?_); rintro e w1 ⟨rfl, h1, m1⟩; have k1 := ka.mov m1; have mm1 := ((Mov.refl B M w).alloc _).trans m1; obtain ⟨_, _, _, x3, _⟩ := h1.reads; have c2 := infos_of hLaid.spaces h1 n hn; rw [hby, hok] at c2; clear c1 ha ka)
    | (go_at_call 147; (with_reducible refine c2.mono ?_); rintro e w2 ⟨rfl, h2, m2⟩; have k2 := (k1.mov m2).add h2.lt.1 h2.lt.2 (.cells #[.string rn, .int .i64 6, .string rp, .string rr] 200); have mm2 := (mm1.trans m2).alloc (.cells #[.string rn, .int .i64 6, .string rp, .string rr] 200); have h2a := h2.alloc (.cells #[.string rn, .int .i64 6, .string rp, .string rr] 200); have c3 := op_float n (by omega) (by omega) (w2.alloc (.cells #[.string rn, .int .i64 6, .string rp, .string rr] 200)); rw [hfl] at c3; clear h1 k1 mm1 m1 m2 h2 c2 x3)
    | (go_at_call 148; (with_reducible refine c3.mono ?_); rintro e w3 ⟨rfl, hb3⟩; have h3 := h2a.at' hb3; have k3 := k2.below hb3; have mm3 := mm2.then hb3; have hbx4 := box_at (k3.one).1; obtain ⟨p0, p1, p2, p3, _⟩ := hbx4; have hl3 := h3.lt; have S3 : InsSt w0 w B M T rest w3.heap.size (.int .i64 n) (.int .i64 0) (.int .i64 0) (.slice none 0 0) r1 (w3.alloc (.cells #[.int .i64 n, .int .i64 0, .int .i64 0, .slice none 0 0] 46)) := ⟨h3.alloc _, mm3.alloc _, (Below.heap_alloc w3 _ _ (in_heap6 (k3.rest.one).1)).trans (k3.rest.one).1, heap_alloc_new w3 _, n1, n2, (by omega), (by omega), in_heap6 (k3.rest.one).1, hw0⟩; have hlB := in_heap6 (k3.rest.one).1; have c5 := is_reads S3.rd 0; clear mm3 k3 h3 hl3 h2a k2 mm2 c3 hb3)
    | (go_at_call 152; (with_reducible refine c5.mono ?_); rintro e w5 ⟨k, r5, rfl, g5, h5, m5, ok5⟩; have S5 := S3.call m5 h5; obtain ⟨⟨t0, t1, t2, t3, f0, f1, f2, f3⟩, e0, e1, e2, e3, z0, z1, z2, z3, nb, hlW⟩ := S5.facts; clear c5 S3 m5 h5; dsimp only [valUnit]))
  refine bodyPost_ret (v := .agg #[.int .i64 n, .int .i64 0, .int .i64 0, .slice none 0 0]) ?_ rfl ?_
  · rw [results_one_cell rfl]; go_simp
  · have hl := (S5).done (.int .i64 n) (.int .i64 0) (.int .i64 0) (.slice none 0 0)
    exact ⟨bareI n 0 0 [], r5, rfl, g1.and (by rw [if_neg (by rw [hfl]; simp; exact h17), hR]; exact g5.map fun _ => bareI n 0 0 []), hl.1, hl.2, insNew_nil _ _ _ _ _ (by unfold inI64; omega) (by unfold inI64; omega) (by unfold inI64; omega)⟩
theorem instr_s7 {w0 : World} (hLaid : Laid w0) {B M : Nat} {T : TypeId} {rest : List Value} {r : RV} {w : World} (h : RdAt w0 B M T rest r w) (n : Int) (r1 : RV) (hn : 0 ≤ n ∧ n < 256) (g1 : Got pOne r r1 n)
    (c1 : ∀ (B M : Nat) (T : TypeId) (rest : List Value) (w : World), RdAt w0 B M T rest r w → Calls Tryz.prog 137 #[.pointer (some ⟨B, 0, none⟩)] w fun e w' => e = .returned (.int .u8 n) ∧ RdAt w0 B M T rest r1 w' ∧ Mov B M w w') (rc : Int) (rn rp rr : ByteArray) (hR : byCode n = some ⟨rc, rn, 7, rp, rr⟩) :
    Calls Tryz.prog 62 #[.pointer (some ⟨B, 0, none⟩)] w (DidAs w0 B M T rest r w pIns InsV.bare InsV.val InsNew) := by
  have hn0 := hn.1
  have hn1 := hn.2
  have hlt := h.lt
  have hw0 := h.below.size
  have n1 : w.heap.size ≠ B := by omega
  have n2 : w.heap.size ≠ M := by omega
  have ha := h.alloc (.cells #[.int .i64 0, .int .i64 0, .int .i64 0, .slice none 0 0] 46)
  have ka := (Kept6.nil B M w).add hlt.1 hlt.2 (.cells #[.int .i64 0, .int .i64 0, .int .i64 0, .slice none 0 0] 46)
  clear h
  have h6 := byCode_6 hR
  have hfl : isFloat n = false := h6.1
  have h17 : ¬ n = 17 := h6.2.1
  have hq17 : (n == 17) = false := beq_eq_false_iff_ne.2 h17
  have hby : infoVal (byCode n) = .agg #[.string rn, .int .i64 7, .string rp, .string rr] ∧ (byCode n).isSome = true := by rw [hR]; exact ⟨rfl, rfl⟩
  obtain ⟨hby, hok⟩ := hby
  clear h6
  go_enter Tryz.func62, Tryz.ntmps62
  go_wp2_with (first
    | (go_at_call 137; (with_reducible refine (c1 _ _ _ _ _ ha).mono ?_); rintro e w1 ⟨rfl, h1, m1⟩; have k1 := ka.mov m1; have mm1 := ((Mov.refl B M w).alloc _).trans m1; obtain ⟨_, _, _, x3, _⟩ := h1.reads; have c2 := infos_of hLaid.spaces h1 n hn; rw [hby, hok] at c2; clear c1 ha ka)
    | (go_at_call 147; (with_reducible refine c2.mono ?_); rintro e w2 ⟨rfl, h2, m2⟩; have k2 := (k1.mov m2).add h2.lt.1 h2.lt.2 (.cells #[.string rn, .int .i64 7, .string rp, .string rr] 200); have mm2 := (mm1.trans m2).alloc (.cells #[.string rn, .int .i64 7, .string rp, .string rr] 200); have h2a := h2.alloc (.cells #[.string rn, .int .i64 7, .string rp, .string rr] 200); have c3 := op_float n (by omega) (by omega) (w2.alloc (.cells #[.string rn, .int .i64 7, .string rp, .string rr] 200)); rw [hfl] at c3; clear h1 k1 mm1 m1 m2 h2 c2 x3)
    | (go_at_call 148; (with_reducible refine c3.mono ?_); rintro e w3 ⟨rfl, hb3⟩; have h3 := h2a.at' hb3; have k3 := k2.below hb3; have mm3 := mm2.then hb3; have hbx4 := box_at (k3.one).1; obtain ⟨p0, p1, p2, p3, _⟩ := hbx4; have hl3 := h3.lt; have S3 : InsSt w0 w B M T rest w3.heap.size (.int .i64 n) (.int .i64 0) (.int .i64 0) (.slice none 0 0) r1 (w3.alloc (.cells #[.int .i64 n, .int .i64 0, .int .i64 0, .slice none 0 0] 46)) := ⟨h3.alloc _, mm3.alloc _, (Below.heap_alloc w3 _ _ (in_heap6 (k3.rest.one).1)).trans (k3.rest.one).1, heap_alloc_new w3 _, n1, n2, (by omega), (by omega), in_heap6 (k3.rest.one).1, hw0⟩; have hlB := in_heap6 (k3.rest.one).1; have c5 := signed_reads S3.rd n; clear mm3 k3 h3 hl3 h2a k2 mm2 c3 hb3)
    | (go_at_call 153; (with_reducible refine c5.mono ?_); rintro e w5 ⟨k, r5, rfl, g5, h5, m5, ok5⟩; have S5 := S3.call m5 h5; have o0 := ok5.1; have o1 := ok5.2; obtain ⟨⟨t0, t1, t2, t3, f0, f1, f2, f3⟩, e0, e1, e2, e3, z0, z1, z2, z3, nb, hlW⟩ := S5.facts; clear c5 S3 m5 h5; dsimp only [valInt]))
  refine bodyPost_ret (v := .agg #[.int .i64 n, .int .i64 k, .int .i64 0, .slice none 0 0]) ?_ rfl ?_
  · rw [results_one_cell rfl]; go_simp
  · have hl := ((S5.set (.int .i64 k)).1).done (.int .i64 n) (.int .i64 k) (.int .i64 0) (.slice none 0 0)
    exact ⟨bareI n k 0 [], r5, rfl, g1.and (by rw [if_neg (by rw [hfl]; simp; exact h17), hR]; exact g5.map fun a => bareI n a 0 []), hl.1, hl.2, insNew_nil _ _ _ _ _ (by unfold inI64; omega) (by unfold inI64; omega) (by unfold inI64; omega)⟩
theorem instr_s3 {w0 : World} (hLaid : Laid w0) {B M : Nat} {T : TypeId} {rest : List Value} {r : RV} {w : World} (h : RdAt w0 B M T rest r w) (n : Int) (r1 : RV) (hn : 0 ≤ n ∧ n < 256) (g1 : Got pOne r r1 n)
    (c1 : ∀ (B M : Nat) (T : TypeId) (rest : List Value) (w : World), RdAt w0 B M T rest r w → Calls Tryz.prog 137 #[.pointer (some ⟨B, 0, none⟩)] w fun e w' => e = .returned (.int .u8 n) ∧ RdAt w0 B M T rest r1 w' ∧ Mov B M w w') (rc : Int) (rn rp rr : ByteArray) (hR : byCode n = some ⟨rc, rn, 3, rp, rr⟩) :
    Calls Tryz.prog 62 #[.pointer (some ⟨B, 0, none⟩)] w (DidAs w0 B M T rest r w pIns InsV.bare InsV.val InsNew) := by
  have hn0 := hn.1
  have hn1 := hn.2
  have hlt := h.lt
  have hw0 := h.below.size
  have n1 : w.heap.size ≠ B := by omega
  have n2 : w.heap.size ≠ M := by omega
  have ha := h.alloc (.cells #[.int .i64 0, .int .i64 0, .int .i64 0, .slice none 0 0] 46)
  have ka := (Kept6.nil B M w).add hlt.1 hlt.2 (.cells #[.int .i64 0, .int .i64 0, .int .i64 0, .slice none 0 0] 46)
  clear h
  have h6 := byCode_6 hR
  have hfl : isFloat n = false := h6.1
  have h17 : ¬ n = 17 := h6.2.1
  have hq17 : (n == 17) = false := beq_eq_false_iff_ne.2 h17
  have hby : infoVal (byCode n) = .agg #[.string rn, .int .i64 3, .string rp, .string rr] ∧ (byCode n).isSome = true := by rw [hR]; exact ⟨rfl, rfl⟩
  obtain ⟨hby, hok⟩ := hby
  clear h6
  go_enter Tryz.func62, Tryz.ntmps62
  go_wp2_with (first
    | (go_at_call 137; (with_reducible refine (c1 _ _ _ _ _ ha).mono ?_); rintro e w1 ⟨rfl, h1, m1⟩; have k1 := ka.mov m1; have mm1 := ((Mov.refl B M w).alloc _).trans m1; obtain ⟨_, _, _, x3, _⟩ := h1.reads; have c2 := infos_of hLaid.spaces h1 n hn; rw [hby, hok] at c2; clear c1 ha ka)
    | (go_at_call 147; (with_reducible refine c2.mono ?_); rintro e w2 ⟨rfl, h2, m2⟩; have k2 := (k1.mov m2).add h2.lt.1 h2.lt.2 (.cells #[.string rn, .int .i64 3, .string rp, .string rr] 200); have mm2 := (mm1.trans m2).alloc (.cells #[.string rn, .int .i64 3, .string rp, .string rr] 200); have h2a := h2.alloc (.cells #[.string rn, .int .i64 3, .string rp, .string rr] 200); have c3 := op_float n (by omega) (by omega) (w2.alloc (.cells #[.string rn, .int .i64 3, .string rp, .string rr] 200)); rw [hfl] at c3; clear h1 k1 mm1 m1 m2 h2 c2 x3)
    | (go_at_call 148; (with_reducible refine c3.mono ?_); rintro e w3 ⟨rfl, hb3⟩; have h3 := h2a.at' hb3; have k3 := k2.below hb3; have mm3 := mm2.then hb3; have hbx4 := box_at (k3.one).1; obtain ⟨p0, p1, p2, p3, _⟩ := hbx4; have hl3 := h3.lt; have S3 : InsSt w0 w B M T rest w3.heap.size (.int .i64 n) (.int .i64 0) (.int .i64 0) (.slice none 0 0) r1 (w3.alloc (.cells #[.int .i64 n, .int .i64 0, .int .i64 0, .slice none 0 0] 46)) := ⟨h3.alloc _, mm3.alloc _, (Below.heap_alloc w3 _ _ (in_heap6 (k3.rest.one).1)).trans (k3.rest.one).1, heap_alloc_new w3 _, n1, n2, (by omega), (by omega), in_heap6 (k3.rest.one).1, hw0⟩; have hlB := in_heap6 (k3.rest.one).1; have c5 := numbers_reads S3.rd; clear mm3 k3 h3 hl3 h2a k2 mm2 c3 hb3)
    | (go_at_call 151; (with_reducible refine c5.mono ?_); rintro e w5 ⟨l, r5, v, rfl, g5, h5, m5, hown, hok5, hlen⟩; have S5 := S3.call m5 h5; obtain ⟨vp, vc, rfl⟩ := own_any6 hown; have hlt5 := S3.rd.lt; have hsz5 := S3.mov.size; have S5s := (S5.set (.slice vp l.length vc)).2.2; have hown5 := own_same (w' := w5.setCell ⟨w3.heap.size, 3, none⟩ (.slice vp l.length vc)) hown (fun g hg => Below.heap_setCell _ _ _ _ (by have := (own_lt6 hown g hg).1; have := in_heap6 S3.own; show g ≠ w3.heap.size; omega)); have hB5 : B < (w3.alloc (.cells #[.int .i64 n, .int .i64 0, .int .i64 0, .slice none 0 0] 46)).heap.size := S3.rd.lt.1; have hM5 := S3.rd.lt.2; have hbW := in_heap6 S3.own; have c6 := number_reads w0 B M T rest r5 _ S5s.rd; obtain ⟨⟨t0, t1, t2, t3, f0, f1, f2, f3⟩, e0, e1, e2, e3, z0, z1, z2, z3, nb, hlW⟩ := S5.facts; clear c5 S3 m5 h5)
    | (go_at_call 150; (with_reducible refine c6.mono ?_); rintro e w6 ⟨j, r6, rfl, g6, h5, m5, ok6⟩; have S6 := S5s.call m5 h5; have p0 := ok6.1; have p1 := ok6.2; have hown6 := own_mov hown5 m5 hB5 hM5; clear t0 t1 t2 t3 f0 f1 f2 f3 e0 e1 e2 e3 z0 z1 z2 z3 nb hlW; obtain ⟨⟨t0, t1, t2, t3, f0, f1, f2, f3⟩, e0, e1, e2, e3, z0, z1, z2, z3, nb, hlW⟩ := S6.facts; clear c6 S5s m5 h5; dsimp only [valInt]))
  refine bodyPost_ret (v := .agg #[.int .i64 n, .int .i64 j, .int .i64 0, .slice vp l.length vc]) ?_ rfl ?_
  · rw [results_one_cell rfl]; go_simp
  · have hl := ((S6.set (.int .i64 j)).1).done (.int .i64 n) (.int .i64 j) (.int .i64 0) (.slice vp l.length vc)
    exact ⟨⟨n, j, 0, vp, vc, l⟩, r6, rfl, g1.and (by rw [if_neg (by rw [hfl]; simp; exact h17), hR]; exact g5.and (g6.map fun a => bareI n a 0 l)), hl.1, hl.2, insNew_sets _ _ _ _ _ hown6 hbW S6.lt hok5 hlen hn p0 p1⟩
theorem instr_reads {w0 : World} (hLaid : Laid w0) {B M : Nat} {T : TypeId} {rest : List Value} {r : RV} {w : World} (h : RdAt w0 B M T rest r w) :
    Calls Tryz.prog 62 #[.pointer (some ⟨B, 0, none⟩)] w (DidAs w0 B M T rest r w pIns InsV.bare InsV.val InsNew) := by
  obtain ⟨n, r1, n0, n1, g1, c1⟩ := one_det w0 r
  have hn : 0 ≤ n ∧ n < 256 := ⟨n0, n1⟩
  cases hb : byCode n with
  | none =>
    cases hf : isFloat n with
    | true => exact instr_float hLaid h n r1 hn g1 c1 hb hf
    | false =>
      by_cases h17 : n = 17
      · exact instr_k17 hLaid h n r1 hn g1 c1 h17 hb hf
      · exact instr_none hLaid h n r1 hn g1 c1 h17 hb hf
  | some R =>
    have h6 := byCode_6 hb
    obtain ⟨rc, rn, s, rp, rr⟩ := R
    simp only at h6
    rcases (show s = 0 ∨ s = 1 ∨ s = 2 ∨ s = 3 ∨ s = 4 ∨ s = 5 ∨ s = 6 ∨ s = 7 by omega) with rfl | rfl | rfl | rfl | rfl | rfl | rfl | rfl
    · exact instr_s0 hLaid h n r1 hn g1 c1 rc rn rp rr hb
    · exact instr_s1 hLaid h n r1 hn g1 c1 rc rn rp rr hb
    · exact instr_s2 hLaid h n r1 hn g1 c1 rc rn rp rr hb
    · exact instr_s3 hLaid h n r1 hn g1 c1 rc rn rp rr hb
    · exact instr_s4 hLaid h n r1 hn g1 c1 rc rn rp rr hb
    · exact instr_s5 hLaid h n r1 hn g1 c1 rc rn rp rr hb
    · exact instr_s6 hLaid h n r1 hn g1 c1 rc rn rp rr hb
    · exact instr_s7 hLaid h n r1 hn g1 c1 rc rn rp rr hb
theorem Near.mono {base b2 : Nat} {w w' : World} (h : Near b2 w w') (hb : base ≤ b2) : Near base w w' := ⟨h.os, h.tape, h.output, h.size, fun k o hk hc => h.block k o hk (hc.imp (fun h1 => Nat.lt_of_lt_of_le h1 hb) id)⟩
theorem Own.nil9 (w : World) (B : Nat) : Own w B 5 (.slice none 0 0) [] := World.ownsRow_nil w B _ 1
theorem ins_whole {x : InsV} (hr : rightIns x = true) (ha : inI64 x.a) : insC [] x = ins5 x := by
  have h := cap_ins x hr (Cap.refl [])
  have hl := ins5_len hr ha
  rcases h with h | h
  · simpa using h
  · have := h.2; simp at this; omega
theorem enc_instr (x : InsV) (w : World) (hL : Spaces w) (hx : InsAt w x) :
    Calls Tryz.prog 30 #[x.val] w fun e w' => e = .returned (.tuple #[.string (bs (ins5 x)), .bool (rightIns x)]) ∧ Below w.heap.size w w' := by
  obtain ⟨op, a, b, lp, lc, ls⟩ := x
  have hx2 := hx
  obtain ⟨hat, hll, hop, ha, hbb, hls⟩ := hx2
  simp only at hat hll hop ha
  obtain ⟨n, hn⟩ : ∃ n, n = ls.length := ⟨_, rfl⟩
  have hal := fun o => (Below.refl w.heap.size w).alloc (Nat.le_refl _) o
  have c1 := op_right op a b lp n lc ls hop.1 hop.2 hn (by omega) (w.alloc (.cells #[.int .i64 op, .int .i64 a, .int .i64 b, .slice lp n lc] 46)) (hL.alloc _) (hat.below (hal _) (Nat.le_refl _))
  have hri : rightOf (byCode op) op a b ls = rightIns ⟨op, a, b, lp, lc, ls⟩ := rfl
  rw [hri] at c1
  cases hr : rightIns ⟨op, a, b, lp, lc, ls⟩ with
  | false =>
    have h5 : ins5 ⟨op, a, b, lp, lc, ls⟩ = [] := by
      unfold ins5
      cases byCode op with
      | none => rfl
      | some r => simp only [hr]; rfl
    rw [hr] at c1
    rw [h5]
    simp only [InsV.val]
    rw [← hn]
    clear hn h5 hri hr hx hat
    go_enter Tryz.func30, Tryz.ntmps30
    go_wp2_with (go_at_call 97; (with_reducible refine c1.mono ?_); rintro e w1 ⟨rfl, hb1⟩)
    go_ret2
    exact ⟨rfl, (hal _).trans (hb1.mono (hal _).size)⟩
  | true =>
    have h5 := ins_whole hr ha
    have c2 : ∀ w1, Below w.heap.size w w1 → Calls Tryz.prog 99 #[.slice none 0 0, .agg #[.int .i64 op, .int .i64 a, .int .i64 b, .slice lp n lc]] w1 (Adds5 w1 w1.heap.size (ins5 ⟨op, a, b, lp, lc, ls⟩)) := fun w1 h => by
      have := instr_puts w ⟨op, a, b, lp, lc, ls⟩ w1 w1.heap.size (.slice none 0 0) [] h h.size (Nat.le_refl _) (Own.nil9 _ _) (by simp) ⟨hr, hx, hL.below h⟩
      rw [h5] at this
      simp only [InsV.val] at this
      rw [← hn] at this
      exact this
    rw [hr] at c1
    simp only [InsV.val]
    rw [← hn]
    generalize ins5 ⟨op, a, b, lp, lc, ls⟩ = D at *
    clear hn h5 hri hr hx hat
    go_enter Tryz.func30, Tryz.ntmps30
    go_wp2_with (first
      | (go_at_call 97; (with_reducible refine c1.mono ?_); rintro e w1 ⟨rfl, hb1⟩; have hB1 := (hal (.cells #[.int .i64 op, .int .i64 a, .int .i64 b, .slice lp n lc] 46)).trans (hb1.mono (hal _).size); obtain ⟨_, q0, q1, q2, q3⟩ := box_4 ((hb1.block w.heap.size (by simp)).trans (heap_alloc_new _ _)); clear c1)
      | (go_at_call 99; (with_reducible refine (c2 _ hB1).mono ?_); rintro e w2 ⟨v2, rfl, h2, n2⟩; have hcv := own_string (P := Tryz.prog) w2 24 9 5 w1.heap.size _ _ D Tryz.underlying24 Tryz.underlying5 Tryz.underlying9 h2))
    go_ret2
    exact ⟨rfl, hB1.trans ((n2.below (Nat.le_refl _)).mono hB1.size)⟩
end Go.Proofs.YthfipknfdnfalaaGreatDoor
namespace Go.Proofs.YthfipknfdnfalaaGreatDoor
set_option maxRecDepth 100000
set_option maxHeartbeats 16000000
open Go.RowKit
set_option linter.unusedVariables false
end Go.Proofs.YthfipknfdnfalaaGreatDoor
