/-
  Package dec reads an instruction: what is held on the way. Facts that the proofs call; no statement is proved here.
-/
import Derived.Test.YthfipknfdnfalaaGreatDoorKaDecInf
import Derived.Test.YthfipknfdnfalaaGreatDoorKaDecLsA
import Derived.Test.YthfipknfdnfalaaGreatDoorKaOpFloat
import Derived.Laws.ResultCell
import Derived.Test.YthfipknfdnfalaaGreatDoorKaRfRd
import Derived.Test.YthfipknfdnfalaaGreatDoorKaOpRefFind
namespace Go.Proofs.YthfipknfdnfalaaGreatDoor
open Go.RowKit
set_option linter.unusedVariables false
theorem one_det (w0 : World) (r : RV) : ∃ n r1, 0 ≤ n ∧ n < 256 ∧ Got pOne r r1 n ∧ ∀ (B M : Nat) (T : TypeId) (rest : List Value) (w : World), RdAt w0 B M T rest r w →
    Calls Tryz.prog 137 #[.pointer (some ⟨B, 0, none⟩)] w fun e w' => e = .returned (.int .u8 n) ∧ RdAt w0 B M T rest r1 w' ∧ Mov B M w w' := by
  by_cases hlt : r.pos < r.s.size
  · have hb := UInt8.toNat_lt r.s[r.pos]
    exact ⟨(r.s[r.pos].toNat : Int), ⟨r.s, r.pos + 1, r.e⟩, by omega, by omega, got_one hlt, fun B M T rest w h => one_yes hlt h⟩
  · exact ⟨0, r.bad 2, by decide, by decide, got_end (by omega), fun B M T rest w h => one_no (by omega) h⟩
def Kept6 (B M : Nat) (l : List (Nat × Obj)) (W : World) : Prop := ∀ p ∈ l, W.heap[p.1]? = some p.2 ∧ p.1 ≠ B ∧ p.1 ≠ M
theorem Kept6.mov {B M : Nat} {l : List (Nat × Obj)} {W W' : World} (h : Kept6 B M l W) (hm : Mov B M W W') : Kept6 B M l W' := fun p hp => by
  obtain ⟨h1, h2, h3⟩ := h p hp
  exact ⟨(hm.block _ (in_heap6 h1) h2 h3).trans h1, h2, h3⟩
theorem Kept6.below {B M : Nat} {l : List (Nat × Obj)} {W W' : World} (h : Kept6 B M l W) (hm : Below W.heap.size W W') : Kept6 B M l W' := h.mov (Mov.of_below hm)
theorem Kept6.alloc {B M : Nat} {l : List (Nat × Obj)} {W : World} (h : Kept6 B M l W) (o : Obj) : Kept6 B M l (W.alloc o) := h.mov ((Mov.refl _ _ _).alloc o)
theorem Kept6.add {B M : Nat} {l : List (Nat × Obj)} {W : World} (h : Kept6 B M l W) (hB : B < W.heap.size) (hM : M < W.heap.size) (o : Obj) : Kept6 B M ((W.heap.size, o) :: l) (W.alloc o) := fun p hp => by
  rcases List.mem_cons.1 hp with rfl | hp
  · exact ⟨heap_alloc_new W o, by show W.heap.size ≠ B; omega, by show W.heap.size ≠ M; omega⟩
  · exact h.alloc o p hp
theorem Kept6.nil (B M : Nat) (W : World) : Kept6 B M [] W := fun p hp => by cases hp
theorem Kept6.one {B M b : Nat} {o : Obj} {l : List (Nat × Obj)} {W : World} (h : Kept6 B M ((b, o) :: l) W) : W.heap[b]? = some o ∧ b ≠ B ∧ b ≠ M := h (b, o) (List.mem_cons_self ..)
theorem Kept6.rest {B M : Nat} {p : Nat × Obj} {l : List (Nat × Obj)} {W : World} (h : Kept6 B M (p :: l) W) : Kept6 B M l W := fun q hq => h q (List.mem_cons_of_mem _ hq)
theorem box_at {W : World} {b : Nat} {u0 u1 u2 u3 : Value} {t : TypeId} (h : W.heap[b]? = some (.cells #[u0, u1, u2, u3] t)) :
    (∀ o, (W.alloc o).cell? ⟨b, 0, none⟩ = some u0) ∧ (∀ o, (W.alloc o).cell? ⟨b, 1, none⟩ = some u1) ∧ (∀ o, (W.alloc o).cell? ⟨b, 2, none⟩ = some u2) ∧ (∀ o, (W.alloc o).cell? ⟨b, 3, none⟩ = some u3) ∧
    W.cell? ⟨b, 0, none⟩ = some u0 ∧ W.cell? ⟨b, 1, none⟩ = some u1 ∧ W.cell? ⟨b, 2, none⟩ = some u2 ∧ W.cell? ⟨b, 3, none⟩ = some u3 ∧
    W.frozen? ⟨b, 0, none⟩ = false ∧ W.frozen? ⟨b, 1, none⟩ = false ∧ W.frozen? ⟨b, 2, none⟩ = false ∧ W.frozen? ⟨b, 3, none⟩ = false := by
  have hl := in_heap6 h
  obtain ⟨_, c0, c1, c2, c3⟩ := box6_4 h
  have z := fun j => (by simp [World.frozen?, h] : W.frozen? ⟨b, j, none⟩ = false)
  exact ⟨fun o => (World.cell?_alloc_lt W o _ hl).trans c0, fun o => (World.cell?_alloc_lt W o _ hl).trans c1, fun o => (World.cell?_alloc_lt W o _ hl).trans c2, fun o => (World.cell?_alloc_lt W o _ hl).trans c3, c0, c1, c2, c3, z 0, z 1, z 2, z 3⟩
def InsNew (w w' : World) (x : InsV) : Prop :=
  w'.ownsRow w.heap.size 3 1 (.slice x.lp x.ls.length x.lc) x.ls.length (x.ls.flatMap rowInt) ∧ x.ls.length ≤ 4096 ∧ (∀ n ∈ x.ls, 0 ≤ n ∧ n < 4294967296) ∧ inI64 x.op ∧ inI64 x.a ∧ inI64 x.b
def DidAs {α β : Type} (w0 : World) (B M : Nat) (T : TypeId) (rest : List Value) (r : RV) (w : World) (P : Pr β) (f : α → β) (val : α → Value) (ok : World → World → α → Prop) (e : Ending) (w' : World) : Prop :=
  ∃ x r', e = .returned (val x) ∧ Got P r r' (f x) ∧ RdAt w0 B M T rest r' w' ∧ Mov B M w w' ∧ ok w w' x
theorem insNew_nil (w w' : World) (op a b : Int) (h1 : inI64 op) (h2 : inI64 a) (h3 : inI64 b) : InsNew w w' (bareI op a b []) := ⟨World.ownsRow_nil _ _ _ _, by simp [bareI], fun n hn => by simp [bareI] at hn, h1, h2, h3⟩
theorem last4 {w0 : World} {B M : Nat} {T : TypeId} {rest : List Value} {r : RV} {w W : World} (h : RdAt w0 B M T rest r W) (m : Mov B M w W) {b : Nat} (v0 v1 v2 v3 : Value) (n1 : b ≠ B) (n2 : b ≠ M) (h0 : w0.heap.size ≤ b) (hb : w.heap.size ≤ b) :
    RdAt w0 B M T rest r ((((W.setCell ⟨b, 0, none⟩ v0).setCell ⟨b, 1, none⟩ v1).setCell ⟨b, 2, none⟩ v2).setCell ⟨b, 3, none⟩ v3) ∧ Mov B M w ((((W.setCell ⟨b, 0, none⟩ v0).setCell ⟨b, 1, none⟩ v1).setCell ⟨b, 2, none⟩ v2).setCell ⟨b, 3, none⟩ v3) :=
  ⟨(((h.other 0 _ n1 n2 h0).other 1 _ n1 n2 h0).other 2 _ n1 n2 h0).other 3 _ n1 n2 h0, (((m.setNew 0 _ hb).setNew 1 _ hb).setNew 2 _ hb).setNew 3 _ hb⟩
theorem own_down {w : World} {base b2 e sz n : Nat} {v : Value} {xs : List Value} (h : w.ownsRow base e sz v n xs) (hb : b2 ≤ base) : w.ownsRow b2 e sz v n xs := by
  obtain ⟨hl, h | ⟨g, cap, cur, hv, hbg, hr⟩⟩ := h
  · exact ⟨hl, .inl h⟩
  · exact ⟨hl, .inr ⟨g, cap, cur, hv, Nat.le_trans hb hbg, hr⟩⟩
structure InsSt (w0 w : World) (B M : Nat) (T : TypeId) (rest : List Value) (b : Nat) (u0 u1 u2 u3 : Value) (r : RV) (W : World) : Prop where
  rd : RdAt w0 B M T rest r W
  mov : Mov B M w W
  res : W.heap[w.heap.size]? = some (.cells #[.int .i64 0, .int .i64 0, .int .i64 0, .slice none 0 0] 46)
  own : W.heap[b]? = some (.cells #[u0, u1, u2, u3] 46)
  n1 : w.heap.size ≠ B
  n2 : w.heap.size ≠ M
  n3 : b ≠ B
  n4 : b ≠ M
  lt : w.heap.size < b
  hw : w0.heap.size ≤ w.heap.size
theorem InsSt.call {w0 w : World} {B M : Nat} {T : TypeId} {rest : List Value} {b : Nat} {u0 u1 u2 u3 : Value} {r r' : RV} {W W' : World} (h : InsSt w0 w B M T rest b u0 u1 u2 u3 r W) (m : Mov B M W W') (hr : RdAt w0 B M T rest r' W') : InsSt w0 w B M T rest b u0 u1 u2 u3 r' W' :=
  ⟨hr, h.mov.trans m, (m.block _ (in_heap6 h.res) h.n1 h.n2).trans h.res, (m.block _ (in_heap6 h.own) h.n3 h.n4).trans h.own, h.n1, h.n2, h.n3, h.n4, h.lt, h.hw⟩
theorem InsSt.set {w0 w : World} {B M : Nat} {T : TypeId} {rest : List Value} {b : Nat} {u0 u1 u2 u3 : Value} {r : RV} {W : World} (h : InsSt w0 w B M T rest b u0 u1 u2 u3 r W) (v : Value) :
    InsSt w0 w B M T rest b u0 v u2 u3 r (W.setCell ⟨b, 1, none⟩ v) ∧ InsSt w0 w B M T rest b u0 u1 v u3 r (W.setCell ⟨b, 2, none⟩ v) ∧ InsSt w0 w B M T rest b u0 u1 u2 v r (W.setCell ⟨b, 3, none⟩ v) := by
  have h0 := Nat.le_trans h.hw (Nat.le_of_lt h.lt)
  have hne := Nat.ne_of_lt h.lt
  have hb := Nat.le_of_lt h.lt
  refine ⟨⟨h.rd.other 1 v h.n3 h.n4 h0, h.mov.setNew 1 v hb, (Below.heap_setCell _ _ _ _ hne).trans h.res, ?_, h.n1, h.n2, h.n3, h.n4, h.lt, h.hw⟩, ⟨h.rd.other 2 v h.n3 h.n4 h0, h.mov.setNew 2 v hb, (Below.heap_setCell _ _ _ _ hne).trans h.res, ?_, h.n1, h.n2, h.n3, h.n4, h.lt, h.hw⟩, ⟨h.rd.other 3 v h.n3 h.n4 h0, h.mov.setNew 3 v hb, (Below.heap_setCell _ _ _ _ hne).trans h.res, ?_, h.n1, h.n2, h.n3, h.n4, h.lt, h.hw⟩⟩ <;> simp [World.setCell, Array.getElem?_modify, h.own]
theorem InsSt.facts {w0 w : World} {B M : Nat} {T : TypeId} {rest : List Value} {b : Nat} {u0 u1 u2 u3 : Value} {r : RV} {W : World} (h : InsSt w0 w B M T rest b u0 u1 u2 u3 r W) :
    (W.cell? ⟨w.heap.size, 0, none⟩ = some (.int .i64 0) ∧ W.cell? ⟨w.heap.size, 1, none⟩ = some (.int .i64 0) ∧ W.cell? ⟨w.heap.size, 2, none⟩ = some (.int .i64 0) ∧ W.cell? ⟨w.heap.size, 3, none⟩ = some (.slice none 0 0) ∧
    W.frozen? ⟨w.heap.size, 0, none⟩ = false ∧ W.frozen? ⟨w.heap.size, 1, none⟩ = false ∧ W.frozen? ⟨w.heap.size, 2, none⟩ = false ∧ W.frozen? ⟨w.heap.size, 3, none⟩ = false) ∧
    W.cell? ⟨b, 0, none⟩ = some u0 ∧ W.cell? ⟨b, 1, none⟩ = some u1 ∧ W.cell? ⟨b, 2, none⟩ = some u2 ∧ W.cell? ⟨b, 3, none⟩ = some u3 ∧
    W.frozen? ⟨b, 0, none⟩ = false ∧ W.frozen? ⟨b, 1, none⟩ = false ∧ W.frozen? ⟨b, 2, none⟩ = false ∧ W.frozen? ⟨b, 3, none⟩ = false ∧ w.heap.size ≠ b ∧ w.heap.size < W.heap.size :=
  ⟨(box_at h.res).2.2.2.2, (box_at h.own).2.2.2.2.1, (box_at h.own).2.2.2.2.2.1, (box_at h.own).2.2.2.2.2.2.1, (box_at h.own).2.2.2.2.2.2.2.1, (box_at h.own).2.2.2.2.2.2.2.2.1, (box_at h.own).2.2.2.2.2.2.2.2.2.1, (box_at h.own).2.2.2.2.2.2.2.2.2.2.1, (box_at h.own).2.2.2.2.2.2.2.2.2.2.2, Nat.ne_of_lt h.lt, in_heap6 h.res⟩
theorem Got.congr {α : Type} {P Q : Pr α} {r r' : RV} {x : α} (h : Got P r r' x) (e : ∀ l, P l = Q l) : Got Q r r' x := by
  obtain ⟨h1, h2⟩ := h
  rw [e] at h2
  exact ⟨h1, h2⟩
theorem got_tail1 {n k : Int} {r r' : RV} (h : Got (pOne.and fun k => if k = 64 then .val k else (pKind k).and fun _ => .val k) r r' k) : Got (pTail 1 n) r r' (bareI n k 0 []) := by
  refine (h.map fun k => bareI n k 0 []).congr fun l => ?_
  unfold pTail
  rw [if_pos rfl]
  cases l with
  | nil => rfl
  | cons b l =>
    unfold Pr.and pOne
    simp only
    by_cases hk : (b.toNat : Int) = 64
    · rw [if_pos hk, if_pos hk]; rfl
    · rw [if_neg hk, if_neg hk]
      unfold Pr.val
      cases pKind (b.toNat : Int) l <;> rfl
theorem insNew_list {w W3 w' : World} {n j : Int} {vp : Option Addr} {vc : Nat} {l : List Int} (h : w'.ownsRow W3.heap.size 3 1 (.slice vp l.length vc) l.length (l.flatMap rowInt)) (hs : w.heap.size ≤ W3.heap.size) (hok : ∀ x ∈ l, 0 ≤ x ∧ x < 4294967296) (hl : l.length ≤ 4096) (hn : 0 ≤ n ∧ n < 256) (p0 : 0 ≤ j) (p1 : j < 4294967296) :
    InsNew w w' ⟨n, j, 0, vp, vc, l⟩ := by
  refine ⟨own_down h hs, hl, hok, by unfold inI64; simp only; omega, by unfold inI64; simp only; omega, by unfold inI64; simp only; omega⟩
theorem InsSt.done {w0 w : World} {B M : Nat} {T : TypeId} {rest : List Value} {b : Nat} {u0 u1 u2 u3 : Value} {r : RV} {W : World} (h : InsSt w0 w B M T rest b u0 u1 u2 u3 r W) (v0 v1 v2 v3 : Value) :
    RdAt w0 B M T rest r ((((W.setCell ⟨w.heap.size, 0, none⟩ v0).setCell ⟨w.heap.size, 1, none⟩ v1).setCell ⟨w.heap.size, 2, none⟩ v2).setCell ⟨w.heap.size, 3, none⟩ v3) ∧ Mov B M w ((((W.setCell ⟨w.heap.size, 0, none⟩ v0).setCell ⟨w.heap.size, 1, none⟩ v1).setCell ⟨w.heap.size, 2, none⟩ v2).setCell ⟨w.heap.size, 3, none⟩ v3) :=
  last4 h.rd h.mov v0 v1 v2 v3 h.n1 h.n2 h.hw (Nat.le_refl _)
theorem heap_sets {w : World} {a b g : Nat} (v v0 v1 v2 v3 : Value) (h1 : g ≠ b) (h2 : g ≠ a) : (((((w.setCell ⟨b, 1, none⟩ v).setCell ⟨a, 0, none⟩ v0).setCell ⟨a, 1, none⟩ v1).setCell ⟨a, 2, none⟩ v2).setCell ⟨a, 3, none⟩ v3).heap[g]? = w.heap[g]? :=
  (Below.heap_setCell _ _ _ _ h2).trans ((Below.heap_setCell _ _ _ _ h2).trans ((Below.heap_setCell _ _ _ _ h2).trans ((Below.heap_setCell _ _ _ _ h2).trans (Below.heap_setCell _ _ _ _ h1))))
theorem insNew_sets {w W3 w6 : World} {b : Nat} {n j : Int} {vp : Option Addr} {vc : Nat} {l : List Int} (v v0 v1 v2 v3 : Value) (h : w6.ownsRow W3.heap.size 3 1 (.slice vp l.length vc) l.length (l.flatMap rowInt)) (hb : b < W3.heap.size) (hw : w.heap.size < b) (hok : ∀ x ∈ l, 0 ≤ x ∧ x < 4294967296) (hl : l.length ≤ 4096) (hn : 0 ≤ n ∧ n < 256) (p0 : 0 ≤ j) (p1 : j < 4294967296) :
    InsNew w (((((w6.setCell ⟨b, 1, none⟩ v).setCell ⟨w.heap.size, 0, none⟩ v0).setCell ⟨w.heap.size, 1, none⟩ v1).setCell ⟨w.heap.size, 2, none⟩ v2).setCell ⟨w.heap.size, 3, none⟩ v3) ⟨n, j, 0, vp, vc, l⟩ :=
  insNew_list (own_same h fun g hg => by have := (own_lt6 h g hg).1; exact heap_sets v v0 v1 v2 v3 (by omega) (by omega)) (by omega) hok hl hn p0 p1
theorem number_each (w0 : World) (B M : Nat) (T : TypeId) (rest : List Value) (r : RV) (W : World) (hr : RdAt w0 B M T rest r W) : Calls Tryz.prog 150 (#[.pointer (some ⟨B, 0, none⟩)] ++ #[]) W (Did w0 B M T rest r W pNum valInt (fun _ _ x => 0 ≤ x ∧ x < 4294967296)) := number_reads w0 B M T rest r W hr
theorem enters_num6 : ∀ args w, (callFunc 150 args).run Tryz.prog w = .ok (.enter 150 args) w := enters_of Tryz.func150 (by kernel_rfl) rfl
theorem numbers_reads {w0 : World} {B M : Nat} {T : TypeId} {rest : List Value} {r : RV} {w : World} (h : RdAt w0 B M T rest r w) :
    Calls Tryz.prog 151 #[.pointer (some ⟨B, 0, none⟩), .func (.func 150) #[] #[]] w (DidList w0 B M T rest r w pNum 3 1 rowInt (fun x => 0 ≤ x ∧ x < 4294967296)) :=
  list_int enters_num6 (number_each w0) h
end Go.Proofs.YthfipknfdnfalaaGreatDoor
namespace Go.Proofs.YthfipknfdnfalaaGreatDoor
open Go.RowKit
set_option linter.unusedVariables false
theorem QAt.other {w0 : World} {B : Nat} {s : ByteArray} {n : Nat} {r : RV} {w : World} (h : QAt w0 B s n r w) {b : Nat} (j : Nat) (v : Value) (hb : b ≠ B) (h0 : w0.heap.size ≤ b) : QAt w0 B s n r (w.setCell ⟨b, j, none⟩ v) :=
  ⟨((Mov.refl b b w).set j v).below h.below h0 h0, (Below.heap_setCell _ _ _ _ (Ne.symm hb)).trans h.box, h.hB, h.text, h.size, h.pos, h.fits⟩
theorem q_last4 {w0 : World} {B : Nat} {s : ByteArray} {n : Nat} {r : RV} {w W : World} (h : QAt w0 B s n r W) (m : Mov B B w W) {b : Nat} (v0 v1 v2 v3 : Value) (n1 : b ≠ B) (h0 : w0.heap.size ≤ b) (hb : w.heap.size ≤ b) :
    QAt w0 B s n r ((((W.setCell ⟨b, 0, none⟩ v0).setCell ⟨b, 1, none⟩ v1).setCell ⟨b, 2, none⟩ v2).setCell ⟨b, 3, none⟩ v3) ∧ Mov B B w ((((W.setCell ⟨b, 0, none⟩ v0).setCell ⟨b, 1, none⟩ v1).setCell ⟨b, 2, none⟩ v2).setCell ⟨b, 3, none⟩ v3) :=
  ⟨(((h.other 0 _ n1 h0).other 1 _ n1 h0).other 2 _ n1 h0).other 3 _ n1 h0, (((m.setNew 0 _ hb).setNew 1 _ hb).setNew 2 _ hb).setNew 3 _ hb⟩
structure QSt (w0 w : World) (B : Nat) (s : ByteArray) (n : Nat) (b : Nat) (u0 u1 u2 u3 : Value) (r : RV) (W : World) : Prop where
  rd : QAt w0 B s n r W
  mov : Mov B B w W
  res : W.heap[w.heap.size]? = some (.cells #[.int .i64 0, .int .i64 0, .int .i64 0, .slice none 0 0] 46)
  own : W.heap[b]? = some (.cells #[u0, u1, u2, u3] 46)
  n1 : w.heap.size ≠ B
  n3 : b ≠ B
  lt : w.heap.size < b
  hw : w0.heap.size ≤ w.heap.size
theorem QSt.call {w0 w : World} {B : Nat} {s : ByteArray} {n : Nat} {b : Nat} {u0 u1 u2 u3 : Value} {r r' : RV} {W W' : World} (h : QSt w0 w B s n b u0 u1 u2 u3 r W) (m : Mov B B W W') (hr : QAt w0 B s n r' W') : QSt w0 w B s n b u0 u1 u2 u3 r' W' :=
  ⟨hr, h.mov.trans m, (m.block _ (in_heap6 h.res) h.n1 h.n1).trans h.res, (m.block _ (in_heap6 h.own) h.n3 h.n3).trans h.own, h.n1, h.n3, h.lt, h.hw⟩
theorem QSt.err {w0 w : World} {B : Nat} {s : ByteArray} {n : Nat} {b : Nat} {u0 u1 u2 u3 : Value} {r : RV} {W : World} (h : QSt w0 w B s n b u0 u1 u2 u3 r W) (k : Int) : QSt w0 w B s n b u0 u1 u2 u3 ⟨r.s, r.pos, k⟩ (W.setCell ⟨B, 3, none⟩ (.int .i64 k)) :=
  h.call ((Mov.refl B B W).set 3 _) (h.rd.set3 k)
theorem QSt.set {w0 w : World} {B : Nat} {s : ByteArray} {n : Nat} {b : Nat} {u0 u1 u2 u3 : Value} {r : RV} {W : World} (h : QSt w0 w B s n b u0 u1 u2 u3 r W) (v : Value) :
    QSt w0 w B s n b u0 v u2 u3 r (W.setCell ⟨b, 1, none⟩ v) ∧ QSt w0 w B s n b u0 u1 v u3 r (W.setCell ⟨b, 2, none⟩ v) ∧ QSt w0 w B s n b u0 u1 u2 v r (W.setCell ⟨b, 3, none⟩ v) := by
  have h0 := Nat.le_trans h.hw (Nat.le_of_lt h.lt)
  have hne := Nat.ne_of_lt h.lt
  have hb := Nat.le_of_lt h.lt
  refine ⟨⟨h.rd.other 1 v h.n3 h0, h.mov.setNew 1 v hb, (Below.heap_setCell _ _ _ _ hne).trans h.res, ?_, h.n1, h.n3, h.lt, h.hw⟩, ⟨h.rd.other 2 v h.n3 h0, h.mov.setNew 2 v hb, (Below.heap_setCell _ _ _ _ hne).trans h.res, ?_, h.n1, h.n3, h.lt, h.hw⟩, ⟨h.rd.other 3 v h.n3 h0, h.mov.setNew 3 v hb, (Below.heap_setCell _ _ _ _ hne).trans h.res, ?_, h.n1, h.n3, h.lt, h.hw⟩⟩ <;> simp [World.setCell, Array.getElem?_modify, h.own]
theorem QSt.facts {w0 w : World} {B : Nat} {s : ByteArray} {n : Nat} {b : Nat} {u0 u1 u2 u3 : Value} {r : RV} {W : World} (h : QSt w0 w B s n b u0 u1 u2 u3 r W) :
    (W.cell? ⟨w.heap.size, 0, none⟩ = some (.int .i64 0) ∧ W.cell? ⟨w.heap.size, 1, none⟩ = some (.int .i64 0) ∧ W.cell? ⟨w.heap.size, 2, none⟩ = some (.int .i64 0) ∧ W.cell? ⟨w.heap.size, 3, none⟩ = some (.slice none 0 0) ∧
    W.frozen? ⟨w.heap.size, 0, none⟩ = false ∧ W.frozen? ⟨w.heap.size, 1, none⟩ = false ∧ W.frozen? ⟨w.heap.size, 2, none⟩ = false ∧ W.frozen? ⟨w.heap.size, 3, none⟩ = false) ∧
    W.cell? ⟨b, 0, none⟩ = some u0 ∧ W.cell? ⟨b, 1, none⟩ = some u1 ∧ W.cell? ⟨b, 2, none⟩ = some u2 ∧ W.cell? ⟨b, 3, none⟩ = some u3 ∧
    W.frozen? ⟨b, 0, none⟩ = false ∧ W.frozen? ⟨b, 1, none⟩ = false ∧ W.frozen? ⟨b, 2, none⟩ = false ∧ W.frozen? ⟨b, 3, none⟩ = false ∧ w.heap.size ≠ b ∧ w.heap.size < W.heap.size :=
  ⟨(box_at h.res).2.2.2.2, (box_at h.own).2.2.2.2.1, (box_at h.own).2.2.2.2.2.1, (box_at h.own).2.2.2.2.2.2.1, (box_at h.own).2.2.2.2.2.2.2.1, (box_at h.own).2.2.2.2.2.2.2.2.1, (box_at h.own).2.2.2.2.2.2.2.2.2.1, (box_at h.own).2.2.2.2.2.2.2.2.2.2.1, (box_at h.own).2.2.2.2.2.2.2.2.2.2.2, Nat.ne_of_lt h.lt, in_heap6 h.res⟩
theorem QSt.done {w0 w : World} {B : Nat} {s : ByteArray} {n : Nat} {b : Nat} {u0 u1 u2 u3 : Value} {r : RV} {W : World} (h : QSt w0 w B s n b u0 u1 u2 u3 r W) (v0 v1 v2 v3 : Value) :
    QAt w0 B s n r ((((W.setCell ⟨w.heap.size, 0, none⟩ v0).setCell ⟨w.heap.size, 1, none⟩ v1).setCell ⟨w.heap.size, 2, none⟩ v2).setCell ⟨w.heap.size, 3, none⟩ v3) ∧ Mov B B w ((((W.setCell ⟨w.heap.size, 0, none⟩ v0).setCell ⟨w.heap.size, 1, none⟩ v1).setCell ⟨w.heap.size, 2, none⟩ v2).setCell ⟨w.heap.size, 3, none⟩ v3) :=
  q_last4 h.rd h.mov v0 v1 v2 v3 h.n1 h.hw (Nat.le_refl _)
theorem QSt.start {w0 w w1 w2 : World} {B : Nat} {s : ByteArray} {n : Nat} {r : RV} (h1 : QAt w0 B s n r w1) (m : Mov B B w w1) (hres : w1.heap[w.heap.size]? = some (.cells #[.int .i64 0, .int .i64 0, .int .i64 0, .slice none 0 0] 46)) (hB : B < w.heap.size) (hw : w0.heap.size ≤ w.heap.size) (hb : Below w1.heap.size w1 w2) (o : Obj) (b : Int) :
    QSt w0 w B s n (w2.heap.size + 1) (.int .i64 b) (.int .i64 0) (.int .i64 0) (.slice none 0 0) r ((w2.alloc o).alloc (.cells #[.int .i64 b, .int .i64 0, .int .i64 0, .slice none 0 0] 46)) := by
  have hs := hb.size
  have hs1 := m.size
  have hl := in_heap6 hres
  have hbb := (hb.alloc hs o).alloc (by simp; omega) (.cells #[.int .i64 b, .int .i64 0, .int .i64 0, .slice none 0 0] 46)
  refine ⟨h1.at' hbb, m.then hbb, (hbb.block _ hl).trans hres, ?_, by omega, by omega, by omega, hw⟩
  have := heap_alloc_new (w2.alloc o) (.cells #[.int .i64 b, .int .i64 0, .int .i64 0, .slice none 0 0] 46)
  simpa using this
theorem QAt.grown {w0 : World} {B : Nat} {s : ByteArray} {n : Nat} {r : RV} {w w' : World} {row : Option Nat} (h : QAt w0 B s n r w) (g : w.grownBy w' row) (hB : ∀ k, row = some k → B < k) : QAt w0 B s n r w' :=
  ⟨h.below.trans ⟨g.os, g.tape, g.output, g.size, fun k hk => g.block k (Nat.lt_of_lt_of_le hk h.below.size) (fun e => by have := hB k e.symm; have := h.hB; omega)⟩, (g.block B (in_heap6 h.box) (fun e => by have := hB B e.symm; omega)).trans h.box, h.hB, h.text, h.size, h.pos, h.fits⟩
theorem QSt.grown {w0 w : World} {B : Nat} {s : ByteArray} {n : Nat} {b : Nat} {u0 u1 u2 u3 : Value} {r : RV} {W W' : World} {row : Option Nat} (h : QSt w0 w B s n b u0 u1 u2 u3 r W) (g : W.grownBy W' row) (hB : B < b) (hr : ∀ k, row = some k → b < k) : QSt w0 w B s n b u0 u1 u2 u3 r W' :=
  ⟨h.rd.grown g (fun k e => by have := hr k e; omega), h.mov.grown g (fun k e => by have := hr k e; have := h.lt; omega), (g.block _ (in_heap6 h.res) (fun e => by have := hr _ e.symm; have := h.lt; omega)).trans h.res, (g.block _ (in_heap6 h.own) (fun e => by have := hr _ e.symm; omega)).trans h.own, h.n1, h.n3, h.lt, h.hw⟩
theorem QSt.alloc {w0 w : World} {B : Nat} {s : ByteArray} {n : Nat} {b : Nat} {u0 u1 u2 u3 : Value} {r : RV} {W : World} (h : QSt w0 w B s n b u0 u1 u2 u3 r W) (o : Obj) : QSt w0 w B s n b u0 u1 u2 u3 r (W.alloc o) :=
  h.call ((Mov.refl B B W).alloc o) (h.rd.alloc o)
theorem sets4_far {W : World} {a g : Nat} (v0 v1 v2 v3 : Value) (h : g ≠ a) : ((((W.setCell ⟨a, 0, none⟩ v0).setCell ⟨a, 1, none⟩ v1).setCell ⟨a, 2, none⟩ v2).setCell ⟨a, 3, none⟩ v3).heap[g]? = W.heap[g]? :=
  (Below.heap_setCell _ _ _ _ h).trans ((Below.heap_setCell _ _ _ _ h).trans ((Below.heap_setCell _ _ _ _ h).trans (Below.heap_setCell _ _ _ _ h)))
theorem insNew_lab {w W : World} {a bx : Nat} {n j : Int} {vp : Option Addr} {vc : Nat} {l : List Int} (v0 v1 v2 v3 : Value) (h : W.ownsRow (bx + 1) 3 1 (.slice vp l.length vc) l.length (l.flatMap rowInt)) (ha : a ≤ bx) (hw : w.heap.size ≤ a) (hok : ∀ x ∈ l, 0 ≤ x ∧ x < 4294967296) (hl : l.length ≤ 4096) (hn : inI64 n) (hj : inI64 j) :
    InsNew w ((((W.setCell ⟨a, 0, none⟩ v0).setCell ⟨a, 1, none⟩ v1).setCell ⟨a, 2, none⟩ v2).setCell ⟨a, 3, none⟩ v3) ⟨n, j, 0, vp, vc, l⟩ :=
  ⟨own_same (own_down h (by omega)) fun g hg => by have := (own_lt6 h g hg).1; exact sets4_far v0 v1 v2 v3 (by omega), hl, hok, hn, hj, (by show inI64 0; unfold inI64; omega)⟩
end Go.Proofs.YthfipknfdnfalaaGreatDoor
namespace Go.Proofs.YthfipknfdnfalaaGreatDoor
open Go.RowKit
set_option linter.unusedVariables false
set_option maxRecDepth 100000 in
set_option maxHeartbeats 8000000 in
theorem q_ins_s3 {w0 : World} {B : Nat} {s : ByteArray} {n : Nat} {r : RV} {w : World} (h : QAt w0 B s n r w) (b : Int) (r1 : RV) (hb : 0 ≤ b ∧ b < 256) (g1 : Got pOne r r1 b) (he1 : r1.e = 0)
    (c1 : ∀ w, QAt w0 B s n r w → Calls Tryz.prog 53 #[.pointer (some ⟨B, 0, none⟩)] w fun e w' => e = .returned (.int .i64 b) ∧ QAt w0 B s n r1 w' ∧ Mov B B w w') (rc : Int) (rn rp rr : ByteArray) (hR : byCode b = some ⟨rc, rn, 3, rp, rr⟩) :
    Calls Tryz.prog 63 #[.pointer (some ⟨B, 0, none⟩)] w (DidQ w0 B s n r w pIns InsV.bare InsV.val InsNew) := by
  have hb0 := hb.1
  have hb1 := hb.2
  have hlt := in_heap6 h.box
  have hw0 := h.below.size
  have n1 : w.heap.size ≠ B := by omega
  have ha := h.alloc (.cells #[.int .i64 0, .int .i64 0, .int .i64 0, .slice none 0 0] 46)
  have hres := heap_alloc_new w (.cells #[.int .i64 0, .int .i64 0, .int .i64 0, .slice none 0 0] 46)
  clear h
  have h6 := byCode_6 hR
  have hf : isFloat b = false := h6.1
  have h17 : ¬ b = 17 := h6.2.1
  have cf := ref_float b
  rw [hf] at cf
  have hq17 : (b == 17) = false := beq_eq_false_iff_ne.2 h17
  have co := fun W => ref_of b W
  rw [hR] at co
  rw [show infoVal (some ⟨rc, rn, 3, rp, rr⟩) = .agg #[.string rn, .int .i64 3, .string rp, .string rr] from rfl, show (some (⟨rc, rn, 3, rp, rr⟩ : Rw)).isSome = true from rfl] at co
  have hgo : ∀ (r2 : RV) (x : InsV), Got (pTail 3 b) r1 r2 x → Got pIns r r2 x := fun r2 x hg => g1.and (by rw [if_neg (by rw [hf]; simp; exact h17), hR]; exact hg)
  clear h6 hR h17 g1
  go_enter Tryz.func63, Tryz.ntmps63
  go_wp2_with fail
  refine (c1 _ ha).mono ?_
  rintro e w1 ⟨rfl, h1, m1⟩
  have mm1 := ((Mov.refl B B w).alloc (.cells #[.int .i64 0, .int .i64 0, .int .i64 0, .slice none 0 0] 46)).trans m1
  have hr1 := (m1.block w.heap.size (by simp) n1 n1).trans hres
  obtain ⟨x0, x1, x2, x3, y0, y1, y2, y3⟩ := h1.reads
  obtain ⟨_, _, _, _, t0, t1, t2, t3, f0, f1, f2, f3⟩ := box_at hr1
  have hls := in_heap6 hr1
  clear c1 ha hres m1
  rw [he1] at x3
  go_wp2_with (first
    | (go_at_call 154; (with_reducible refine (cf _).mono ?_); rintro e w2 ⟨rfl, rfl⟩)
    | (go_at_call 119; (with_reducible refine (co _).mono ?_); rintro e w3 ⟨rfl, hb3⟩; have S := QSt.start h1 mm1 hr1 hlt hw0 hb3 (.cells #[.string rn, .int .i64 3, .string rp, .string rr] 182) b; clear x0 x1 x2 x3 y0 y1 y2 y3 t0 t1 t2 t3 f0 f1 f2 f3 hr1 h1 mm1 co cf; obtain ⟨⟨t0, t1, t2, t3, f0, f1, f2, f3⟩, e0, e1, e2, e3, z0, z1, z2, z3, nb, hlW⟩ := S.facts; obtain ⟨x0, x1, x2, x3, y0, y1, y2, y3⟩ := S.rd.reads; rw [he1] at x3))
  refine (q_many S.rd).mono ?_
  rintro e w4 ⟨cnt, r4, rfl, g4, h4, m4, k0, k1⟩
  have S4 := S.call m4 h4
  obtain ⟨N, rfl⟩ := Int.eq_ofNat_of_zero_le k0
  have hN : N ≤ 4096 := by omega
  clear x0 x1 x2 x3 y0 y1 y2 y3 t0 t1 t2 t3 f0 f1 f2 f3 e0 e1 e2 e3 z0 z1 z2 z3 nb hlW
  obtain ⟨⟨t0, t1, t2, t3, f0, f1, f2, f3⟩, e0, e1, e2, e3, z0, z1, z2, z3, nb, hlW⟩ := S4.facts
  obtain ⟨x0, x1, x2, x3, y0, y1, y2, y3⟩ := S4.rd.reads
  dsimp only [valInt6]
  have G4 := Lib.hid g4
  clear S m4 h4 g4 hb3
  generalize hbx : w3.heap.size + 1 = bx at *
  have hbl := in_heap6 S4.own
  clear hbx
  go_wp2
  go_loopw [10] (fun i wr => ∃ (k : Nat) (ls : List Int) (rk : RV) (lp : Option Addr) (lc : Nat), k ≤ N ∧ i = .int .i64 k ∧ ls.length = k ∧ wr.ownsRow (bx + 1) 3 1 (.slice lp k lc) k (ls.flatMap rowInt) ∧ QSt w0 w B s n bx (.int .i64 b) (.int .i64 0) (.int .i64 0) (.slice lp k lc) rk wr ∧ Hid (Got (pRep pNum k) r4 rk ls) ∧ ∀ x ∈ ls, 0 ≤ x ∧ x < 4294967296) (fun i _ => N - (intOf i).toNat)
  case atStart => exact ⟨0, [], r4, none, 0, Nat.zero_le _, rfl, rfl, World.ownsRow_nil _ _ _ _, S4, Lib.hid (Got.zero r4), fun x hx => by cases hx⟩
  case round =>
    obtain ⟨k, ls, rk, lp, lc, hk, rfl, hlk, hown, hS, HG, hok⟩ := hrel
    clear S4 x0 x1 x2 x3 y0 y1 y2 y3 t0 t1 t2 t3 f0 f1 f2 f3 e0 e1 e2 e3 z0 z1 z2 z3 nb hlW
    obtain ⟨⟨t0, t1, t2, t3, f0, f1, f2, f3⟩, e0, e1, e2, e3, z0, z1, z2, z3, nb, hlW⟩ := hS.facts
    obtain ⟨x0, x1, x2, x3, y0, y1, y2, y3⟩ := hS.rd.reads
    by_cases hlt : k < N
    · by_cases he : rk.e = 0
      · rw [he] at x3
        have HE := Lib.hid he
        have hd : Below wr.heap.size wr wr.drew := (Below.refl _ _).drew
        have hSd := hS.call (Mov.of_below hd) (hS.rd.at' hd)
        clear he
        have ownd : wr.drew.ownsRow (bx + 1) 3 1 (.slice lp k lc) k (ls.flatMap rowInt) := own_same hown fun g _ => rfl
        have hBb : B < bx := by have := hS.lt; omega
        obtain ⟨i0, hi, hz0, hz1, hz2⟩ := info_parts info_int
        go_wp2
        go_region_law (first
          | (go_simp; go_at_call 57; refine (q_number hSd.rd).mono ?_; rintro e w5 ⟨v, r5, rfl, g5, h5, m5, v0, v1⟩; have S5 := hSd.call m5 h5; have hb5 := in_heap6 S5.own; have own5 := fun o => (own_mov ownd m5 (by omega) (by omega)).alloc o; have hne6 : (Value.slice lp k lc).ownBlock ≠ some bx := fun e => (by have := (own_lt6 ownd bx e).1; omega); obtain ⟨⟨s0, s1, s2, s3, l0, l1, l2, l3⟩, d0, d1, d2, d3, j0, j1, j2, j3, _, _⟩ := S5.facts; dsimp only [valInt6])
          | (refine step_code rfl (.tmp 102) (.tmp 105) 23 rfl (bx + 1) 3 i0 (.int .i64 0) 1 8 Tryz.underlying23 hi hz0 hz1 hz2 rfl (by decide) (.slice lp k lc) k (ls.flatMap rowInt) rfl (own5 (.cells #[.int .i64 v] 3)) ⟨w5.heap.size, 0, none⟩ 1 1 [.int .i64 v] rfl rfl (cells_new6 w5 [.int .i64 v] 3) (by intro u hu; simp at hu; subst hu; rfl) (by unfold maxLen; omega) (by omega) (by (first | (simp; done) | (simp; omega))) ?_; intro v' w6 hown' hgrow; have hbw := (hgrow.block bx (by (first | (simp; done) | (simp; omega))) (fun e => hne6 e.symm)).trans ((Below.heap_alloc w5 _ _ hb5).trans S5.own); obtain ⟨_, _, _, _, p0, p1, p2, p3, q0, q1, q2, q3⟩ := box_at hbw; obtain ⟨vp, vc, rfl⟩ := own_any6 hown'))
        all_goals
          have S6 := (((S5.alloc (.cells #[.int .i64 v] 3)).grown hgrow hBb (fun g e => by have := (own_lt6 ownd g e).1; omega)).set (.slice vp (k + 1) vc)).2.2
          have own6 : (w6.setCell ⟨bx, 3, none⟩ (.slice vp (k + 1) vc)).ownsRow (bx + 1) 3 1 (.slice vp (k + 1) vc) (k + 1) ((ls ++ [v]).flatMap rowInt) := by
            have e : (ls ++ [v]).flatMap rowInt = ls.flatMap rowInt ++ [.int .i64 v] := by simp [rowInt]
            rw [e]
            exact own_same hown' fun g hg => by have := (own_lt6 hown' g hg).1; exact Below.heap_setCell _ _ _ _ (by show g ≠ bx; omega)
          have HR := Lib.hid (HG.out.more g5 HE.out)
          have hl6 : (ls ++ [v]).length = k + 1 := by simp [hlk]
          have hok6 : ∀ x ∈ ls ++ [v], 0 ≤ x ∧ x < 4294967296 := fun x hx => by
            rcases List.mem_append.1 hx with hx | hx
            · exact hok x hx
            · rw [List.mem_singleton.1 hx]; exact ⟨v0, v1⟩
          clear S5 hgrow hown' hbw p0 p1 p2 p3 q0 q1 q2 q3
          go_wp2
          go_roundw
          case rel => exact ⟨k + 1, ls ++ [v], r5, vp, vc, by omega, by go_num, hl6, own6, S6, HR, hok6⟩
          case measure => simp [intOf]; omega
      · have hq : (rk.e == 0) = false := beq_eq_false_iff_ne.2 he
        have HL := Lib.hid (Got.list G4.out ((HG.out.short (n := (N : Int).toNat) (by simp; omega) he ls)))
        have hBb : B < bx := by have := hS.lt; omega
        have hown0 := hlk
        have S4 := hS
        clear HG hown0
        go_wp2_with fail
        refine (q_number hS.rd).mono ?_
        rintro e w6 ⟨j, r6, rfl, g6, h6, m6, j0, j1⟩
        have S6 := hS.call m6 h6
        have own6 := own_mov hown m6 (by omega) (by omega)
        clear x0 x1 x2 x3 y0 y1 y2 y3 t0 t1 t2 t3 f0 f1 f2 f3 e0 e1 e2 e3 z0 z1 z2 z3 nb hlW hS S4 hown m6 h6
        obtain ⟨⟨t0, t1, t2, t3, f0, f1, f2, f3⟩, e0, e1, e2, e3, z0, z1, z2, z3, nb, hlW⟩ := S6.facts
        obtain ⟨x0, x1, x2, x3, y0, y1, y2, y3⟩ := S6.rd.reads
        dsimp only [valInt6]
        go_wp2
        refine bodyPost_ret (v := .agg #[.int .i64 b, .int .i64 j, .int .i64 0, .slice lp k lc]) ?_ rfl ?_
        · rw [results_one_cell rfl]; go_simp
        · have S7 := (S6.set (.int .i64 j)).1
          have hl := S7.done (.int .i64 b) (.int .i64 j) (.int .i64 0) (.slice lp k lc)
          have own7 : (w6.setCell ⟨bx, 1, none⟩ (.int .i64 j)).ownsRow (bx + 1) 3 1 (.slice lp k lc) k (ls.flatMap rowInt) := own_same own6 fun g hg => by have := (own_lt6 own6 g hg).1; exact Below.heap_setCell _ _ _ _ (by show g ≠ bx; omega)
          subst hlk
          exact ⟨⟨b, j, 0, lp, lc, ls⟩, r6, rfl, hgo _ _ (HL.out.and (g6.map fun a => bareI b a 0 ls)), hl.1, hl.2, insNew_lab _ _ _ _ own7 (Nat.le_of_lt S7.lt) (Nat.le_refl _) hok (by omega) (by unfold inI64; omega) (by unfold inI64; omega)⟩
    · have hkN : k = N := by omega
      have HL := Lib.hid (Got.list (n := (N : Int)) G4.out (l := ls) (by rw [Int.toNat_natCast, ← hkN]; exact HG.out))
      clear hkN
      have hBb : B < bx := by have := hS.lt; omega
      have hown0 := hlk
      have S4 := hS
      clear HG hown0
      go_wp2_with fail
      refine (q_number hS.rd).mono ?_
      rintro e w6 ⟨j, r6, rfl, g6, h6, m6, j0, j1⟩
      have S6 := hS.call m6 h6
      have own6 := own_mov hown m6 (by omega) (by omega)
      clear x0 x1 x2 x3 y0 y1 y2 y3 t0 t1 t2 t3 f0 f1 f2 f3 e0 e1 e2 e3 z0 z1 z2 z3 nb hlW hS S4 hown m6 h6
      obtain ⟨⟨t0, t1, t2, t3, f0, f1, f2, f3⟩, e0, e1, e2, e3, z0, z1, z2, z3, nb, hlW⟩ := S6.facts
      obtain ⟨x0, x1, x2, x3, y0, y1, y2, y3⟩ := S6.rd.reads
      dsimp only [valInt6]
      go_wp2
      refine bodyPost_ret (v := .agg #[.int .i64 b, .int .i64 j, .int .i64 0, .slice lp k lc]) ?_ rfl ?_
      · rw [results_one_cell rfl]; go_simp
      · have S7 := (S6.set (.int .i64 j)).1
        have hl := S7.done (.int .i64 b) (.int .i64 j) (.int .i64 0) (.slice lp k lc)
        have own7 : (w6.setCell ⟨bx, 1, none⟩ (.int .i64 j)).ownsRow (bx + 1) 3 1 (.slice lp k lc) k (ls.flatMap rowInt) := own_same own6 fun g hg => by have := (own_lt6 own6 g hg).1; exact Below.heap_setCell _ _ _ _ (by show g ≠ bx; omega)
        subst hlk
        exact ⟨⟨b, j, 0, lp, lc, ls⟩, r6, rfl, hgo _ _ (HL.out.and (g6.map fun a => bareI b a 0 ls)), hl.1, hl.2, insNew_lab _ _ _ _ own7 (Nat.le_of_lt S7.lt) (Nat.le_refl _) hok (by omega) (by unfold inI64; omega) (by unfold inI64; omega)⟩
end Go.Proofs.YthfipknfdnfalaaGreatDoor
