/-
  Facts and contracts that the proof calls.
-/
import Derived.Test.YtdinpakclmnacaaGreatDoorKfEncSpec
import Derived.Test.YtdinpakclmnacaaGreatDoorKfOpLists
import Derived.BigQuiet
namespace Go.Proofs.YtdinpakclmnacaaGreatDoor
set_option maxRecDepth 100000
set_option maxHeartbeats 16000000
open Go.RowKit
set_option linter.unusedVariables false
structure RV where
  s : ByteArray
  pos : Nat
  e : Int
def RV.cells (r : RV) (M : Nat) : List Value := [.string r.s, .int .i64 r.pos, .int .i64 r.e, .map (some M)]
def RV.rem (r : RV) : List UInt8 := r.s.data.toList.drop r.pos
def cnt6 (p : Nat → Bool) : Nat → Nat
  | 0 => 0
  | n + 1 => cnt6 p n + (if p n then 1 else 0)
theorem cnt6_le (p : Nat → Bool) : ∀ n, cnt6 p n ≤ n
  | 0 => by simp [cnt6]
  | n + 1 => by have := cnt6_le p n; unfold cnt6; split <;> omega
theorem cnt6_more {p q : Nat → Bool} {c : Nat} (hp : p c = false) (hq : q c = true) (ho : ∀ k, k ≠ c → q k = p k) : ∀ n, cnt6 q n = cnt6 p n + (if c < n then 1 else 0)
  | 0 => by simp [cnt6]
  | n + 1 => by
    have ih := cnt6_more hp hq ho n
    unfold cnt6
    by_cases h : n = c
    · subst h; rw [ih, hp, hq]; simp
    · rw [ih, ho n h]; split <;> split <;> split <;> omega
def zinfo : DataW Unit := infoD ⟨#[]⟩ 0 ⟨#[]⟩ ⟨#[]⟩
structure Infos (M : Nat) (w : World) (D : DataW Unit) : Prop where
  own : w.ownsMap Tryz.prog 3 (infoRead (H := Unit)) M (cnt6 (fun c => Maps.has D (.int .i64 (c : Int))) 256) D
  map : Maps.IsMap D
  known : ∀ c : Int, Maps.has D (.int .i64 c) = true → ∃ r, byCode c = some r ∧ D.atKey (.int .i64 c) zinfo = infoD r.name r.shape r.params r.results
structure RdAt (w0 : World) (B M : Nat) (T : TypeId) (rest : List Value) (r : RV) (w : World) : Prop where
  below : Below w0.heap.size w0 w
  box : w.heap[B]? = some (.cells (r.cells M ++ rest).toArray T)
  infos : ∃ D, Infos M w D
  ne : M ≠ B
  hB : w0.heap.size ≤ B
  hM : w0.heap.size ≤ M
  size : r.s.size ≤ 281474976710656
  pos : r.pos ≤ r.s.size
structure Mov (B M : Nat) (w w' : World) : Prop where
  os : w'.os = w.os
  tape : w'.tape = w.tape
  output : w'.output = w.output
  size : w.heap.size ≤ w'.heap.size
  block : ∀ k, k < w.heap.size → k ≠ B → k ≠ M → w'.heap[k]? = w.heap[k]?
theorem Mov.refl (B M : Nat) (w : World) : Mov B M w w := ⟨rfl, rfl, rfl, Nat.le_refl _, fun _ _ _ _ => rfl⟩
theorem Mov.trans {B M : Nat} {a b c : World} (h : Mov B M a b) (k : Mov B M b c) : Mov B M a c := ⟨k.os.trans h.os, k.tape.trans h.tape, k.output.trans h.output, Nat.le_trans h.size k.size, fun i hi h1 h2 => (k.block i (Nat.lt_of_lt_of_le hi h.size) h1 h2).trans (h.block i hi h1 h2)⟩
theorem Mov.of_below {B M : Nat} {w w' : World} (h : Below w.heap.size w w') : Mov B M w w' := ⟨h.os, h.tape, h.output, h.size, fun k hk _ _ => h.block k hk⟩
theorem Mov.alloc {B M : Nat} {w w' : World} (h : Mov B M w w') (o : Obj) : Mov B M w (w'.alloc o) := h.trans (Mov.of_below ((Below.refl _ _).alloc (Nat.le_refl _) _))
theorem Mov.drew {B M : Nat} {w w' : World} (h : Mov B M w w') : Mov B M w w'.drew := h.trans (Mov.of_below (Below.refl _ _).drew)
theorem Mov.then {B M : Nat} {w w1 w2 : World} (h : Mov B M w w1) (k : Below w1.heap.size w1 w2) : Mov B M w w2 := h.trans (Mov.of_below k)
theorem Mov.below {B M : Nat} {w0 w w' : World} (h : Mov B M w w') (hb : Below w0.heap.size w0 w) (hB : w0.heap.size ≤ B) (hM : w0.heap.size ≤ M) : Below w0.heap.size w0 w' :=
  hb.trans ⟨h.os, h.tape, h.output, h.size, fun k hk => h.block k (Nat.lt_of_lt_of_le hk hb.size) (by omega) (by omega)⟩
theorem Mov.set {B M : Nat} {w w' : World} (h : Mov B M w w') (j : Nat) (v : Value) : Mov B M w (w'.setCell ⟨B, j, none⟩ v) :=
  h.trans ⟨rfl, rfl, rfl, by simp [World.setCell], fun k _ h1 _ => Below.heap_setCell _ _ _ _ h1⟩
theorem in_heap6 {w : World} {b : Nat} {o : Obj} (h : w.heap[b]? = some o) : b < w.heap.size := (Array.getElem?_eq_some_iff.1 h).1
theorem ownsMap_same {P : Program} {k : TypeId} {R : Value → Option (DataW Unit × List MemPlace)} {b n : Nat} {D : DataW Unit} {w w' : World} (h : w.ownsMap P k R b n D) (e : w'.heap[b]? = w.heap[b]?) : w'.ownsMap P k R b n D := by
  obtain ⟨es, c, h1, h2⟩ := h
  exact ⟨es, c, e.trans h1, h2⟩
theorem ownsMap_in {P : Program} {k : TypeId} {R : Value → Option (DataW Unit × List MemPlace)} {b n : Nat} {D : DataW Unit} {w : World} (h : w.ownsMap P k R b n D) : b < w.heap.size := by
  obtain ⟨es, c, h1, h2⟩ := h
  exact in_heap6 h1
theorem Infos.same {M : Nat} {w w' : World} {D : DataW Unit} (h : Infos M w D) (e : w'.heap[M]? = w.heap[M]?) : Infos M w' D := ⟨ownsMap_same h.own e, h.map, h.known⟩
theorem RdAt.at' {w0 : World} {B M : Nat} {T : TypeId} {rest : List Value} {r : RV} {w w' : World} (h : RdAt w0 B M T rest r w) (hb : Below w.heap.size w w') : RdAt w0 B M T rest r w' := by
  obtain ⟨D, hD⟩ := h.infos
  exact ⟨h.below.trans (hb.mono h.below.size), (hb.block _ (in_heap6 h.box)).trans h.box, ⟨D, hD.same (hb.block _ (ownsMap_in hD.own))⟩, h.ne, h.hB, h.hM, h.size, h.pos⟩
theorem RdAt.alloc {w0 : World} {B M : Nat} {T : TypeId} {rest : List Value} {r : RV} {w : World} (h : RdAt w0 B M T rest r w) (o : Obj) : RdAt w0 B M T rest r (w.alloc o) := h.at' ((Below.refl _ _).alloc (Nat.le_refl _) _)
theorem RdAt.drew {w0 : World} {B M : Nat} {T : TypeId} {rest : List Value} {r : RV} {w : World} (h : RdAt w0 B M T rest r w) : RdAt w0 B M T rest r w.drew := h.at' (Below.refl _ _).drew
theorem RdAt.drewN {w0 : World} {B M : Nat} {T : TypeId} {rest : List Value} {r : RV} {w : World} (h : RdAt w0 B M T rest r w) (q : Nat) : RdAt w0 B M T rest r (w.drewN q) := h.at' (below_drewN (Below.refl _ _) q)
theorem Mov.drewN {B M : Nat} {w w' : World} (h : Mov B M w w') (q : Nat) : Mov B M w (w'.drewN q) := h.trans (Mov.of_below (below_drewN (Below.refl _ _) q))
theorem RdAt.reads {w0 : World} {B M : Nat} {T : TypeId} {rest : List Value} {r : RV} {w : World} (h : RdAt w0 B M T rest r w) :
    w.cell? ⟨B, 0, none⟩ = some (.string r.s) ∧ w.cell? ⟨B, 1, none⟩ = some (.int .i64 r.pos) ∧ w.cell? ⟨B, 2, none⟩ = some (.int .i64 r.e) ∧ w.cell? ⟨B, 3, none⟩ = some (.map (some M)) ∧
    w.frozen? ⟨B, 0, none⟩ = false ∧ w.frozen? ⟨B, 1, none⟩ = false ∧ w.frozen? ⟨B, 2, none⟩ = false ∧ w.frozen? ⟨B, 3, none⟩ = false := by
  have c : ∀ j, w.cell? ⟨B, j, none⟩ = (r.cells M ++ rest)[j]? := fun j => by rw [World.cell?, h.box]; simp
  have f : ∀ j, w.frozen? ⟨B, j, none⟩ = false := fun j => by simp [World.frozen?, h.box]
  exact ⟨c 0, c 1, c 2, c 3, f 0, f 1, f 2, f 3⟩
theorem RdAt.set1 {w0 : World} {B M : Nat} {T : TypeId} {rest : List Value} {r : RV} {w : World} (h : RdAt w0 B M T rest r w) (n : Nat) (hn : n ≤ r.s.size) : RdAt w0 B M T rest ⟨r.s, n, r.e⟩ (w.setCell ⟨B, 1, none⟩ (.int .i64 n)) := by
  obtain ⟨D, hD⟩ := h.infos
  exact ⟨((Mov.refl B M w).set 1 _).below h.below h.hB h.hM, by simp [World.setCell, Array.getElem?_modify, h.box, RV.cells], ⟨D, hD.same (Below.heap_setCell _ _ _ _ h.ne)⟩, h.ne, h.hB, h.hM, h.size, hn⟩
theorem RdAt.set2 {w0 : World} {B M : Nat} {T : TypeId} {rest : List Value} {r : RV} {w : World} (h : RdAt w0 B M T rest r w) (n : Int) : RdAt w0 B M T rest ⟨r.s, r.pos, n⟩ (w.setCell ⟨B, 2, none⟩ (.int .i64 n)) := by
  obtain ⟨D, hD⟩ := h.infos
  exact ⟨((Mov.refl B M w).set 2 _).below h.below h.hB h.hM, by simp [World.setCell, Array.getElem?_modify, h.box, RV.cells], ⟨D, hD.same (Below.heap_setCell _ _ _ _ h.ne)⟩, h.ne, h.hB, h.hM, h.size, h.pos⟩
theorem RdAt.set0 {w0 : World} {B M : Nat} {T : TypeId} {rest : List Value} {r : RV} {w : World} (h : RdAt w0 B M T rest r w) (s : ByteArray) (hs : s.size ≤ 281474976710656) (hp : r.pos ≤ s.size) : RdAt w0 B M T rest ⟨s, r.pos, r.e⟩ (w.setCell ⟨B, 0, none⟩ (.string s)) := by
  obtain ⟨D, hD⟩ := h.infos
  exact ⟨((Mov.refl B M w).set 0 _).below h.below h.hB h.hM, by simp [World.setCell, Array.getElem?_modify, h.box, RV.cells], ⟨D, hD.same (Below.heap_setCell _ _ _ _ h.ne)⟩, h.ne, h.hB, h.hM, hs, hp⟩
def Got {α : Type} (P : Pr α) (r r' : RV) (x : α) : Prop :=
  r'.s = r.s ∧ ((r.e ≠ 0 ∧ r'.e = r.e) ∨ (r.e = 0 ∧ r'.e = 0 ∧ P r.rem = .ok x r'.rem) ∨ (r.e = 0 ∧ r'.e ≠ 0 ∧ P r.rem = .bad r'.e))
theorem Got.and {α β : Type} {p : Pr α} {f : α → Pr β} {r r1 r2 : RV} {x : α} {y : β} (h : Got p r r1 x) (k : Got (f x) r1 r2 y) : Got (p.and f) r r2 y := by
  obtain ⟨hs, h⟩ := h
  obtain ⟨ks, k⟩ := k
  refine ⟨ks.trans hs, ?_⟩
  rcases h with ⟨h1, h2⟩ | ⟨h1, h2, h3⟩ | ⟨h1, h2, h3⟩
  · rcases k with ⟨k1, k2⟩ | ⟨k1, _⟩ | ⟨k1, _⟩
    · exact .inl ⟨h1, k2.trans h2⟩
    · exact absurd (h2.symm.trans k1) h1
    · exact absurd (h2.symm.trans k1) h1
  · rcases k with ⟨k1, k2⟩ | ⟨_, k2, k3⟩ | ⟨_, k2, k3⟩
    · exact absurd h2 k1
    · exact .inr (.inl ⟨h1, k2, (and_ok h3).trans k3⟩)
    · exact .inr (.inr ⟨h1, k2, (and_ok h3).trans k3⟩)
  · rcases k with ⟨k1, k2⟩ | ⟨k1, _⟩ | ⟨k1, _⟩
    · exact .inr (.inr ⟨h1, by rw [k2]; exact h2, by rw [k2]; exact and_bad h3⟩)
    · exact absurd k1 h2
    · exact absurd k1 h2
theorem Got.val {α : Type} (x : α) (r : RV) : Got (Pr.val x) r r x := by
  refine ⟨rfl, ?_⟩
  by_cases h : r.e = 0
  · exact .inr (.inl ⟨h, h, rfl⟩)
  · exact .inl ⟨h, rfl⟩
def RV.bad (r : RV) (k : Int) : RV := ⟨r.s, r.pos, if r.e = 0 then k else r.e⟩
theorem Got.no {α : Type} {k : Int} (hk : k ≠ 0) (x : α) (r : RV) : Got (Pr.no k) r (r.bad k) x := by
  refine ⟨rfl, ?_⟩
  unfold RV.bad
  by_cases h : r.e = 0
  · exact .inr (.inr ⟨h, by simp [h, hk], by simp [h, Pr.no]⟩)
  · exact .inl ⟨h, by simp [h]⟩
theorem Got.map {α β : Type} {p : Pr α} {r r' : RV} {x : α} (h : Got p r r' x) (f : α → β) : Got (p.and fun v => .val (f v)) r r' (f x) := h.and (Got.val _ _)
theorem Got.bad {α β : Type} {p : Pr α} {q : Pr β} {r r' : RV} {x : α} (y : β) (h : Got p r r' x) (hq : ∀ k, p r.rem = .bad k → q r.rem = .bad k) (hx : r'.e ≠ 0) : Got q r r' y := by
  obtain ⟨hs, h⟩ := h
  refine ⟨hs, ?_⟩
  rcases h with h | ⟨_, h2, _⟩ | ⟨h1, h2, h3⟩
  · exact .inl h
  · exact absurd h2 hx
  · exact .inr (.inr ⟨h1, h2, hq _ h3⟩)
def Did {α : Type} (w0 : World) (B M : Nat) (T : TypeId) (rest : List Value) (r : RV) (w : World) (P : Pr α) (val : α → Value) (ok : World → World → α → Prop) (e : Ending) (w' : World) : Prop :=
  ∃ x r', e = .returned (val x) ∧ Got P r r' x ∧ RdAt w0 B M T rest r' w' ∧ Mov B M w w' ∧ ok w w' x
def Reads6 {α : Type} (w0 : World) (g : Nat) (P : Pr α) (val : α → Value) (ok : World → World → α → Prop) : Prop :=
  ∀ (B M : Nat) (T : TypeId) (rest : List Value) (r : RV) (w : World), RdAt w0 B M T rest r w → Calls Tryz.prog g #[.pointer (some ⟨B, 0, none⟩)] w (Did w0 B M T rest r w P val ok)
theorem fail_of {w0 : World} {B M : Nat} {T : TypeId} {rest : List Value} {r : RV} {w : World} (h : RdAt w0 B M T rest r w) (k : Int) :
    Calls Tryz.prog 115 #[.pointer (some ⟨B, 0, none⟩), .int .i64 k] w fun e w' => e = .returned (.tuple #[]) ∧ RdAt w0 B M T rest (r.bad k) w' ∧ Mov B M w w' := by
  obtain ⟨c0, c1, c2, c3, f0, f1, f2, f3⟩ := h.reads
  by_cases he : r.e = 0
  · have e1 : r.bad k = ⟨r.s, r.pos, k⟩ := by unfold RV.bad; rw [if_pos he]
    rw [e1]
    have h2 := h.set2 k
    have m2 := (Mov.refl B M w).set 2 (.int .i64 k)
    rw [he] at c2
    clear h he e1
    go_enter Tryz.func115, Tryz.ntmps115
    go_wp2
    go_end0
    exact ⟨rfl, h2, m2⟩
  · have e1 : r.bad k = r := by unfold RV.bad; rw [if_neg he]
    rw [e1]
    have hq : (r.e == 0) = false := beq_eq_false_iff_ne.2 he
    have m2 := Mov.refl B M w
    clear e1
    go_enter Tryz.func115, Tryz.ntmps115
    go_wp2
    go_end0
    exact ⟨rfl, h, m2⟩
end Go.Proofs.YtdinpakclmnacaaGreatDoor
