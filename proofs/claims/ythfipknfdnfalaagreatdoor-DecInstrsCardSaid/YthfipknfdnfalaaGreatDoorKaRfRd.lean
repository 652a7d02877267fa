/-
  The document's own reader, as it lies in memory; its first calls walked. Contracts that the proofs call; no statement is proved here.
-/
import Derived.Test.YthfipknfdnfalaaGreatDoorKaDecRdB
import Derived.Test.YthfipknfdnfalaaGreatDoorKaLebBits
namespace Go.Proofs.YthfipknfdnfalaaGreatDoor
open Go.RowKit
set_option linter.unusedVariables false
structure QAt (w0 : World) (B : Nat) (s : ByteArray) (n : Nat) (r : RV) (w : World) : Prop where
  below : Below w0.heap.size w0 w
  box : w.heap[B]? = some (.cells #[.string s, .int .i64 r.pos, .int .i64 n, .int .i64 r.e] 120)
  hB : w0.heap.size ≤ B
  text : r.s = s.extract 0 n
  size : s.size ≤ 140737488355328
  pos : r.pos ≤ n
  fits : n ≤ s.size
theorem QAt.rsize {w0 : World} {B : Nat} {s : ByteArray} {n : Nat} {r : RV} {w : World} (h : QAt w0 B s n r w) : r.s.size = n := by rw [h.text, ByteArray.size_extract]; have := h.fits; omega
theorem QAt.at' {w0 : World} {B : Nat} {s : ByteArray} {n : Nat} {r : RV} {w w' : World} (h : QAt w0 B s n r w) (hb : Below w.heap.size w w') : QAt w0 B s n r w' :=
  ⟨h.below.trans (hb.mono h.below.size), (hb.block _ (in_heap6 h.box)).trans h.box, h.hB, h.text, h.size, h.pos, h.fits⟩
theorem QAt.drewN {w0 : World} {B : Nat} {s : ByteArray} {n : Nat} {r : RV} {w : World} (h : QAt w0 B s n r w) (q : Nat) : QAt w0 B s n r (w.drewN q) := h.at' (below_drewN (Below.refl _ _) q)
theorem QAt.alloc {w0 : World} {B : Nat} {s : ByteArray} {n : Nat} {r : RV} {w : World} (h : QAt w0 B s n r w) (o : Obj) : QAt w0 B s n r (w.alloc o) := h.at' ((Below.refl _ _).alloc (Nat.le_refl _) _)
theorem QAt.reads {w0 : World} {B : Nat} {s : ByteArray} {n : Nat} {r : RV} {w : World} (h : QAt w0 B s n r w) :
    w.cell? ⟨B, 0, none⟩ = some (.string s) ∧ w.cell? ⟨B, 1, none⟩ = some (.int .i64 r.pos) ∧ w.cell? ⟨B, 2, none⟩ = some (.int .i64 n) ∧ w.cell? ⟨B, 3, none⟩ = some (.int .i64 r.e) ∧
    w.frozen? ⟨B, 0, none⟩ = false ∧ w.frozen? ⟨B, 1, none⟩ = false ∧ w.frozen? ⟨B, 2, none⟩ = false ∧ w.frozen? ⟨B, 3, none⟩ = false := by
  have c : ∀ j, w.cell? ⟨B, j, none⟩ = (#[.string s, .int .i64 r.pos, .int .i64 n, .int .i64 r.e] : Array Value)[j]? := fun j => by rw [World.cell?, h.box]; simp
  have f : ∀ j, w.frozen? ⟨B, j, none⟩ = false := fun j => by simp [World.frozen?, h.box]
  exact ⟨c 0, c 1, c 2, c 3, f 0, f 1, f 2, f 3⟩
theorem QAt.set1 {w0 : World} {B : Nat} {s : ByteArray} {n : Nat} {r : RV} {w : World} (h : QAt w0 B s n r w) (k : Nat) (hk : k ≤ n) : QAt w0 B s n ⟨r.s, k, r.e⟩ (w.setCell ⟨B, 1, none⟩ (.int .i64 k)) :=
  ⟨((Mov.refl B B w).set 1 _).below h.below h.hB h.hB, by simp [World.setCell, Array.getElem?_modify, h.box], h.hB, h.text, h.size, hk, h.fits⟩
theorem QAt.set3 {w0 : World} {B : Nat} {s : ByteArray} {n : Nat} {r : RV} {w : World} (h : QAt w0 B s n r w) (k : Int) : QAt w0 B s n ⟨r.s, r.pos, k⟩ (w.setCell ⟨B, 3, none⟩ (.int .i64 k)) :=
  ⟨((Mov.refl B B w).set 3 _).below h.below h.hB h.hB, by simp [World.setCell, Array.getElem?_modify, h.box], h.hB, h.text, h.size, h.pos, h.fits⟩
theorem RV.bad_zero {r : RV} (h : r.e = 0) (k : Int) : r.bad k = ⟨r.s, r.pos, k⟩ := by unfold RV.bad; rw [if_pos h]
theorem RV.bad_not {r : RV} (h : r.e ≠ 0) (k : Int) : r.bad k = r := by unfold RV.bad; rw [if_neg h]
def DidQ {α β : Type} (w0 : World) (B : Nat) (s : ByteArray) (n : Nat) (r : RV) (w : World) (P : Pr β) (f : α → β) (val : α → Value) (ok : World → World → α → Prop) (e : Ending) (w' : World) : Prop :=
  ∃ x r', e = .returned (val x) ∧ Got P r r' (f x) ∧ QAt w0 B s n r' w' ∧ Mov B B w w' ∧ ok w w' x
set_option maxHeartbeats 1000000 in
theorem q_fails {w0 : World} {B : Nat} {s : ByteArray} {n : Nat} {r : RV} {w : World} (h : QAt w0 B s n r w) (k : Int) :
    Calls Tryz.prog 54 #[.pointer (some ⟨B, 0, none⟩), .int .i64 k] w fun e w' => e = .returned (.tuple #[]) ∧ QAt w0 B s n (r.bad k) w' ∧ Mov B B w w' := by
  obtain ⟨c0, c1, c2, c3, f0, f1, f2, f3⟩ := h.reads
  by_cases he : r.e = 0
  · rw [RV.bad_zero he]
    have h2 := h.set3 k
    have m2 := (Mov.refl B B w).set 3 (.int .i64 k)
    rw [he] at c3
    clear h he
    go_enter Tryz.func54, Tryz.ntmps54
    go_wp2
    go_end0
    exact ⟨rfl, h2, m2⟩
  · rw [RV.bad_not he]
    have hq : (r.e == 0) = false := beq_eq_false_iff_ne.2 he
    have m2 := Mov.refl B B w
    go_enter Tryz.func54, Tryz.ntmps54
    go_wp2
    go_end0
    exact ⟨rfl, h, m2⟩
theorem q_rem {w0 : World} {B : Nat} {s : ByteArray} {n : Nat} {r : RV} {w : World} (h : QAt w0 B s n r w) (hlt : r.pos < n) : ∃ hb : r.pos < s.size, r.rem = s[r.pos] :: r.s.data.toList.drop (r.pos + 1) := by
  have hf := h.fits
  refine ⟨by omega, ?_⟩
  have hr := h.rsize
  have e := rem_cons (r := r) (by omega)
  rw [e]
  congr 1
  have h1 : r.s.data.toList[r.pos]? = s.data.toList[r.pos]? := by
    rw [h.text, ByteArray.data_extract, Array.toList_extract, List.extract_eq_take_drop, List.drop_zero]
    simp [List.getElem?_take]
    omega
  have a1 : r.s.data.toList[r.pos]? = some r.s[r.pos] := by rw [List.getElem?_eq_getElem (by rw [Array.length_toList]; show r.pos < r.s.size; omega)]; rfl
  have a2 : s.data.toList[r.pos]? = some s[r.pos] := by rw [List.getElem?_eq_getElem (by rw [Array.length_toList]; show r.pos < s.size; omega)]; rfl
  rw [a1, a2] at h1
  exact Option.some.inj h1
def valInt6 (n : Int) : Value := .int .i64 n
set_option maxRecDepth 100000 in
set_option maxHeartbeats 2000000 in
theorem q_one_yes {w0 : World} {B : Nat} {s : ByteArray} {n : Nat} {r : RV} {w : World} (h : QAt w0 B s n r w) (he : r.e = 0) (hlt : r.pos < n) (b : Int) (hb : ∃ hb : r.pos < s.size, b = (s[r.pos].toNat : Int)) :
    Calls Tryz.prog 53 #[.pointer (some ⟨B, 0, none⟩)] w fun e w' => e = .returned (.int .i64 b) ∧ QAt w0 B s n ⟨r.s, r.pos + 1, r.e⟩ w' ∧ Mov B B w w' := by
  obtain ⟨c0, c1, c2, c3, f0, f1, f2, f3⟩ := h.reads
  have hsz := h.size
  have hps := h.pos
  have hft := h.fits
  obtain ⟨hb, rfl⟩ := hb
  have hu := UInt8.toNat_lt s[r.pos]
  have hcast : ((r.pos + 1 : Nat) : Int) = (r.pos : Int) + 1 := by omega
  have hq : ¬ (n : Int) ≤ (r.pos : Int) := by omega
  have h1 := fun q => (h.drewN q).set1 (r.pos + 1) hlt
  have m1 := fun q => ((Mov.refl B B w).drewN q).set 1 (.int .i64 ((r.pos + 1 : Nat) : Int))
  rw [hcast] at m1 h1
  rw [he] at c3
  clear h he
  go_enter Tryz.func53, Tryz.ntmps53
  go_wp2
  go_quiet (fail)
  go_wp2
  replace h1 := h1 nq
  replace m1 := m1 nq
  generalize (w.drewN nq).setCell ⟨B, 1, none⟩ (.int .i64 ((r.pos : Int) + 1)) = W at *
  obtain ⟨d0, d1, d2, d3, g0, g1, g2, g3⟩ := h1.reads
  simp only [hcast] at d1
  have z1 : (0 : Int) ≤ (r.pos : Int) + 1 - 1 := by omega
  have z2 : (r.pos : Int) + 1 - 1 < (s.size : Int) := by omega
  clear c0 c1 c2 c3 f0 f1 f2 f3
  go_quiet (fail)
  go_wp2
  go_ret
  exact ⟨rfl, h1.drewN _, m1.drewN _⟩
set_option maxRecDepth 100000 in
set_option maxHeartbeats 2000000 in
theorem q_one_end {w0 : World} {B : Nat} {s : ByteArray} {n : Nat} {r : RV} {w : World} (h : QAt w0 B s n r w) (he : r.e = 0) (hlt : ¬ r.pos < n) :
    Calls Tryz.prog 53 #[.pointer (some ⟨B, 0, none⟩)] w fun e w' => e = .returned (.int .i64 0) ∧ QAt w0 B s n ⟨r.s, r.pos, 2⟩ w' ∧ Mov B B w w' := by
  obtain ⟨c0, c1, c2, c3, f0, f1, f2, f3⟩ := h.reads
  have h2 := fun q => (h.drewN q).set3 2
  have m2 := fun q => ((Mov.refl B B w).drewN q).set 3 (.int .i64 2)
  have hq : (n : Int) ≤ (r.pos : Int) := by omega
  rw [he] at c3
  clear h he
  go_enter Tryz.func53, Tryz.ntmps53
  go_wp2
  go_quiet (fail)
  go_wp2
  go_ret
  exact ⟨rfl, h2 _, m2 _⟩
set_option maxRecDepth 100000 in
set_option maxHeartbeats 2000000 in
theorem q_one_not {w0 : World} {B : Nat} {s : ByteArray} {n : Nat} {r : RV} {w : World} (h : QAt w0 B s n r w) (he : r.e ≠ 0) :
    Calls Tryz.prog 53 #[.pointer (some ⟨B, 0, none⟩)] w fun e w' => e = .returned (.int .i64 0) ∧ QAt w0 B s n r w' ∧ Mov B B w w' := by
  obtain ⟨c0, c1, c2, c3, f0, f1, f2, f3⟩ := h.reads
  have hq : (r.e != 0) = true := by simpa using he
  clear he
  go_enter Tryz.func53, Tryz.ntmps53
  go_wp2
  go_ret
  exact ⟨rfl, h, Mov.refl _ _ _⟩
theorem q_det {w0 : World} {B : Nat} {s : ByteArray} {n : Nat} {r : RV} {w : World} (h : QAt w0 B s n r w) : ∃ b r1, 0 ≤ b ∧ b < 256 ∧ Got pOne r r1 b ∧ (r1.e ≠ 0 → b = 0) ∧ ∀ w, QAt w0 B s n r w →
    Calls Tryz.prog 53 #[.pointer (some ⟨B, 0, none⟩)] w fun e w' => e = .returned (.int .i64 b) ∧ QAt w0 B s n r1 w' ∧ Mov B B w w' := by
  by_cases he : r.e = 0
  · by_cases hlt : r.pos < n
    · obtain ⟨hb, hrem⟩ := q_rem h hlt
      have hu := UInt8.toNat_lt s[r.pos]
      exact ⟨(s[r.pos].toNat : Int), ⟨r.s, r.pos + 1, r.e⟩, by omega, by omega, ⟨rfl, .inr (.inl ⟨he, he, by rw [hrem]; rfl⟩)⟩, fun h => absurd he h, fun w h => q_one_yes h he hlt _ ⟨hb, rfl⟩⟩
    · have hg := got_end (r := r) (by have := h.rsize; omega)
      rw [RV.bad_zero he] at hg
      exact ⟨0, ⟨r.s, r.pos, 2⟩, by decide, by decide, hg, fun _ => rfl, fun w h => q_one_end h he hlt⟩
  · exact ⟨0, r, by decide, by decide, ⟨rfl, .inl ⟨he, rfl⟩⟩, fun _ => rfl, fun w h => q_one_not h he⟩
def fit32 (v : Int) : Prop := 0 ≤ v ∧ v < 4294967296
set_option maxRecDepth 100000 in
set_option maxHeartbeats 2000000 in
theorem q_number {w0 : World} {B : Nat} {s : ByteArray} {n : Nat} {r : RV} {w : World} (h : QAt w0 B s n r w) :
    Calls Tryz.prog 57 #[.pointer (some ⟨B, 0, none⟩)] w (DidQ w0 B s n r w pNum id valInt6 (fun _ _ k => fit32 k)) := by
  obtain ⟨c0, c1, c2, c3, f0, f1, f2, f3⟩ := h.reads
  have hft := h.fits
  have hps := h.pos
  have hrs := h.rsize
  by_cases he : r.e = 0
  · have hl : r.pos ≤ r.s.data.toList.length := by rw [Array.length_toList]; show r.pos ≤ r.s.size; omega
    have hsz : (s.extract 0 n).size ≤ maxLen := by rw [← h.text, hrs]; have := h.size; unfold maxLen; omega
    have zn : (n : Int) ≤ (s.size : Int) := by omega
    have zn0 : (0 : Int) ≤ (n : Int) := by omega
    rw [he] at c3
    rcases fit_ans (K := .u32) (p := usg) (most := 5) hl with ⟨v, k, e1, e2, e3, e4, e5⟩ | ⟨e1, e2⟩
    · have cg : ∀ W, Calls Tryz.prog 142 #[.string (s.extract 0 n), .int .i64 r.pos] W fun e w' => e = .returned (.tuple #[.int .u32 v, .int .i64 ((r.pos + k : Nat) : Int), .int .i64 0]) ∧ w' = W := fun W => by
        have := ref_get_u32 (s.extract 0 n) r.pos (x := v) (y := ((r.pos + k : Nat) : Int)) (z := 0) (by rw [← h.text]; exact e2) hsz W
        exact this.mono fun e w' ⟨h1, h2⟩ => ⟨h1, h2.symm⟩
      rw [Array.length_toList] at e3
      have hk : r.pos + k ≤ n := by rw [← hrs]; exact e3
      have h1 := fun q => (h.drewN q).set1 (r.pos + k) hk
      have m1 := fun q => ((Mov.refl B B w).drewN q).set 1 (.int .i64 ((r.pos + k : Nat) : Int))
      have hg : Got pNum r ⟨r.s, r.pos + k, r.e⟩ v := ⟨rfl, .inr (.inl ⟨he, he, e1⟩)⟩
      have hv : 0 ≤ v ∧ v < 4294967296 := by simp [IntKind.min, IntKind.max, IntKind.signed, IntKind.bits] at e4 e5; omega
      obtain ⟨z, hz⟩ : ∃ z : Int, ((r.pos + k : Nat) : Int) = z := ⟨_, rfl⟩
      rw [hz] at cg m1 h1
      have HZ := Lib.hid hz
      obtain ⟨v0, v1⟩ := hv
      clear h e1 e2 hz hl e4 e5 he
      go_enter Tryz.func57, Tryz.ntmps57
      go_wp2
      go_quiet ((go_at_call 142; refine Calls.quiet_of_same (cg _)))
      go_wp2
      go_ret
      exact ⟨v, _, rfl, hg, h1 _, m1 _, v0, v1⟩
    · have cg : ∀ W, Calls Tryz.prog 142 #[.string (s.extract 0 n), .int .i64 r.pos] W fun e w' => e = .returned (.tuple #[.int .u32 0, .int .i64 0, .int .i64 2]) ∧ w' = W := fun W => by
        have := ref_get_u32 (s.extract 0 n) r.pos (x := 0) (y := 0) (z := 2) (by rw [← h.text]; exact e2) hsz W
        exact this.mono fun e w' ⟨h1, h2⟩ => ⟨h1, h2.symm⟩
      have h1 := fun q => (h.drewN q).set3 2
      have m1 := fun q => ((Mov.refl B B w).drewN q).set 3 (.int .i64 2)
      have hg : Got pNum r ⟨r.s, r.pos, 2⟩ 0 := ⟨rfl, .inr (.inr ⟨he, (by show (2 : Int) ≠ 0; decide), e1⟩)⟩
      clear h e1 e2 hl he
      go_enter Tryz.func57, Tryz.ntmps57
      go_wp2
      go_quiet ((go_at_call 142; refine Calls.quiet_of_same (cg _)))
      go_wp2
      go_ret
      exact ⟨0, _, rfl, hg, h1 _, m1 _, by decide, by decide⟩
  · have hq : (r.e != 0) = true := by simpa using he
    have hg : Got pNum r r 0 := ⟨rfl, .inl ⟨he, rfl⟩⟩
    clear he
    go_enter Tryz.func57, Tryz.ntmps57
    go_wp2
    go_ret
    exact ⟨0, r, rfl, hg, h, Mov.refl _ _ _, by decide, by decide⟩
theorem sign_ans {s : ByteArray} {n : Nat} {r : RV} {w0 : World} {B : Nat} {w : World} (h : QAt w0 B s n r w) (he : r.e = 0) (K : IntKind) (p : Int → Int) (most : Nat) (g : Nat) (kind : IntKind)
    (cr : ∀ (s : ByteArray) (place x y z : Int), ans K p most s.data.toList place = (x, y, z) → s.size ≤ maxLen → ∀ W, Calls Tryz.prog g #[.string s, .int .i64 place] W fun e w' => e = .returned (.tuple #[.int kind x, .int .i64 y, .int .i64 z]) ∧ W = w') :
    (∃ v k, Got (pFit K p most) r ⟨r.s, r.pos + k, r.e⟩ v ∧ r.pos + k ≤ n ∧ K.min ≤ v ∧ v ≤ K.max ∧ ∀ W, Calls Tryz.prog g #[.string (s.extract 0 n), .int .i64 r.pos] W fun e w' => e = .returned (.tuple #[.int kind v, .int .i64 ((r.pos + k : Nat) : Int), .int .i64 0]) ∧ w' = W) ∨
    (Got (pFit K p most) r ⟨r.s, r.pos, 2⟩ 0 ∧ ∀ W, Calls Tryz.prog g #[.string (s.extract 0 n), .int .i64 r.pos] W fun e w' => e = .returned (.tuple #[.int kind 0, .int .i64 0, .int .i64 2]) ∧ w' = W) := by
  have hrs := h.rsize
  have hps := h.pos
  have hl : r.pos ≤ r.s.data.toList.length := by rw [Array.length_toList]; show r.pos ≤ r.s.size; omega
  have hsz : (s.extract 0 n).size ≤ maxLen := by rw [← h.text, hrs]; have := h.size; have := h.fits; unfold maxLen; omega
  rcases fit_ans (K := K) (p := p) (most := most) hl with ⟨v, k, e1, e2, e3, e4, e5⟩ | ⟨e1, e2⟩
  · rw [Array.length_toList] at e3
    refine .inl ⟨v, k, ⟨rfl, .inr (.inl ⟨he, he, e1⟩)⟩, by rw [← hrs]; exact e3, e4, e5, fun W => ?_⟩
    exact (cr (s.extract 0 n) r.pos _ _ _ (by rw [← h.text]; exact e2) hsz W).mono fun e w' ⟨h1, h2⟩ => ⟨h1, h2.symm⟩
  · refine .inr ⟨⟨rfl, .inr (.inr ⟨he, (by show (2 : Int) ≠ 0; decide), e1⟩)⟩, fun W => ?_⟩
    exact (cr (s.extract 0 n) r.pos _ _ _ (by rw [← h.text]; exact e2) hsz W).mono fun e w' ⟨h1, h2⟩ => ⟨h1, h2.symm⟩
def pSig (long : Bool) : Pr Int := if long then pS64 else pS32
set_option maxRecDepth 100000 in
set_option maxHeartbeats 4000000 in
theorem q_signed {w0 : World} {B : Nat} {s : ByteArray} {n : Nat} {r : RV} {w : World} (h : QAt w0 B s n r w) (long : Bool) :
    Calls Tryz.prog 155 #[.pointer (some ⟨B, 0, none⟩), .bool long] w (DidQ w0 B s n r w (pSig long) id valInt6 (fun _ _ k => inI64 k)) := by
  obtain ⟨c0, c1, c2, c3, f0, f1, f2, f3⟩ := h.reads
  have hft := h.fits
  have zn : (n : Int) ≤ (s.size : Int) := by omega
  have zn0 : (0 : Int) ≤ (n : Int) := by omega
  by_cases he : r.e = 0
  · have a64 := sign_ans h he .i64 sgn 10 228 .i64 (fun s place x y z e hs W => ref_get_i64 s place e hs W)
    have a32 := sign_ans h he .i32 sgn 5 229 .i32 (fun s place x y z e hs W => ref_get_i32 s place e hs W)
    rw [he] at c3
    have hset1 := fun (k : Nat) (hk : k ≤ n) q => (h.drewN q).set1 k hk
    have hset3 := fun q => (h.drewN q).set3 2
    have m3 := fun q => ((Mov.refl B B w).drewN q).set 3 (.int .i64 2)
    have m1 := fun (k : Nat) q => ((Mov.refl B B w).drewN q).set 1 (.int .i64 (k : Int))
    have HH := Lib.hid h
    have HE := Lib.hid he
    clear h he
    cases long
    · -- of 32 bits: both are asked, the second one counts
      obtain ⟨x, y, z, ca⟩ : ∃ x y z, ∀ W, Calls Tryz.prog 228 #[.string (s.extract 0 n), .int .i64 r.pos] W fun e w' => e = .returned (.tuple #[.int .i64 x, .int .i64 y, .int .i64 z]) ∧ w' = W := by
        rcases a64 with ⟨v, k, _, _, _, _, c⟩ | ⟨_, c⟩
        · exact ⟨_, _, _, c⟩
        · exact ⟨_, _, _, c⟩
      clear a64 hset1 hset3 m3 m1
      go_enter Tryz.func155, Tryz.ntmps155
      go_wp2
      go_quiet ((go_at_call 228; refine Calls.quiet_of_same (ca _)))
      have hW := HH.out.drewN nq
      have mW := (Mov.refl B B w).drewN nq
      clear c0 c1 c2 c3 f0 f1 f2 f3
      generalize w.drewN nq = W at *
      obtain ⟨c0, c1, c2, c3, f0, f1, f2, f3⟩ := hW.reads
      rw [HE.out] at c3
      have hset1 := fun (k : Nat) (hk : k ≤ n) q => (hW.drewN q).set1 k hk
      have hset3 := fun q => (hW.drewN q).set3 2
      have m3 := fun q => (mW.drewN q).set 3 (.int .i64 2)
      have m1 := fun (k : Nat) q => (mW.drewN q).set 1 (.int .i64 (k : Int))
      clear hW
      rcases a32 with ⟨v, k, hg, hk, e4, e5, cg⟩ | ⟨hg, cg⟩
      · have hv : inI64 v := by simp [IntKind.min, IntKind.max, IntKind.signed, IntKind.bits] at e4 e5; unfold inI64; omega
        have v4 : -2147483648 ≤ v := by simpa [IntKind.min, IntKind.signed, IntKind.bits] using e4
        have v5 : v ≤ 2147483647 := by simpa [IntKind.max, IntKind.signed, IntKind.bits] using e5
        have h1 := hset1 _ hk
        have m1 := m1 (r.pos + k)
        obtain ⟨z2, hz⟩ : ∃ z : Int, ((r.pos + k : Nat) : Int) = z := ⟨_, rfl⟩
        rw [hz] at cg m1 h1
        have HZ := Lib.hid hz
        have HV := Lib.hid hv
        clear hz hset1 hset3 m3 e4 e5 hv
        go_wp2
        go_quiet ((go_at_call 229; refine Calls.quiet_of_same (cg _)))
        go_wp2
        go_ret
        exact ⟨v, _, rfl, hg, h1 _, m1 _, HV.out⟩
      · clear hset1 m1
        go_wp2
        go_quiet ((go_at_call 229; refine Calls.quiet_of_same (cg _)))
        go_wp2
        go_ret
        exact ⟨0, _, rfl, hg, hset3 _, m3 _, by unfold inI64; omega⟩
    · clear a32
      rcases a64 with ⟨v, k, hg, hk, e4, e5, cg⟩ | ⟨hg, cg⟩
      · have hv : inI64 v := by simp [IntKind.min, IntKind.max, IntKind.signed, IntKind.bits] at e4 e5; unfold inI64; omega
        have h1 := hset1 _ hk
        have m1 := m1 (r.pos + k)
        obtain ⟨z2, hz⟩ : ∃ z : Int, ((r.pos + k : Nat) : Int) = z := ⟨_, rfl⟩
        rw [hz] at cg m1 h1
        have HZ := Lib.hid hz
        have HV := Lib.hid hv
        clear hz hset1 hset3 m3 e4 e5 hv
        go_enter Tryz.func155, Tryz.ntmps155
        go_wp2
        go_quiet ((go_at_call 228; refine Calls.quiet_of_same (cg _)))
        go_wp2
        go_ret
        exact ⟨v, _, rfl, hg, h1 _, m1 _, HV.out⟩
      · clear hset1 m1
        go_enter Tryz.func155, Tryz.ntmps155
        go_wp2
        go_quiet ((go_at_call 228; refine Calls.quiet_of_same (cg _)))
        go_wp2
        go_ret
        exact ⟨0, _, rfl, hg, hset3 _, m3 _, by unfold inI64; omega⟩
  · have hq : (r.e != 0) = true := by simpa using he
    have hg : Got (pSig long) r r 0 := ⟨rfl, .inl ⟨he, rfl⟩⟩
    clear he
    go_enter Tryz.func155, Tryz.ntmps155
    go_wp2
    go_ret
    exact ⟨0, r, rfl, hg, h, Mov.refl _ _ _, by unfold inI64; omega⟩
set_option maxRecDepth 100000 in
set_option maxHeartbeats 2000000 in
theorem q_many {w0 : World} {B : Nat} {s : ByteArray} {n : Nat} {r : RV} {w : World} (h : QAt w0 B s n r w) :
    Calls Tryz.prog 58 #[.pointer (some ⟨B, 0, none⟩)] w (DidQ w0 B s n r w pMany id valInt6 (fun _ _ k => 0 ≤ k ∧ k ≤ 4096)) := by
  have c1 := q_number h
  clear h
  go_enter Tryz.func58, Tryz.ntmps58
  go_wp2_with fail
  refine c1.mono ?_
  rintro e w1 ⟨k, r1, rfl, g1, h1, m1, ⟨k0, k1⟩⟩
  clear c1
  dsimp only [valInt6]
  by_cases hk : 4096 < k
  · have c2 := q_fails h1 5
    have hx : ∀ r2, r2 = r1.bad 5 → r2.e ≠ 0 := fun r2 e => by subst e; unfold RV.bad; split <;> simp_all
    go_wp2_with fail
    refine c2.mono ?_
    rintro e w2 ⟨rfl, h2, m2⟩
    obtain ⟨d0, d1, d2, d3, f0, f1, f2, f3⟩ := h2.reads
    have hq : ((r1.bad 5).e != 0) = true := by simpa using hx _ rfl
    clear c2
    go_wp2
    go_ret
    exact ⟨0, _, rfl, g1.and (by rw [if_pos (by simpa using hk)]; exact Got.no (by decide) _ _), h2, m1.trans m2, by decide, by decide⟩
  · obtain ⟨d0, d1, d2, d3, f0, f1, f2, f3⟩ := h1.reads
    have hg : Got pMany r r1 k := g1.and (by rw [if_neg (by simpa using hk)]; exact Got.val _ _)
    by_cases he : r1.e = 0
    · rw [he] at d3
      have HE := Lib.hid he
      clear he
      go_wp2
      go_ret
      exact ⟨k, _, rfl, hg, h1, m1, k0, by omega⟩
    · have hq : (r1.e != 0) = true := by simpa using he
      go_wp2
      go_ret
      refine ⟨0, _, rfl, ?_, h1, m1, by decide, by decide⟩
      refine ⟨hg.1, ?_⟩
      rcases hg.2 with a | ⟨_, a, _⟩ | a
      · exact .inl a
      · exact absurd a he
      · exact .inr (.inr a)
end Go.Proofs.YthfipknfdnfalaaGreatDoor
