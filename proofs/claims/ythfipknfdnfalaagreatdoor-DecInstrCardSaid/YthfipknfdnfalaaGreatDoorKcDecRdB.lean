/-
  Package dec's reader: a number, a text, a value type, a constant, walked. Contracts that the proofs call; no statement is proved here.
-/
import Derived.Test.YthfipknfdnfalaaGreatDoorKcDecRdA
import Derived.Shelf.Abstract
namespace Go.Proofs.YthfipknfdnfalaaGreatDoor
set_option maxRecDepth 100000
set_option maxHeartbeats 16000000
open Go.RowKit
set_option linter.unusedVariables false
theorem dec_len6 (p : Int → Int) : ∀ (l : List UInt8) (v : Int) (k : Nat), dec p l = some (v, k) → k ≤ l.length
  | [], v, k, h => by simp [dec] at h
  | b :: l, v, k, h => by
    simp only [dec] at h
    split at h
    · simp at h; simp; omega
    · cases hd : dec p l with
      | none => rw [hd] at h; simp at h
      | some x =>
        obtain ⟨v', k'⟩ := x
        have := dec_len6 p l v' k' hd
        rw [hd] at h; simp at h; simp; omega
theorem fit_ans {K : IntKind} {p : Int → Int} {most : Nat} {l : List UInt8} {a : Nat} (ha : a ≤ l.length) :
    (∃ v n, pFit K p most (l.drop a) = .ok v (l.drop (a + n)) ∧ ans K p most l a = (v, ((a + n : Nat) : Int), 0) ∧ a + n ≤ l.length ∧ K.min ≤ v ∧ v ≤ K.max) ∨
    (pFit K p most (l.drop a) = .bad 2 ∧ ans K p most l a = (0, 0, 2)) := by
  unfold ans pFit
  rw [if_neg (by omega), Int.toNat_natCast]
  cases hd : dec p (l.drop a) with
  | none => exact .inr ⟨rfl, rfl⟩
  | some x =>
    obtain ⟨v, n⟩ := x
    simp only [fit]
    by_cases hc : n ≤ most ∧ K.min ≤ v ∧ v ≤ K.max
    · rw [if_pos hc]
      have hn := dec_len6 p _ _ _ hd
      rw [List.length_drop] at hn
      exact .inl ⟨v, n, by simp [List.drop_drop], by simp, by omega, hc.2.1, hc.2.2⟩
    · rw [if_neg hc]; exact .inr ⟨rfl, rfl⟩
def valU32 (n : Int) : Value := .int .u32 n
theorem taken_u32 {w0 : World} {B M : Nat} {T : TypeId} {rest : List Value} {r : RV} {w : World} (h : RdAt w0 B M T rest r w) :
    Calls Tryz.prog 222 #[.pointer (some ⟨B, 0, none⟩), .func (.func 223) #[] #[]] w (Did w0 B M T rest r w (pFit .u32 usg 5) valU32 (fun _ _ n => IntKind.u32.min ≤ n ∧ n ≤ IntKind.u32.max)) := by
  obtain ⟨c0, c1, c2, c3, f0, f1, f2, f3⟩ := h.reads
  have hps := h.pos
  have eg := enters_of (P := Tryz.prog) (f := 223) Tryz.func223 (by kernel_rfl) rfl
  have hl : r.pos ≤ r.s.data.toList.length := by rw [Array.length_toList]; exact hps
  rcases fit_ans (K := .u32) (p := usg) (most := 5) hl with ⟨v, n, e1, e2, e3, e4⟩ | ⟨e1, e2⟩
  · have cg : ∀ W, Calls Tryz.prog 223 #[.string r.s, .int .i64 r.pos] W fun e w' => e = .returned (.tuple #[.int .u32 v, .int .i64 ((r.pos + n : Nat) : Int), .int .i64 0]) ∧ w' = W := fun W => by
      have := get_u32 r.s r.pos (Nat.le_trans h.size (by unfold maxLen; decide)) W
      rw [e2] at this
      exact this.mono fun e w' ⟨h1, h2⟩ => ⟨h1, h2.symm⟩
    rw [Array.length_toList] at e3
    have h1 := fun q => (h.drewN q).set1 (r.pos + n) e3
    have m1 := fun q => ((Mov.refl B M w).drewN q).set 1 (.int .i64 ((r.pos + n : Nat) : Int))
    have hg : Got (pFit .u32 usg 5) r ⟨r.s, r.pos + n, r.e⟩ v := by
      refine ⟨rfl, ?_⟩
      by_cases he : r.e = 0
      · exact .inr (.inl ⟨he, he, e1⟩)
      · exact .inl ⟨he, rfl⟩
    obtain ⟨z, hz⟩ : ∃ z : Int, ((r.pos + n : Nat) : Int) = z := ⟨_, rfl⟩
    rw [hz] at cg m1 h1
    have HZ := Lib.hid hz
    clear h e1 e2 hz hl
    go_enter Tryz.func222, Tryz.ntmps222
    go_wp2
    go_quiet ((go_at_call 223; refine Calls.quiet_of_same (cg _)))
    go_wp2
    go_ret
    exact ⟨v, _, rfl, hg, h1 _, m1 _, e4⟩
  · have cg : ∀ W, Calls Tryz.prog 223 #[.string r.s, .int .i64 r.pos] W fun e w' => e = .returned (.tuple #[.int .u32 0, .int .i64 0, .int .i64 2]) ∧ w' = W := fun W => by
      have := get_u32 r.s r.pos (Nat.le_trans h.size (by unfold maxLen; decide)) W
      rw [e2] at this
      exact this.mono fun e w' ⟨h1, h2⟩ => ⟨h1, h2.symm⟩
    have hf := fun q => fail_of (h.drewN q) 2
    have hg : Got (pFit .u32 usg 5) r (r.bad 2) 0 := by
      refine ⟨rfl, ?_⟩
      unfold RV.bad
      by_cases he : r.e = 0
      · exact .inr (.inr ⟨he, by simp [he], by simp only [he, if_true]; exact e1⟩)
      · exact .inl ⟨he, by simp [he]⟩
    clear h e1 e2 hl
    go_enter Tryz.func222, Tryz.ntmps222
    go_wp2
    go_quiet ((go_at_call 223; refine Calls.quiet_of_same (cg _)))
    go_wp2_with (go_at_call 138; (with_reducible refine (hf _).mono ?_); rintro e w1 ⟨rfl, h1, m1⟩)
    go_ret
    exact ⟨0, _, rfl, hg, h1, ((Mov.refl B M w).drewN _).trans m1, by decide, by decide⟩
def valI32 (n : Int) : Value := .int .i32 n
theorem taken_i32 {w0 : World} {B M : Nat} {T : TypeId} {rest : List Value} {r : RV} {w : World} (h : RdAt w0 B M T rest r w) :
    Calls Tryz.prog 224 #[.pointer (some ⟨B, 0, none⟩), .func (.func 225) #[] #[]] w (Did w0 B M T rest r w (pFit .i32 sgn 5) valI32 (fun _ _ n => IntKind.i32.min ≤ n ∧ n ≤ IntKind.i32.max)) := by
  obtain ⟨c0, c1, c2, c3, f0, f1, f2, f3⟩ := h.reads
  have hps := h.pos
  have eg := enters_of (P := Tryz.prog) (f := 225) Tryz.func225 (by kernel_rfl) rfl
  have hl : r.pos ≤ r.s.data.toList.length := by rw [Array.length_toList]; exact hps
  rcases fit_ans (K := .i32) (p := sgn) (most := 5) hl with ⟨v, n, e1, e2, e3, e4⟩ | ⟨e1, e2⟩
  · have cg : ∀ W, Calls Tryz.prog 225 #[.string r.s, .int .i64 r.pos] W fun e w' => e = .returned (.tuple #[.int .i32 v, .int .i64 ((r.pos + n : Nat) : Int), .int .i64 0]) ∧ w' = W := fun W => by
      have := get_i32 r.s r.pos (Nat.le_trans h.size (by unfold maxLen; decide)) W
      rw [e2] at this
      exact this.mono fun e w' ⟨h1, h2⟩ => ⟨h1, h2.symm⟩
    rw [Array.length_toList] at e3
    have h1 := fun q => (h.drewN q).set1 (r.pos + n) e3
    have m1 := fun q => ((Mov.refl B M w).drewN q).set 1 (.int .i64 ((r.pos + n : Nat) : Int))
    have hg : Got (pFit .i32 sgn 5) r ⟨r.s, r.pos + n, r.e⟩ v := by
      refine ⟨rfl, ?_⟩
      by_cases he : r.e = 0
      · exact .inr (.inl ⟨he, he, e1⟩)
      · exact .inl ⟨he, rfl⟩
    obtain ⟨z, hz⟩ : ∃ z : Int, ((r.pos + n : Nat) : Int) = z := ⟨_, rfl⟩
    rw [hz] at cg m1 h1
    have HZ := Lib.hid hz
    clear h e1 e2 hz hl
    go_enter Tryz.func224, Tryz.ntmps224
    go_wp2
    go_quiet ((go_at_call 225; refine Calls.quiet_of_same (cg _)))
    go_wp2
    go_ret
    exact ⟨v, _, rfl, hg, h1 _, m1 _, e4⟩
  · have cg : ∀ W, Calls Tryz.prog 225 #[.string r.s, .int .i64 r.pos] W fun e w' => e = .returned (.tuple #[.int .i32 0, .int .i64 0, .int .i64 2]) ∧ w' = W := fun W => by
      have := get_i32 r.s r.pos (Nat.le_trans h.size (by unfold maxLen; decide)) W
      rw [e2] at this
      exact this.mono fun e w' ⟨h1, h2⟩ => ⟨h1, h2.symm⟩
    have hf := fun q => fail_of (h.drewN q) 2
    have hg : Got (pFit .i32 sgn 5) r (r.bad 2) 0 := by
      refine ⟨rfl, ?_⟩
      unfold RV.bad
      by_cases he : r.e = 0
      · exact .inr (.inr ⟨he, by simp [he], by simp only [he, if_true]; exact e1⟩)
      · exact .inl ⟨he, by simp [he]⟩
    clear h e1 e2 hl
    go_enter Tryz.func224, Tryz.ntmps224
    go_wp2
    go_quiet ((go_at_call 225; refine Calls.quiet_of_same (cg _)))
    go_wp2_with (go_at_call 138; (with_reducible refine (hf _).mono ?_); rintro e w1 ⟨rfl, h1, m1⟩)
    go_ret
    exact ⟨0, _, rfl, hg, h1, ((Mov.refl B M w).drewN _).trans m1, by decide, by decide⟩
def valI64 (n : Int) : Value := .int .i64 n
theorem taken_i64 {w0 : World} {B M : Nat} {T : TypeId} {rest : List Value} {r : RV} {w : World} (h : RdAt w0 B M T rest r w) :
    Calls Tryz.prog 226 #[.pointer (some ⟨B, 0, none⟩), .func (.func 227) #[] #[]] w (Did w0 B M T rest r w (pFit .i64 sgn 10) valI64 (fun _ _ n => IntKind.i64.min ≤ n ∧ n ≤ IntKind.i64.max)) := by
  obtain ⟨c0, c1, c2, c3, f0, f1, f2, f3⟩ := h.reads
  have hps := h.pos
  have eg := enters_of (P := Tryz.prog) (f := 227) Tryz.func227 (by kernel_rfl) rfl
  have hl : r.pos ≤ r.s.data.toList.length := by rw [Array.length_toList]; exact hps
  rcases fit_ans (K := .i64) (p := sgn) (most := 10) hl with ⟨v, n, e1, e2, e3, e4⟩ | ⟨e1, e2⟩
  · have cg : ∀ W, Calls Tryz.prog 227 #[.string r.s, .int .i64 r.pos] W fun e w' => e = .returned (.tuple #[.int .i64 v, .int .i64 ((r.pos + n : Nat) : Int), .int .i64 0]) ∧ w' = W := fun W => by
      have := get_i64 r.s r.pos (Nat.le_trans h.size (by unfold maxLen; decide)) W
      rw [e2] at this
      exact this.mono fun e w' ⟨h1, h2⟩ => ⟨h1, h2.symm⟩
    rw [Array.length_toList] at e3
    have h1 := fun q => (h.drewN q).set1 (r.pos + n) e3
    have m1 := fun q => ((Mov.refl B M w).drewN q).set 1 (.int .i64 ((r.pos + n : Nat) : Int))
    have hg : Got (pFit .i64 sgn 10) r ⟨r.s, r.pos + n, r.e⟩ v := by
      refine ⟨rfl, ?_⟩
      by_cases he : r.e = 0
      · exact .inr (.inl ⟨he, he, e1⟩)
      · exact .inl ⟨he, rfl⟩
    obtain ⟨z, hz⟩ : ∃ z : Int, ((r.pos + n : Nat) : Int) = z := ⟨_, rfl⟩
    rw [hz] at cg m1 h1
    have HZ := Lib.hid hz
    clear h e1 e2 hz hl
    go_enter Tryz.func226, Tryz.ntmps226
    go_wp2
    go_quiet ((go_at_call 227; refine Calls.quiet_of_same (cg _)))
    go_wp2
    go_ret
    exact ⟨v, _, rfl, hg, h1 _, m1 _, e4⟩
  · have cg : ∀ W, Calls Tryz.prog 227 #[.string r.s, .int .i64 r.pos] W fun e w' => e = .returned (.tuple #[.int .i64 0, .int .i64 0, .int .i64 2]) ∧ w' = W := fun W => by
      have := get_i64 r.s r.pos (Nat.le_trans h.size (by unfold maxLen; decide)) W
      rw [e2] at this
      exact this.mono fun e w' ⟨h1, h2⟩ => ⟨h1, h2.symm⟩
    have hf := fun q => fail_of (h.drewN q) 2
    have hg : Got (pFit .i64 sgn 10) r (r.bad 2) 0 := by
      refine ⟨rfl, ?_⟩
      unfold RV.bad
      by_cases he : r.e = 0
      · exact .inr (.inr ⟨he, by simp [he], by simp only [he, if_true]; exact e1⟩)
      · exact .inl ⟨he, by simp [he]⟩
    clear h e1 e2 hl
    go_enter Tryz.func226, Tryz.ntmps226
    go_wp2
    go_quiet ((go_at_call 227; refine Calls.quiet_of_same (cg _)))
    go_wp2_with (go_at_call 138; (with_reducible refine (hf _).mono ?_); rintro e w1 ⟨rfl, h1, m1⟩)
    go_ret
    exact ⟨0, _, rfl, hg, h1, ((Mov.refl B M w).drewN _).trans m1, by decide, by decide⟩
def valInt (n : Int) : Value := .int .i64 n
def valUnit (_ : Unit) : Value := .tuple #[]
def valStr (l : List UInt8) : Value := .string (bs l)
def okAny {α : Type} (_ _ : World) (_ : α) : Prop := True
def okWord (_ _ : World) (n : Int) : Prop := 0 ≤ n ∧ n < 4294967296
def okI64 (_ _ : World) (n : Int) : Prop := inI64 n
theorem Did.mono {α : Type} {w0 : World} {B M : Nat} {T : TypeId} {rest : List Value} {r : RV} {w : World} {P : Pr α} {val : α → Value} {ok ok' : World → World → α → Prop} {e : Ending} {w' : World} (h : Did w0 B M T rest r w P val ok e w') (k : ∀ x, ok w w' x → ok' w w' x) : Did w0 B M T rest r w P val ok' e w' := by
  obtain ⟨x, r', h1, h2, h3, h4, h5⟩ := h
  exact ⟨x, r', h1, h2, h3, h4, k x h5⟩
theorem number_reads (w0 : World) : Reads6 w0 150 pNum valInt okWord := by
  intro B M T rest r w h
  have c1 := taken_u32 h
  go_enter Tryz.func150, Tryz.ntmps150
  go_wp2_with (go_at_call 222; (with_reducible refine c1.mono ?_); rintro e w1 ⟨n, r1, rfl, g1, h1, m1, ok1⟩; have b1 : 0 ≤ n ∧ n ≤ 4294967295 := ok1; dsimp only [valU32])
  go_ret
  exact ⟨n, r1, rfl, g1, h1, m1, b1.1, by omega⟩
theorem signed_reads {w0 : World} {B M : Nat} {T : TypeId} {rest : List Value} {r : RV} {w : World} (h : RdAt w0 B M T rest r w) (c : Int) :
    Calls Tryz.prog 153 #[.pointer (some ⟨B, 0, none⟩), .int .i64 c] w (Did w0 B M T rest r w (pSigned c) valInt okI64) := by
  by_cases hc : c = 65
  · have e1 : pSigned c = pFit .i32 sgn 5 := by unfold pSigned; rw [if_pos hc]; rfl
    rw [e1]
    subst hc
    have c1 := taken_i32 h
    go_enter Tryz.func153, Tryz.ntmps153
    go_wp2_with (go_at_call 224; (with_reducible refine c1.mono ?_); rintro e w1 ⟨n, r1, rfl, g1, h1, m1, ok1⟩; have b1 : -2147483648 ≤ n ∧ n ≤ 2147483647 := ok1; dsimp only [valI32])
    go_ret
    exact ⟨n, r1, rfl, g1, h1, m1, by unfold okI64 inI64; omega⟩
  · have e1 : pSigned c = pFit .i64 sgn 10 := by unfold pSigned; rw [if_neg hc]; rfl
    rw [e1]
    have hq : (c == 65) = false := beq_eq_false_iff_ne.2 hc
    have c1 := taken_i64 h
    go_enter Tryz.func153, Tryz.ntmps153
    go_wp2_with (go_at_call 226; (with_reducible refine c1.mono ?_); rintro e w1 ⟨n, r1, rfl, g1, h1, m1, ok1⟩; have b1 : -9223372036854775808 ≤ n ∧ n ≤ 9223372036854775807 := ok1; dsimp only [valI64])
    go_ret
    exact ⟨n, r1, rfl, g1, h1, m1, by unfold okI64 inI64; omega⟩
theorem is_reads {w0 : World} {B M : Nat} {T : TypeId} {rest : List Value} {r : RV} {w : World} (h : RdAt w0 B M T rest r w) (b : Int) :
    Calls Tryz.prog 152 #[.pointer (some ⟨B, 0, none⟩), .int .u8 b] w (Did w0 B M T rest r w (pIs b) valUnit okAny) := by
  have c1 := one_reads w0 B M T rest r w h
  go_enter Tryz.func152, Tryz.ntmps152
  go_wp2_with (first
    | (go_at_call 137; (with_reducible refine c1.mono ?_); rintro e w1 ⟨n, r1, rfl, g1, h1, m1, ok1⟩; have c2 := fail_of h1 2; dsimp only [valU8])
    | (go_at_call 138; (with_reducible refine c2.mono ?_); rintro e w2 ⟨rfl, h2, m2⟩))
  · rename_i hne
    have hn : ¬ n = b := by simpa using hne
    go_end0
    exact ⟨(), _, rfl, g1.and (by rw [if_neg hn]; exact Got.no (by decide) _ _), h2, m1.trans m2, trivial⟩
  · rename_i hne
    have hn : n = b := by simpa using hne
    go_end0
    exact ⟨(), _, rfl, g1.and (by rw [if_pos hn]; exact Got.val _ _), h1, m1, trivial⟩
theorem kind_reads {w0 : World} {B M : Nat} {T : TypeId} {rest : List Value} {r : RV} {w : World} (h : RdAt w0 B M T rest r w) (b : Int) (hb : 0 ≤ b ∧ b < 256) :
    Calls Tryz.prog 221 #[.pointer (some ⟨B, 0, none⟩), .int .u8 b] w (Did w0 B M T rest r w (pKind b) valU8 (fun _ _ n => n = b)) := by
  have c2 := fail_of h 2
  have c3 := fail_of h 3
  rcases (show b = 127 ∨ b = 126 ∨ b = 125 ∨ b = 124 ∨ (b < 124 ∨ 127 < b) by omega) with rfl | rfl | rfl | rfl | hq
  · go_enter Tryz.func221, Tryz.ntmps221
    go_wp2_with fail
    go_ret
    exact ⟨127, r, rfl, by unfold pKind; rw [if_pos (by decide)]; exact Got.val _ _, h, Mov.refl _ _ _, rfl⟩
  · go_enter Tryz.func221, Tryz.ntmps221
    go_wp2_with fail
    go_ret
    exact ⟨126, r, rfl, by unfold pKind; rw [if_pos (by decide)]; exact Got.val _ _, h, Mov.refl _ _ _, rfl⟩
  · go_enter Tryz.func221, Tryz.ntmps221
    go_wp2_with (go_at_call 138; (with_reducible refine c3.mono ?_); rintro e w2 ⟨rfl, h2, m2⟩)
    go_ret
    exact ⟨125, _, rfl, by unfold pKind; rw [if_neg (by decide), if_pos (by decide)]; exact Got.no (by decide) _ _, h2, m2, rfl⟩
  · go_enter Tryz.func221, Tryz.ntmps221
    go_wp2_with (go_at_call 138; (with_reducible refine c3.mono ?_); rintro e w2 ⟨rfl, h2, m2⟩)
    go_ret
    exact ⟨124, _, rfl, by unfold pKind; rw [if_neg (by decide), if_pos (by decide)]; exact Got.no (by decide) _ _, h2, m2, rfl⟩
  · have q1 : (b == 127) = false := beq_eq_false_iff_ne.2 (by omega)
    have q2 : (b == 126) = false := beq_eq_false_iff_ne.2 (by omega)
    have q3 : (b == 125) = false := beq_eq_false_iff_ne.2 (by omega)
    have q4 : (b == 124) = false := beq_eq_false_iff_ne.2 (by omega)
    go_enter Tryz.func221, Tryz.ntmps221
    go_wp2_with (go_at_call 138; (with_reducible refine c2.mono ?_); rintro e w2 ⟨rfl, h2, m2⟩)
    go_ret
    exact ⟨b, _, rfl, by unfold pKind; rw [if_neg (by omega), if_neg (by omega)]; exact Got.no (by decide) _ _, h2, m2, rfl⟩
theorem value_reads (w0 : World) : Reads6 w0 282 pValue valU8 okU8 := by
  intro B M T rest r w h
  have c1 := one_reads w0 B M T rest r w h
  go_enter Tryz.func282, Tryz.ntmps282
  go_wp2_with (first
    | (go_at_call 137; (with_reducible refine c1.mono ?_); rintro e w1 ⟨n, r1, rfl, g1, h1, m1, ok1⟩; have c2 := kind_reads h1 n ok1; dsimp only [valU8])
    | (go_at_call 221; (with_reducible refine c2.mono ?_); rintro e w2 ⟨k, r2, rfl, g2, h2, m2, rfl⟩; dsimp only [valU8]))
  go_ret
  exact ⟨k, r2, rfl, g1.and g2, h2, m1.trans m2, ok1⟩
theorem answer_reads (w0 : World) : Reads6 w0 149 (pOne.and fun k => if k = 64 then .val k else (pKind k).and fun _ => .val k) valU8 okU8 := by
  intro B M T rest r w h
  have c1 := one_reads w0 B M T rest r w h
  go_enter Tryz.func149, Tryz.ntmps149
  go_wp2_with (first
    | (go_at_call 137; (with_reducible refine c1.mono ?_); rintro e w1 ⟨n, r1, rfl, g1, h1, m1, ok1⟩; have c2 := kind_reads h1 n ok1; dsimp only [valU8])
    | (go_at_call 221; (with_reducible refine c2.mono ?_); rintro e w2 ⟨k, r2, rfl, g2, h2, m2, rfl⟩; dsimp only [valU8]))
  · rename_i hne
    have hn : n = 64 := by simpa using hne
    go_ret
    exact ⟨n, r1, rfl, g1.and (by rw [if_pos hn]; exact Got.val _ _), h1, m1, ok1⟩
  · rename_i hne
    have hn : ¬ k = 64 := by simpa using hne
    go_ret
    exact ⟨k, r2, rfl, g1.and (by rw [if_neg hn]; exact g2.and (Got.val _ _)), h2, m1.trans m2, ok1⟩
theorem extract_bs (s : ByteArray) (a b : Nat) : s.extract a b = bs ((s.data.toList.take b).drop a) := by
  unfold bs
  apply ByteArray.ext
  apply Array.toList_inj.1
  simp [ByteArray.data_extract, List.drop_take]
def DidText (w0 : World) (B M : Nat) (T : TypeId) (rest : List Value) (r : RV) (w : World) (e : Ending) (w' : World) : Prop :=
  ∃ l r', e = .returned (.string (bs l)) ∧ Got pText r r' l ∧ RdAt w0 B M T rest r' w' ∧ Mov B M w w' ∧ l.length ≤ r'.pos ∧ l = (r.s.data.toList.take r'.pos).drop (r'.pos - l.length)
theorem got_text {r r1 : RV} {n : Int} (g : Got pNum r r1 n) (hn : 0 ≤ n) (hp : r1.pos ≤ r1.s.size) :
    (r1.s.size - r1.pos < n → Got pText r (r1.bad 2) []) ∧ (n ≤ r1.s.size - r1.pos → Got pText r ⟨r1.s, r1.pos + n.toNat, r1.e⟩ (r1.rem.take n.toNat)) := by
  have hl : r1.rem.length = r1.s.size - r1.pos := by unfold RV.rem; rw [List.length_drop, Array.length_toList]; rfl
  constructor
  · intro h
    refine Got.and g (x := n) (f := fun n l => if (l.length : Int) < n then .bad 2 else .ok (l.take n.toNat) (l.drop n.toNat)) ⟨rfl, ?_⟩
    unfold RV.bad
    by_cases he : r1.e = 0
    · exact .inr (.inr ⟨he, by simp [he], by simp only [he, if_true]; rw [if_pos (by omega)]⟩)
    · exact .inl ⟨he, by simp [he]⟩
  · intro h
    refine Got.and g (x := n) (f := fun n l => if (l.length : Int) < n then .bad 2 else .ok (l.take n.toNat) (l.drop n.toNat)) ⟨rfl, ?_⟩
    by_cases he : r1.e = 0
    · refine .inr (.inl ⟨he, he, ?_⟩)
      have e : ¬ ((r1.rem.length : Int) < n) := by omega
      simp only [if_neg e]
      unfold RV.rem
      rw [List.drop_drop]
    · exact .inl ⟨he, rfl⟩
theorem take_back {s : List UInt8} {p n : Nat} (h : p + n ≤ s.length) : (s.drop p).take n = (s.take (p + n)).drop (p + n - ((s.drop p).take n).length) ∧ ((s.drop p).take n).length ≤ p + n := by
  have hl : ((s.drop p).take n).length = n := by rw [List.length_take, List.length_drop]; omega
  rw [hl, show p + n - n = p by omega, List.drop_take, show p + n - p = n by omega]
  exact ⟨rfl, by omega⟩
theorem text_reads {w0 : World} {B M : Nat} {T : TypeId} {rest : List Value} {r : RV} {w : World} (h : RdAt w0 B M T rest r w) :
    Calls Tryz.prog 219 #[.pointer (some ⟨B, 0, none⟩)] w (DidText w0 B M T rest r w) := by
  have c1 := number_reads w0 B M T rest r w h
  have hsz := h.size
  clear h
  go_enter Tryz.func219, Tryz.ntmps219
  go_wp2_with (go_at_call 150; (with_reducible refine c1.mono ?_); rintro e w1 ⟨n, r1, rfl, g1, h1, m1, ok1⟩; dsimp only [valInt])
  obtain ⟨s1, p1, e1⟩ := r1
  obtain rfl : s1 = r.s := g1.1
  have hp1 : p1 ≤ r.s.size := h1.pos
  have ok0 := ok1.1
  have ok2 := ok1.2
  obtain ⟨d0, d1, d2, d3, k0, k1, k2, k3⟩ := h1.reads
  have ht := got_text g1 ok0 hp1
  simp only at d0 d1 d2 ht
  by_cases hle : n ≤ (r.s.size : Int) - p1
  · have hge : ¬ ((r.s.size : Int) - p1 < n) := by omega
    have hd : decide ((r.s.size : Int) - p1 < n) = false := decide_eq_false hge
    have ht2 := ht.2 hle
    obtain ⟨k, rfl⟩ := Int.eq_ofNat_of_zero_le ok0
    have hpk : p1 + k ≤ r.s.size := by omega
    have h2 := fun q => (h1.drewN q).set1 (p1 + k) hpk
    have m2 := fun q => (m1.drewN q).set 1 (.int .i64 ((p1 + k : Nat) : Int))
    have hcast : ((p1 + k : Nat) : Int) = (p1 : Int) + k := by omega
    rw [hcast] at m2 h2
    rw [Int.toNat_natCast] at ht2
    have htb := take_back (s := r.s.data.toList) (p := p1) (n := k) (by rw [Array.length_toList]; exact hpk)
    clear g1 h1 ht m1 c1 hle
    go_quiet (fail)
    go_wp2
    replace h2 := h2 nq
    replace m2 := m2 nq
    generalize (w1.drewN nq).setCell ⟨B, 1, none⟩ (.int .i64 ((p1 : Int) + k)) = W at *
    have hx := h2.reads
    obtain ⟨x0, x1, x2, x3, y0, y1, y2, y3⟩ := hx
    simp only [hcast] at x0 x1
    clear d0 d1 d2 d3 k0 k1 k2 k3
    go_quiet (fail)
    go_wp2
    go_ret
    refine ⟨_, _, ?_, ht2, h2.drewN _, m2.drewN _, htb.2, htb.1⟩
    show Ending.returned (.string (r.s.extract p1 (p1 + k))) = _
    rw [extract_bs, List.drop_take, show p1 + k - p1 = k by omega]
    rfl
  · have hlt : (r.s.size : Int) - p1 < n := by omega
    have hd : decide ((r.s.size : Int) - p1 < n) = true := decide_eq_true hlt
    have c2 := fun q => fail_of (h1.drewN q) 2
    have ht2 := ht.1 hlt
    clear g1 h1 ht c1
    go_quiet (fail)
    go_wp2_with (go_at_call 138; (with_reducible refine (c2 _).mono ?_); rintro e w2 ⟨rfl, h2, m2⟩)
    go_ret
    exact ⟨[], _, rfl, ht2, h2, (m1.drewN _).trans m2, Nat.zero_le _, by simp⟩
structure MovF (B M F : Nat) (w w' : World) : Prop where
  os : w'.os = w.os
  tape : w'.tape = w.tape
  output : w'.output = w.output
  size : w.heap.size ≤ w'.heap.size
  block : ∀ k, k < w.heap.size → k ≠ B → k ≠ M → k ≠ F → w'.heap[k]? = w.heap[k]?
theorem Mov.on {B M : Nat} {w w' : World} (h : Mov B M w w') (F : Nat) : MovF B M F w w' := ⟨h.os, h.tape, h.output, h.size, fun k h0 h1 h2 _ => h.block k h0 h1 h2⟩
theorem MovF.off {B M : Nat} {w w' : World} (h : MovF B M B w w') : Mov B M w w' := ⟨h.os, h.tape, h.output, h.size, fun k h0 h1 h2 => h.block k h0 h1 h2 h1⟩
theorem MovF.trans {B M F : Nat} {a b c : World} (h : MovF B M F a b) (k : MovF B M F b c) : MovF B M F a c := ⟨k.os.trans h.os, k.tape.trans h.tape, k.output.trans h.output, Nat.le_trans h.size k.size, fun i hi h1 h2 h3 => (k.block i (Nat.lt_of_lt_of_le hi h.size) h1 h2 h3).trans (h.block i hi h1 h2 h3)⟩
theorem MovF.new {B M F : Nat} {w w' : World} (h : MovF B M F w w') (hF : w.heap.size ≤ F) : Mov B M w w' := ⟨h.os, h.tape, h.output, h.size, fun k h0 h1 h2 => h.block k h0 h1 h2 (by omega)⟩
theorem bs_list6 (l : List UInt8) : (bs l).data.toList = l := by simp [bs]
theorem size_take {s : ByteArray} {p : Nat} (h : p ≤ s.size) : (s.extract 0 p).size = p := by simp; omega
theorem got_whole {α : Type} {P : Pr α} {r r1 r3 : RV} {l : List UInt8} {x : α} (g : Got pText r r1 l) (hl : l = (r.s.data.toList.take r1.pos).drop (r1.pos - l.length)) (hp : r1.pos ≤ r.s.size)
    (g3 : Got P ⟨r.s.extract 0 r1.pos, r1.pos - l.length, r1.e⟩ r3 x) (hp3 : r3.pos ≤ r1.pos) :
    (r3.pos < r1.pos → Got (pWhole P) r ⟨r.s, r3.pos, (r3.bad 2).e⟩ x) ∧ (¬ r3.pos < r1.pos → Got (pWhole P) r ⟨r.s, r3.pos, r3.e⟩ x) := by
  have hrem : (⟨r.s.extract 0 r1.pos, r1.pos - l.length, r1.e⟩ : RV).rem = l := by
    unfold RV.rem
    simp only
    rw [extract_bs, bs_list6, List.drop_zero]
    exact hl.symm
  have hs3 : r3.s = r.s.extract 0 r1.pos := g3.1
  have hr3 : r3.pos < r1.pos → ∃ b m, r3.rem = b :: m := fun h => by
    have := rem_cons (r := r3) (by rw [hs3, size_take hp]; exact h)
    exact ⟨_, _, this⟩
  have hr0 : ¬ r3.pos < r1.pos → r3.rem = [] := fun h => rem_nil (by rw [hs3, size_take hp]; omega)
  have main : ∀ (e' : Int), ((r3.e ≠ 0 ∧ e' = r3.e) ∨ (r3.e = 0 ∧ e' = 2 ∧ r3.pos < r1.pos) ∨ (r3.e = 0 ∧ e' = 0 ∧ ¬ r3.pos < r1.pos)) → Got (pWhole P) r ⟨r.s, r3.pos, e'⟩ x := fun e' he => by
    unfold pWhole
    refine Got.and (r1 := r1) g (x := l) (f := pIn P) ⟨g.1.symm, ?_⟩
    unfold pIn
    rcases g3.2 with ⟨k1, k2⟩ | ⟨k1, k2, k3⟩ | ⟨k1, k2, k3⟩
    · simp only at k1 k2
      rcases he with ⟨a1, a2⟩ | ⟨a1, _⟩ | ⟨a1, _⟩
      · exact .inl ⟨k1, a2.trans k2⟩
      · exact absurd (k2.symm.trans a1) k1
      · exact absurd (k2.symm.trans a1) k1
    · rw [hrem] at k3
      simp only at k1
      rcases he with ⟨a1, _⟩ | ⟨_, a2, a3⟩ | ⟨_, a2, a3⟩
      · exact absurd k2 a1
      · obtain ⟨b, m, hb⟩ := hr3 a3
        rw [hb] at k3
        exact .inr (.inr ⟨k1, by simp [a2], by simp only [k3, a2]⟩)
      · rw [hr0 a3] at k3
        have hpp : r3.pos = r1.pos := by omega
        have hs1 : r1.s = r.s := g.1
        exact .inr (.inl ⟨k1, a2, by simp only [k3]; unfold RV.rem; simp only; rw [hpp, hs1]⟩)
    · rw [hrem] at k3
      simp only at k1
      rcases he with ⟨_, a2⟩ | ⟨a1, _⟩ | ⟨a1, _⟩
      · exact .inr (.inr ⟨k1, by simp only [a2]; exact k2, by simp only [k3, a2]⟩)
      · exact absurd a1 k2
      · exact absurd a1 k2
  constructor
  · intro h
    refine main _ ?_
    unfold RV.bad
    by_cases he : r3.e = 0
    · exact .inr (.inl ⟨he, by simp [he], h⟩)
    · exact .inl ⟨he, by simp [he]⟩
  · intro h
    refine main _ ?_
    by_cases he : r3.e = 0
    · exact .inr (.inr ⟨he, he, h⟩)
    · exact .inl ⟨he, rfl⟩
def Within {α : Type} (w0 : World) (B M F : Nat) (T : TypeId) (rest : List Value) (w : World) (N g : Nat) (lb : Array Value) (P : Pr α) (Q : List Value → World → World → α → Prop) : Prop :=
  ∀ (r2 : RV) (W : World), RdAt w0 B M T rest r2 W → Mov B M w W → r2.s.size ≤ N → Calls Tryz.prog g lb W fun e W' => ∃ x r3 rest', e = .returned (.tuple #[]) ∧ Got P r2 r3 x ∧ RdAt w0 B M T rest' r3 W' ∧ MovF B M F W W' ∧ Q rest' W W' x
def DidIn {α : Type} (w0 : World) (B M F : Nat) (T : TypeId) (r : RV) (w : World) (P : Pr α) (Q : List Value → World → World → α → Prop) (e : Ending) (w' : World) : Prop :=
  ∃ x r' rest' W W1, e = .returned (.tuple #[]) ∧ Got (pWhole P) r r' x ∧ RdAt w0 B M T rest' r' w' ∧ Mov B M w W ∧ MovF B M F W W1 ∧ Q rest' W W1 x ∧ Mov B M W1 w'
theorem whole_of {α : Type} {w0 : World} {B M F : Nat} {T : TypeId} {rest : List Value} {r : RV} {w : World} {P : Pr α} {Q : List Value → World → World → α → Prop} (h : RdAt w0 B M T rest r w) (g : Nat) (lb : Array Value)
    (eg : ∀ args w, (callFunc g args).run Tryz.prog w = .ok (.enter g args) w) (hin : Within w0 B M F T rest w r.s.size g lb P Q) :
    Calls Tryz.prog 139 #[.pointer (some ⟨B, 0, none⟩), .func (.func g) #[] lb] w (DidIn w0 B M F T r w P Q) := by
  have ct := fun (W : World) (hW : Below w.heap.size w W) => text_reads (h.at' hW)
  have hsz := h.size
  have c0 : w.cell? ⟨B, 0, none⟩ = some (.string r.s) := h.reads.1
  clear h
  go_enter Tryz.func139, Tryz.ntmps139
  go_wp2
  go_region_held3 (fun W => W.cell? ⟨B, 0, none⟩ = some (.string r.s)) (first | (with_reducible exact x0) | go_keep)
    (first | (go_at_call 219; (with_reducible refine (ct _ (by first | exact Below.refl _ _ | exact (Below.refl _ _).drew)).mono ?_); rintro e w1 ⟨l, ⟨s1, p1, e1⟩, rfl, g1, h1, m1, hl, hl2⟩; obtain rfl : s1 = r.s := g1.1; have HL := Lib.hid hl2; clear hl2; have x0 : w1.cell? ⟨B, 0, none⟩ = some (.string r.s) := h1.reads.1))
  go_wp2
  have m2 : Mov B M w w1 := by first | exact m1 | exact ((Mov.refl B M w).drew).trans m1
  have hp1 : p1 ≤ r.s.size := h1.pos
  have hbs : (bs l).size = l.length := by simp [bs, ByteArray.size]
  have hlp : l.length ≤ p1 := hl
  obtain ⟨x0, x1, x2, x3, y0, y1, y2, y3⟩ := h1.reads
  simp only at x0 x1 x2
  obtain ⟨n, hn⟩ : ∃ n : Nat, l.length = n := ⟨_, rfl⟩
  rw [hn] at hbs hlp
  have HN := Lib.hid hn
  clear m1 ct c0 hl hn
  have hX : (r.s.extract 0 p1).size = p1 := size_take hp1
  have h2 := ((h1.set0 (r.s.extract 0 p1) (by rw [hX]; omega) (by rw [hX]; exact Nat.le_refl p1)).set1 (p1 - n) (by show p1 - n ≤ (r.s.extract 0 p1).size; rw [hX]; omega)).drew
  have m3 := ((m2.set 0 (.string (r.s.extract 0 p1))).set 1 (.int .i64 ((p1 - n : Nat) : Int))).drew
  have hcast : ((p1 - n : Nat) : Int) = (p1 : Int) - n := by omega
  rw [hcast] at h2 m3
  have hgot := fun r3 x => got_whole (P := P) (r3 := r3) (x := x) g1 HL.out hp1
  simp only [HN.out] at hgot
  have HG := Lib.hid hgot
  have hrs := h1.size
  clear h1 g1 hgot
  go_region
  generalize ((w1.setCell ⟨B, 0, none⟩ (.string (r.s.extract 0 p1))).setCell ⟨B, 1, none⟩ (.int .i64 ((p1 : Int) - n))).drew = W at *
  have cc := hin _ W h2 m3 (by show (r.s.extract 0 p1).size ≤ r.s.size; rw [hX]; exact hp1)
  clear x0 x1 x2 x3 y0 y1 y2 y3
  go_wp2_with (go_at_fn g; (with_reducible refine cc.mono ?_); rintro e w2 ⟨x, ⟨s3, p3, e3⟩, rest', rfl, g3, h3, m4, q3⟩)
  obtain rfl : s3 = r.s.extract 0 p1 := g3.1
  have hp3 : p3 ≤ p1 := by have := h3.pos; rw [hX] at this; exact this
  have HG3 := Lib.hid (HG.out _ x g3 hp3)
  obtain ⟨x0, x1, x2, x3, y0, y1, y2, y3⟩ := h3.reads
  simp only at x0 x1 x2
  clear h2 g3 cc hin HG
  obtain ⟨X, hXX⟩ : ∃ X, X = r.s.extract 0 p1 := ⟨_, rfl⟩
  rw [← hXX] at hX x0 h3
  clear hXX HL
  by_cases hlt : p3 < p1
  · have hd : decide ((p3 : Int) < p1) = true := decide_eq_true (by omega)
    have hlt' : (p3 : Int) < p1 := by omega
    have c2 := fun q => fail_of (h3.drewN q) 2
    have hg := HG3.out.1 hlt
    clear h3
    go_quiet (fail)
    go_wp2_with (go_at_call 138; (with_reducible refine (c2 _).mono ?_); rintro e w3 ⟨rfl, h4, m5⟩; obtain ⟨x0, x1, x2, x3, y0, y1, y2, y3⟩ := h4.reads)
    have h5 := h4.set0 r.s hrs (Nat.le_trans hp3 hp1)
    have m6 := ((((Mov.refl B M w2).drewN nq).trans m5).set 0 (.string r.s))
    go_end0
    exact ⟨x, _, rest', W, w2, rfl, hg, h5, m3, m4, q3, m6⟩
  · have hd : decide ((p3 : Int) < p1) = false := decide_eq_false (by omega)
    have hge : ¬ ((p3 : Int) < p1) := by omega
    have hg := HG3.out.2 hlt
    have h5 := fun q => (h3.drewN q).set0 r.s hrs (Nat.le_trans hp3 hp1)
    have m6 := fun q => ((Mov.refl B M w2).drewN q).set 0 (.string r.s)
    clear h3
    go_quiet (fail)
    go_wp2
    go_end0
    exact ⟨x, _, rest', W, w2, rfl, hg, h5 _, m3, m4, q3, m6 _⟩
theorem rep_snoc {α : Type} {p : Pr α} {x : α} : ∀ (k : Nat) (l m m' : List UInt8) (xs : List α), pRep p k l = .ok xs m → p m = .ok x m' → pRep p (k + 1) l = .ok (xs ++ [x]) m'
  | 0, l, m, m', xs, h, hx => by
    unfold pRep Pr.val at h
    injection h with h1 h2
    subst h1 h2
    unfold pRep
    rw [and_ok hx]
    rfl
  | k + 1, l, m, m', xs, h, hx => by
    unfold pRep at h ⊢
    cases hp : p l with
    | bad e => rw [and_bad hp] at h; cases h
    | ok y r =>
      rw [and_ok hp] at h ⊢
      cases hr : pRep p k r with
      | bad e => rw [and_bad hr] at h; cases h
      | ok ys r2 =>
        rw [and_ok hr] at h
        unfold Pr.val at h
        injection h with h1 h2
        subst h1 h2
        rw [and_ok (rep_snoc k r r2 m' ys hr hx)]
        rfl
theorem rep_stop {α : Type} {p : Pr α} {e : Int} : ∀ (k : Nat) (l m : List UInt8) (xs : List α), pRep p k l = .ok xs m → p m = .bad e → pRep p (k + 1) l = .bad e
  | 0, l, m, xs, h, hx => by
    unfold pRep Pr.val at h
    injection h with h1 h2
    subst h1 h2
    unfold pRep
    rw [and_bad hx]
  | k + 1, l, m, xs, h, hx => by
    unfold pRep at h ⊢
    cases hp : p l with
    | bad e => rw [and_bad hp] at h; cases h
    | ok y r =>
      rw [and_ok hp] at h ⊢
      cases hr : pRep p k r with
      | bad e => rw [and_bad hr] at h; cases h
      | ok ys r2 =>
        rw [and_ok hr] at h
        unfold Pr.val at h
        injection h with h1 h2
        subst h1 h2
        rw [and_bad (rep_stop k r r2 ys hr hx)]
theorem rep_bad {α : Type} {p : Pr α} {e : Int} : ∀ (k n : Nat) (l : List UInt8), k ≤ n → pRep p k l = .bad e → pRep p n l = .bad e
  | 0, n, l, _, h => by unfold pRep Pr.val at h; cases h
  | k + 1, 0, l, hk, _ => by omega
  | k + 1, n + 1, l, hk, h => by
    unfold pRep at h ⊢
    cases hp : p l with
    | bad e' => rw [and_bad hp] at h ⊢; exact h
    | ok y r =>
      rw [and_ok hp] at h ⊢
      cases hr : pRep p k r with
      | ok ys r2 => rw [and_ok hr] at h; unfold Pr.val at h; cases h
      | bad e' =>
        rw [and_bad hr] at h
        rw [and_bad (rep_bad k n r (by omega) hr)]
        exact h
theorem Got.more {α : Type} {P : Pr α} {r r1 r2 : RV} {k : Nat} {l : List α} {x : α} (g : Got (pRep P k) r r1 l) (h : Got P r1 r2 x) (he : r1.e = 0) : Got (pRep P (k + 1)) r r2 (l ++ [x]) := by
  refine ⟨h.1.trans g.1, ?_⟩
  rcases g.2 with ⟨g1, g2⟩ | ⟨g1, g2, g3⟩ | ⟨g1, g2, g3⟩
  · exact absurd (g2.symm.trans he) g1
  · rcases h.2 with ⟨h1, _⟩ | ⟨_, h2, h3⟩ | ⟨_, h2, h3⟩
    · exact absurd he h1
    · exact .inr (.inl ⟨g1, h2, rep_snoc k _ _ _ _ g3 h3⟩)
    · exact .inr (.inr ⟨g1, h2, rep_stop k _ _ _ g3 h3⟩)
  · exact absurd he g2
theorem Got.short {α : Type} {P : Pr α} {r r1 : RV} {k n : Nat} {l : List α} (g : Got (pRep P k) r r1 l) (hk : k ≤ n) (he : r1.e ≠ 0) (y : List α) : Got (pRep P n) r r1 y := by
  refine ⟨g.1, ?_⟩
  rcases g.2 with h | ⟨_, g2, _⟩ | ⟨g1, g2, g3⟩
  · exact .inl h
  · exact absurd g2 he
  · exact .inr (.inr ⟨g1, g2, rep_bad k n _ hk g3⟩)
theorem Got.many {r r1 : RV} {n : Int} (g : Got pNum r r1 n) : (4096 < n → Got pMany r (r1.bad 5) n) ∧ (¬ 4096 < n → Got pMany r r1 n) := by
  constructor
  · intro h
    exact Got.and g (f := fun n => if 4096 < n then .no 5 else .val n) (by simp only [if_pos h]; exact Got.no (by decide) _ _)
  · intro h
    exact Got.and g (f := fun n => if 4096 < n then .no 5 else .val n) (by simp only [if_neg h]; exact Got.val _ _)
theorem Got.list {α : Type} {P : Pr α} {r rq rk : RV} {n : Int} {l : List α} (g : Got pMany r rq n) (h : Got (pRep P n.toNat) rq rk l) : Got (pList P) r rk l := by
  show Got (pMany.and fun n : Int => pRep P n.toNat) r rk l
  exact Got.and g h
theorem Got.zero {α : Type} {P : Pr α} (r : RV) : Got (pRep P 0) r r [] := Got.val _ _
theorem bad_e {r : RV} {k : Int} (hk : k ≠ 0) : (r.bad k).e ≠ 0 := by
  unfold RV.bad
  simp only
  split <;> assumption
theorem own_same {w w' : World} {base e sz n : Nat} {v : Value} {xs : List Value} (h : w.ownsRow base e sz v n xs) (hm : ∀ g, v.ownBlock = some g → w'.heap[g]? = w.heap[g]?) : w'.ownsRow base e sz v n xs := by
  obtain ⟨hl, h | ⟨g, cap, cur, hv, hbg, hg, hnc, hcm, hcs, ht⟩⟩ := h
  · exact ⟨hl, .inl h⟩
  · exact ⟨hl, .inr ⟨g, cap, cur, hv, hbg, (hm g (by rw [hv]; rfl)).trans hg, hnc, hcm, hcs, ht⟩⟩
theorem own_lt6 {w : World} {base e sz n : Nat} {v : Value} {xs : List Value} (h : w.ownsRow base e sz v n xs) : ∀ g, v.ownBlock = some g → base ≤ g ∧ g < w.heap.size := fun g hg => World.ownsRow.lt h g hg
theorem own_mov {B M : Nat} {w w' : World} {base e sz n : Nat} {v : Value} {xs : List Value} (h : w.ownsRow base e sz v n xs) (hm : Mov B M w w') (hB : B < base) (hM : M < base) : w'.ownsRow base e sz v n xs :=
  own_same h fun g hg => by have := own_lt6 h g hg; exact hm.block g this.2 (by omega) (by omega)
theorem own_any6 {w : World} {base e sz n : Nat} {v : Value} {xs : List Value} (h : w.ownsRow base e sz v n xs) : ∃ p c, v = .slice p n c := by
  obtain ⟨hl, ⟨rfl, rfl⟩ | ⟨g, cap, cur, hv, _⟩⟩ := h
  · exact ⟨_, _, rfl⟩
  · exact ⟨_, _, hv⟩
theorem Mov.grown {B M : Nat} {w w1 w2 : World} {row : Option Nat} (h : Mov B M w w1) (g : w1.grownBy w2 row) (hr : ∀ k, row = some k → w.heap.size ≤ k) : Mov B M w w2 :=
  ⟨g.os.trans h.os, g.tape.trans h.tape, g.output.trans h.output, Nat.le_trans h.size g.size, fun k hk h1 h2 => (g.block k (Nat.lt_of_lt_of_le hk h.size) (fun e => by have := hr k e.symm; omega)).trans (h.block k hk h1 h2)⟩
theorem RdAt.grown {w0 : World} {B M : Nat} {T : TypeId} {rest : List Value} {r : RV} {w w' : World} {row : Option Nat} (h : RdAt w0 B M T rest r w) (g : w.grownBy w' row) (hB : ∀ k, row = some k → B < k) (hM : ∀ k, row = some k → M < k) : RdAt w0 B M T rest r w' := by
  obtain ⟨D, hD⟩ := h.infos
  have hb := in_heap6 h.box
  have hm := ownsMap_in hD.own
  exact ⟨h.below.trans ⟨g.os, g.tape, g.output, g.size, fun k hk => g.block k (Nat.lt_of_lt_of_le hk h.below.size) (fun e => by have := hB k e.symm; have := h.hB; omega)⟩, (g.block B hb (fun e => by have := hB B e.symm; omega)).trans h.box,
    ⟨D, hD.same (g.block M hm (fun e => by have := hM M e.symm; omega))⟩, h.ne, h.hB, h.hM, h.size, h.pos⟩
theorem RdAt.lt {w0 : World} {B M : Nat} {T : TypeId} {rest : List Value} {r : RV} {w : World} (h : RdAt w0 B M T rest r w) : B < w.heap.size ∧ M < w.heap.size := by
  obtain ⟨D, hD⟩ := h.infos
  exact ⟨in_heap6 h.box, ownsMap_in hD.own⟩
theorem cells_new6 (w : World) (c : List Value) (t : TypeId) : ∀ j u, c[j]? = some u → (w.alloc (.cells c.toArray t)).cell? ((⟨w.heap.size, 0, none⟩ : Addr).add j) = some u := by
  intro j u hj
  have e : (⟨w.heap.size, 0, none⟩ : Addr).add j = ⟨w.heap.size, j, none⟩ := by
    unfold Addr.add; split
    · rename_i h0; rw [h0]
    · simp
  rw [e, World.cell?_alloc_new]; simpa using hj
def DidList {α : Type} (w0 : World) (B M : Nat) (T : TypeId) (rest : List Value) (r : RV) (w : World) (P : Pr α) (E sz : Nat) (row : α → List Value) (ok : α → Prop) (e : Ending) (w' : World) : Prop :=
  ∃ l r' v, e = .returned v ∧ Got (pList P) r r' l ∧ RdAt w0 B M T rest r' w' ∧ Mov B M w w' ∧ w'.ownsRow w.heap.size E sz v l.length (l.flatMap row) ∧ (∀ x ∈ l, ok x) ∧ l.length ≤ 4096
end Go.Proofs.YthfipknfdnfalaaGreatDoor
