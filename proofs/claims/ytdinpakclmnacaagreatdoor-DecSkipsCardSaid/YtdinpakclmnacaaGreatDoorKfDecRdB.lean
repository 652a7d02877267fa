/-
  Facts and contracts that the proof calls.
-/
import Derived.Test.YtdinpakclmnacaaGreatDoorKfDecRdA
import Derived.Shelf.Abstract
namespace Go.Proofs.YtdinpakclmnacaaGreatDoor
set_option maxRecDepth 100000
set_option maxHeartbeats 16000000
open Go.RowKit
set_option linter.unusedVariables false
theorem dec_len6 (p : Int → Int) : ∀ (l : List UInt8) (v : Int) (k : Nat), dec p l = some (v, k) → k ≤ l.length
  | [], v, k, h => by simp [dec] at h
  | b :: l, v, k, h => by
    simp only [dec] at h
    split at h
    · simp at h; simp; omega
    · cases hd : dec p l with
      | none => rw [hd] at h; simp at h
      | some x =>
        obtain ⟨v', k'⟩ := x
        have := dec_len6 p l v' k' hd
        rw [hd] at h; simp at h; simp; omega
theorem fit_ans {K : IntKind} {p : Int → Int} {most : Nat} {l : List UInt8} {a : Nat} (ha : a ≤ l.length) :
    (∃ v n, pFit K p most (l.drop a) = .ok v (l.drop (a + n)) ∧ ans K p most l a = (v, ((a + n : Nat) : Int), 0) ∧ a + n ≤ l.length ∧ K.min ≤ v ∧ v ≤ K.max) ∨
    (pFit K p most (l.drop a) = .bad 2 ∧ ans K p most l a = (0, 0, 2)) := by
  unfold ans pFit
  rw [if_neg (by omega), Int.toNat_natCast]
  cases hd : dec p (l.drop a) with
  | none => exact .inr ⟨rfl, rfl⟩
  | some x =>
    obtain ⟨v, n⟩ := x
    simp only [fit]
    by_cases hc : n ≤ most ∧ K.min ≤ v ∧ v ≤ K.max
    · rw [if_pos hc]
      have hn := dec_len6 p _ _ _ hd
      rw [List.length_drop] at hn
      exact .inl ⟨v, n, by simp [List.drop_drop], by simp, by omega, hc.2.1, hc.2.2⟩
    · rw [if_neg hc]; exact .inr ⟨rfl, rfl⟩
def valU32 (n : Int) : Value := .int .u32 n
theorem taken_u32 {w0 : World} {B M : Nat} {T : TypeId} {rest : List Value} {r : RV} {w : World} (h : RdAt w0 B M T rest r w) :
    Calls Tryz.prog 187 #[.pointer (some ⟨B, 0, none⟩), .func (.func 188) #[] #[]] w (Did w0 B M T rest r w (pFit .u32 usg 5) valU32 (fun _ _ n => IntKind.u32.min ≤ n ∧ n ≤ IntKind.u32.max)) := by
  obtain ⟨c0, c1, c2, c3, f0, f1, f2, f3⟩ := h.reads
  have hps := h.pos
  have eg := enters_of (P := Tryz.prog) (f := 188) Tryz.func188 (by kernel_rfl) rfl
  have hl : r.pos ≤ r.s.data.toList.length := by rw [Array.length_toList]; exact hps
  rcases fit_ans (K := .u32) (p := usg) (most := 5) hl with ⟨v, n, e1, e2, e3, e4⟩ | ⟨e1, e2⟩
  · have cg : ∀ W, Calls Tryz.prog 188 #[.string r.s, .int .i64 r.pos] W fun e w' => e = .returned (.tuple #[.int .u32 v, .int .i64 ((r.pos + n : Nat) : Int), .int .i64 0]) ∧ w' = W := fun W => by
      have := get_u32 r.s r.pos (Nat.le_trans h.size (by unfold maxLen; decide)) W
      rw [e2] at this
      exact this.mono fun e w' ⟨h1, h2⟩ => ⟨h1, h2.symm⟩
    rw [Array.length_toList] at e3
    have h1 := fun q => (h.drewN q).set1 (r.pos + n) e3
    have m1 := fun q => ((Mov.refl B M w).drewN q).set 1 (.int .i64 ((r.pos + n : Nat) : Int))
    have hg : Got (pFit .u32 usg 5) r ⟨r.s, r.pos + n, r.e⟩ v := by
      refine ⟨rfl, ?_⟩
      by_cases he : r.e = 0
      · exact .inr (.inl ⟨he, he, e1⟩)
      · exact .inl ⟨he, rfl⟩
    obtain ⟨z, hz⟩ : ∃ z : Int, ((r.pos + n : Nat) : Int) = z := ⟨_, rfl⟩
    rw [hz] at cg m1 h1
    have HZ := Lib.hid hz
    clear h e1 e2 hz hl
    go_enter Tryz.func187, Tryz.ntmps187
    go_wp2
    go_quiet ((go_at_call 188; refine Calls.quiet_of_same (cg _)))
    go_wp2
    go_ret
    exact ⟨v, _, rfl, hg, h1 _, m1 _, e4⟩
  · have cg : ∀ W, Calls Tryz.prog 188 #[.string r.s, .int .i64 r.pos] W fun e w' => e = .returned (.tuple #[.int .u32 0, .int .i64 0, .int .i64 2]) ∧ w' = W := fun W => by
      have := get_u32 r.s r.pos (Nat.le_trans h.size (by unfold maxLen; decide)) W
      rw [e2] at this
      exact this.mono fun e w' ⟨h1, h2⟩ => ⟨h1, h2.symm⟩
    have hf := fun q => fail_of (h.drewN q) 2
    have hg : Got (pFit .u32 usg 5) r (r.bad 2) 0 := by
      refine ⟨rfl, ?_⟩
      unfold RV.bad
      by_cases he : r.e = 0
      · exact .inr (.inr ⟨he, by simp [he], by simp only [he, if_true]; exact e1⟩)
      · exact .inl ⟨he, by simp [he]⟩
    clear h e1 e2 hl
    go_enter Tryz.func187, Tryz.ntmps187
    go_wp2
    go_quiet ((go_at_call 188; refine Calls.quiet_of_same (cg _)))
    go_wp2_with (go_at_call 115; (with_reducible refine (hf _).mono ?_); rintro e w1 ⟨rfl, h1, m1⟩)
    go_ret
    exact ⟨0, _, rfl, hg, h1, ((Mov.refl B M w).drewN _).trans m1, by decide, by decide⟩
def valI32 (n : Int) : Value := .int .i32 n
theorem taken_i32 {w0 : World} {B M : Nat} {T : TypeId} {rest : List Value} {r : RV} {w : World} (h : RdAt w0 B M T rest r w) :
    Calls Tryz.prog 189 #[.pointer (some ⟨B, 0, none⟩), .func (.func 190) #[] #[]] w (Did w0 B M T rest r w (pFit .i32 sgn 5) valI32 (fun _ _ n => IntKind.i32.min ≤ n ∧ n ≤ IntKind.i32.max)) := by
  obtain ⟨c0, c1, c2, c3, f0, f1, f2, f3⟩ := h.reads
  have hps := h.pos
  have eg := enters_of (P := Tryz.prog) (f := 190) Tryz.func190 (by kernel_rfl) rfl
  have hl : r.pos ≤ r.s.data.toList.length := by rw [Array.length_toList]; exact hps
  rcases fit_ans (K := .i32) (p := sgn) (most := 5) hl with ⟨v, n, e1, e2, e3, e4⟩ | ⟨e1, e2⟩
  · have cg : ∀ W, Calls Tryz.prog 190 #[.string r.s, .int .i64 r.pos] W fun e w' => e = .returned (.tuple #[.int .i32 v, .int .i64 ((r.pos + n : Nat) : Int), .int .i64 0]) ∧ w' = W := fun W => by
      have := get_i32 r.s r.pos (Nat.le_trans h.size (by unfold maxLen; decide)) W
      rw [e2] at this
      exact this.mono fun e w' ⟨h1, h2⟩ => ⟨h1, h2.symm⟩
    rw [Array.length_toList] at e3
    have h1 := fun q => (h.drewN q).set1 (r.pos + n) e3
    have m1 := fun q => ((Mov.refl B M w).drewN q).set 1 (.int .i64 ((r.pos + n : Nat) : Int))
    have hg : Got (pFit .i32 sgn 5) r ⟨r.s, r.pos + n, r.e⟩ v := by
      refine ⟨rfl, ?_⟩
      by_cases he : r.e = 0
      · exact .inr (.inl ⟨he, he, e1⟩)
      · exact .inl ⟨he, rfl⟩
    obtain ⟨z, hz⟩ : ∃ z : Int, ((r.pos + n : Nat) : Int) = z := ⟨_, rfl⟩
    rw [hz] at cg m1 h1
    have HZ := Lib.hid hz
    clear h e1 e2 hz hl
    go_enter Tryz.func189, Tryz.ntmps189
    go_wp2
    go_quiet ((go_at_call 190; refine Calls.quiet_of_same (cg _)))
    go_wp2
    go_ret
    exact ⟨v, _, rfl, hg, h1 _, m1 _, e4⟩
  · have cg : ∀ W, Calls Tryz.prog 190 #[.string r.s, .int .i64 r.pos] W fun e w' => e = .returned (.tuple #[.int .i32 0, .int .i64 0, .int .i64 2]) ∧ w' = W := fun W => by
      have := get_i32 r.s r.pos (Nat.le_trans h.size (by unfold maxLen; decide)) W
      rw [e2] at this
      exact this.mono fun e w' ⟨h1, h2⟩ => ⟨h1, h2.symm⟩
    have hf := fun q => fail_of (h.drewN q) 2
    have hg : Got (pFit .i32 sgn 5) r (r.bad 2) 0 := by
      refine ⟨rfl, ?_⟩
      unfold RV.bad
      by_cases he : r.e = 0
      · exact .inr (.inr ⟨he, by simp [he], by simp only [he, if_true]; exact e1⟩)
      · exact .inl ⟨he, by simp [he]⟩
    clear h e1 e2 hl
    go_enter Tryz.func189, Tryz.ntmps189
    go_wp2
    go_quiet ((go_at_call 190; refine Calls.quiet_of_same (cg _)))
    go_wp2_with (go_at_call 115; (with_reducible refine (hf _).mono ?_); rintro e w1 ⟨rfl, h1, m1⟩)
    go_ret
    exact ⟨0, _, rfl, hg, h1, ((Mov.refl B M w).drewN _).trans m1, by decide, by decide⟩
def valI64 (n : Int) : Value := .int .i64 n
theorem taken_i64 {w0 : World} {B M : Nat} {T : TypeId} {rest : List Value} {r : RV} {w : World} (h : RdAt w0 B M T rest r w) :
    Calls Tryz.prog 191 #[.pointer (some ⟨B, 0, none⟩), .func (.func 192) #[] #[]] w (Did w0 B M T rest r w (pFit .i64 sgn 10) valI64 (fun _ _ n => IntKind.i64.min ≤ n ∧ n ≤ IntKind.i64.max)) := by
  obtain ⟨c0, c1, c2, c3, f0, f1, f2, f3⟩ := h.reads
  have hps := h.pos
  have eg := enters_of (P := Tryz.prog) (f := 192) Tryz.func192 (by kernel_rfl) rfl
  have hl : r.pos ≤ r.s.data.toList.length := by rw [Array.length_toList]; exact hps
  rcases fit_ans (K := .i64) (p := sgn) (most := 10) hl with ⟨v, n, e1, e2, e3, e4⟩ | ⟨e1, e2⟩
  · have cg : ∀ W, Calls Tryz.prog 192 #[.string r.s, .int .i64 r.pos] W fun e w' => e = .returned (.tuple #[.int .i64 v, .int .i64 ((r.pos + n : Nat) : Int), .int .i64 0]) ∧ w' = W := fun W => by
      have := get_i64 r.s r.pos (Nat.le_trans h.size (by unfold maxLen; decide)) W
      rw [e2] at this
      exact this.mono fun e w' ⟨h1, h2⟩ => ⟨h1, h2.symm⟩
    rw [Array.length_toList] at e3
    have h1 := fun q => (h.drewN q).set1 (r.pos + n) e3
    have m1 := fun q => ((Mov.refl B M w).drewN q).set 1 (.int .i64 ((r.pos + n : Nat) : Int))
    have hg : Got (pFit .i64 sgn 10) r ⟨r.s, r.pos + n, r.e⟩ v := by
      refine ⟨rfl, ?_⟩
      by_cases he : r.e = 0
      · exact .inr (.inl ⟨he, he, e1⟩)
      · exact .inl ⟨he, rfl⟩
    obtain ⟨z, hz⟩ : ∃ z : Int, ((r.pos + n : Nat) : Int) = z := ⟨_, rfl⟩
    rw [hz] at cg m1 h1
    have HZ := Lib.hid hz
    clear h e1 e2 hz hl
    go_enter Tryz.func191, Tryz.ntmps191
    go_wp2
    go_quiet ((go_at_call 192; refine Calls.quiet_of_same (cg _)))
    go_wp2
    go_ret
    exact ⟨v, _, rfl, hg, h1 _, m1 _, e4⟩
  · have cg : ∀ W, Calls Tryz.prog 192 #[.string r.s, .int .i64 r.pos] W fun e w' => e = .returned (.tuple #[.int .i64 0, .int .i64 0, .int .i64 2]) ∧ w' = W := fun W => by
      have := get_i64 r.s r.pos (Nat.le_trans h.size (by unfold maxLen; decide)) W
      rw [e2] at this
      exact this.mono fun e w' ⟨h1, h2⟩ => ⟨h1, h2.symm⟩
    have hf := fun q => fail_of (h.drewN q) 2
    have hg : Got (pFit .i64 sgn 10) r (r.bad 2) 0 := by
      refine ⟨rfl, ?_⟩
      unfold RV.bad
      by_cases he : r.e = 0
      · exact .inr (.inr ⟨he, by simp [he], by simp only [he, if_true]; exact e1⟩)
      · exact .inl ⟨he, by simp [he]⟩
    clear h e1 e2 hl
    go_enter Tryz.func191, Tryz.ntmps191
    go_wp2
    go_quiet ((go_at_call 192; refine Calls.quiet_of_same (cg _)))
    go_wp2_with (go_at_call 115; (with_reducible refine (hf _).mono ?_); rintro e w1 ⟨rfl, h1, m1⟩)
    go_ret
    exact ⟨0, _, rfl, hg, h1, ((Mov.refl B M w).drewN _).trans m1, by decide, by decide⟩
def valInt (n : Int) : Value := .int .i64 n
def valUnit (_ : Unit) : Value := .tuple #[]
def valStr (l : List UInt8) : Value := .string (bs l)
def okAny {α : Type} (_ _ : World) (_ : α) : Prop := True
def okWord (_ _ : World) (n : Int) : Prop := 0 ≤ n ∧ n < 4294967296
def okI64 (_ _ : World) (n : Int) : Prop := inI64 n
theorem Did.mono {α : Type} {w0 : World} {B M : Nat} {T : TypeId} {rest : List Value} {r : RV} {w : World} {P : Pr α} {val : α → Value} {ok ok' : World → World → α → Prop} {e : Ending} {w' : World} (h : Did w0 B M T rest r w P val ok e w') (k : ∀ x, ok w w' x → ok' w w' x) : Did w0 B M T rest r w P val ok' e w' := by
  obtain ⟨x, r', h1, h2, h3, h4, h5⟩ := h
  exact ⟨x, r', h1, h2, h3, h4, k x h5⟩
theorem number_reads (w0 : World) : Reads6 w0 127 pNum valInt okWord := by
  intro B M T rest r w h
  have c1 := taken_u32 h
  go_enter Tryz.func127, Tryz.ntmps127
  go_wp2_with (go_at_call 187; (with_reducible refine c1.mono ?_); rintro e w1 ⟨n, r1, rfl, g1, h1, m1, ok1⟩; have b1 : 0 ≤ n ∧ n ≤ 4294967295 := ok1; dsimp only [valU32])
  go_ret
  exact ⟨n, r1, rfl, g1, h1, m1, b1.1, by omega⟩
theorem signed_reads {w0 : World} {B M : Nat} {T : TypeId} {rest : List Value} {r : RV} {w : World} (h : RdAt w0 B M T rest r w) (c : Int) :
    Calls Tryz.prog 130 #[.pointer (some ⟨B, 0, none⟩), .int .i64 c] w (Did w0 B M T rest r w (pSigned c) valInt okI64) := by
  by_cases hc : c = 65
  · have e1 : pSigned c = pFit .i32 sgn 5 := by unfold pSigned; rw [if_pos hc]; rfl
    rw [e1]
    subst hc
    have c1 := taken_i32 h
    go_enter Tryz.func130, Tryz.ntmps130
    go_wp2_with (go_at_call 189; (with_reducible refine c1.mono ?_); rintro e w1 ⟨n, r1, rfl, g1, h1, m1, ok1⟩; have b1 : -2147483648 ≤ n ∧ n ≤ 2147483647 := ok1; dsimp only [valI32])
    go_ret
    exact ⟨n, r1, rfl, g1, h1, m1, by unfold okI64 inI64; omega⟩
  · have e1 : pSigned c = pFit .i64 sgn 10 := by unfold pSigned; rw [if_neg hc]; rfl
    rw [e1]
    have hq : (c == 65) = false := beq_eq_false_iff_ne.2 hc
    have c1 := taken_i64 h
    go_enter Tryz.func130, Tryz.ntmps130
    go_wp2_with (go_at_call 191; (with_reducible refine c1.mono ?_); rintro e w1 ⟨n, r1, rfl, g1, h1, m1, ok1⟩; have b1 : -9223372036854775808 ≤ n ∧ n ≤ 9223372036854775807 := ok1; dsimp only [valI64])
    go_ret
    exact ⟨n, r1, rfl, g1, h1, m1, by unfold okI64 inI64; omega⟩
theorem is_reads {w0 : World} {B M : Nat} {T : TypeId} {rest : List Value} {r : RV} {w : World} (h : RdAt w0 B M T rest r w) (b : Int) :
    Calls Tryz.prog 129 #[.pointer (some ⟨B, 0, none⟩), .int .u8 b] w (Did w0 B M T rest r w (pIs b) valUnit okAny) := by
  have c1 := one_reads w0 B M T rest r w h
  go_enter Tryz.func129, Tryz.ntmps129
  go_wp2_with (first
    | (go_at_call 114; (with_reducible refine c1.mono ?_); rintro e w1 ⟨n, r1, rfl, g1, h1, m1, ok1⟩; have c2 := fail_of h1 2; dsimp only [valU8])
    | (go_at_call 115; (with_reducible refine c2.mono ?_); rintro e w2 ⟨rfl, h2, m2⟩))
  · rename_i hne
    have hn : ¬ n = b := by simpa using hne
    go_end0
    exact ⟨(), _, rfl, g1.and (by rw [if_neg hn]; exact Got.no (by decide) _ _), h2, m1.trans m2, trivial⟩
  · rename_i hne
    have hn : n = b := by simpa using hne
    go_end0
    exact ⟨(), _, rfl, g1.and (by rw [if_pos hn]; exact Got.val _ _), h1, m1, trivial⟩
theorem kind_reads {w0 : World} {B M : Nat} {T : TypeId} {rest : List Value} {r : RV} {w : World} (h : RdAt w0 B M T rest r w) (b : Int) (hb : 0 ≤ b ∧ b < 256) :
    Calls Tryz.prog 186 #[.pointer (some ⟨B, 0, none⟩), .int .u8 b] w (Did w0 B M T rest r w (pKind b) valU8 (fun _ _ n => n = b)) := by
  have c2 := fail_of h 2
  have c3 := fail_of h 3
  rcases (show b = 127 ∨ b = 126 ∨ b = 125 ∨ b = 124 ∨ (b < 124 ∨ 127 < b) by omega) with rfl | rfl | rfl | rfl | hq
  · go_enter Tryz.func186, Tryz.ntmps186
    go_wp2_with fail
    go_ret
    exact ⟨127, r, rfl, by unfold pKind; rw [if_pos (by decide)]; exact Got.val _ _, h, Mov.refl _ _ _, rfl⟩
  · go_enter Tryz.func186, Tryz.ntmps186
    go_wp2_with fail
    go_ret
    exact ⟨126, r, rfl, by unfold pKind; rw [if_pos (by decide)]; exact Got.val _ _, h, Mov.refl _ _ _, rfl⟩
  · go_enter Tryz.func186, Tryz.ntmps186
    go_wp2_with (go_at_call 115; (with_reducible refine c3.mono ?_); rintro e w2 ⟨rfl, h2, m2⟩)
    go_ret
    exact ⟨125, _, rfl, by unfold pKind; rw [if_neg (by decide), if_pos (by decide)]; exact Got.no (by decide) _ _, h2, m2, rfl⟩
  · go_enter Tryz.func186, Tryz.ntmps186
    go_wp2_with (go_at_call 115; (with_reducible refine c3.mono ?_); rintro e w2 ⟨rfl, h2, m2⟩)
    go_ret
    exact ⟨124, _, rfl, by unfold pKind; rw [if_neg (by decide), if_pos (by decide)]; exact Got.no (by decide) _ _, h2, m2, rfl⟩
  · have q1 : (b == 127) = false := beq_eq_false_iff_ne.2 (by omega)
    have q2 : (b == 126) = false := beq_eq_false_iff_ne.2 (by omega)
    have q3 : (b == 125) = false := beq_eq_false_iff_ne.2 (by omega)
    have q4 : (b == 124) = false := beq_eq_false_iff_ne.2 (by omega)
    go_enter Tryz.func186, Tryz.ntmps186
    go_wp2_with (go_at_call 115; (with_reducible refine c2.mono ?_); rintro e w2 ⟨rfl, h2, m2⟩)
    go_ret
    exact ⟨b, _, rfl, by unfold pKind; rw [if_neg (by omega), if_neg (by omega)]; exact Got.no (by decide) _ _, h2, m2, rfl⟩
theorem value_reads (w0 : World) : Reads6 w0 228 pValue valU8 okU8 := by
  intro B M T rest r w h
  have c1 := one_reads w0 B M T rest r w h
  go_enter Tryz.func228, Tryz.ntmps228
  go_wp2_with (first
    | (go_at_call 114; (with_reducible refine c1.mono ?_); rintro e w1 ⟨n, r1, rfl, g1, h1, m1, ok1⟩; have c2 := kind_reads h1 n ok1; dsimp only [valU8])
    | (go_at_call 186; (with_reducible refine c2.mono ?_); rintro e w2 ⟨k, r2, rfl, g2, h2, m2, rfl⟩; dsimp only [valU8]))
  go_ret
  exact ⟨k, r2, rfl, g1.and g2, h2, m1.trans m2, ok1⟩
theorem answer_reads (w0 : World) : Reads6 w0 126 (pOne.and fun k => if k = 64 then .val k else (pKind k).and fun _ => .val k) valU8 okU8 := by
  intro B M T rest r w h
  have c1 := one_reads w0 B M T rest r w h
  go_enter Tryz.func126, Tryz.ntmps126
  go_wp2_with (first
    | (go_at_call 114; (with_reducible refine c1.mono ?_); rintro e w1 ⟨n, r1, rfl, g1, h1, m1, ok1⟩; have c2 := kind_reads h1 n ok1; dsimp only [valU8])
    | (go_at_call 186; (with_reducible refine c2.mono ?_); rintro e w2 ⟨k, r2, rfl, g2, h2, m2, rfl⟩; dsimp only [valU8]))
  · rename_i hne
    have hn : n = 64 := by simpa using hne
    go_ret
    exact ⟨n, r1, rfl, g1.and (by rw [if_pos hn]; exact Got.val _ _), h1, m1, ok1⟩
  · rename_i hne
    have hn : ¬ k = 64 := by simpa using hne
    go_ret
    exact ⟨k, r2, rfl, g1.and (by rw [if_neg hn]; exact g2.and (Got.val _ _)), h2, m1.trans m2, ok1⟩
theorem extract_bs (s : ByteArray) (a b : Nat) : s.extract a b = bs ((s.data.toList.take b).drop a) := by
  unfold bs
  apply ByteArray.ext
  apply Array.toList_inj.1
  simp [ByteArray.data_extract, List.drop_take]
def DidText (w0 : World) (B M : Nat) (T : TypeId) (rest : List Value) (r : RV) (w : World) (e : Ending) (w' : World) : Prop :=
  ∃ l r', e = .returned (.string (bs l)) ∧ Got pText r r' l ∧ RdAt w0 B M T rest r' w' ∧ Mov B M w w' ∧ l.length ≤ r'.pos ∧ l = (r.s.data.toList.take r'.pos).drop (r'.pos - l.length)
theorem got_text {r r1 : RV} {n : Int} (g : Got pNum r r1 n) (hn : 0 ≤ n) (hp : r1.pos ≤ r1.s.size) :
    (r1.s.size - r1.pos < n → Got pText r (r1.bad 2) []) ∧ (n ≤ r1.s.size - r1.pos → Got pText r ⟨r1.s, r1.pos + n.toNat, r1.e⟩ (r1.rem.take n.toNat)) := by
  have hl : r1.rem.length = r1.s.size - r1.pos := by unfold RV.rem; rw [List.length_drop, Array.length_toList]; rfl
  constructor
  · intro h
    refine Got.and g (x := n) (f := fun n l => if (l.length : Int) < n then .bad 2 else .ok (l.take n.toNat) (l.drop n.toNat)) ⟨rfl, ?_⟩
    unfold RV.bad
    by_cases he : r1.e = 0
    · exact .inr (.inr ⟨he, by simp [he], by simp only [he, if_true]; rw [if_pos (by omega)]⟩)
    · exact .inl ⟨he, by simp [he]⟩
  · intro h
    refine Got.and g (x := n) (f := fun n l => if (l.length : Int) < n then .bad 2 else .ok (l.take n.toNat) (l.drop n.toNat)) ⟨rfl, ?_⟩
    by_cases he : r1.e = 0
    · refine .inr (.inl ⟨he, he, ?_⟩)
      have e : ¬ ((r1.rem.length : Int) < n) := by omega
      simp only [if_neg e]
      unfold RV.rem
      rw [List.drop_drop]
    · exact .inl ⟨he, rfl⟩
theorem take_back {s : List UInt8} {p n : Nat} (h : p + n ≤ s.length) : (s.drop p).take n = (s.take (p + n)).drop (p + n - ((s.drop p).take n).length) ∧ ((s.drop p).take n).length ≤ p + n := by
  have hl : ((s.drop p).take n).length = n := by rw [List.length_take, List.length_drop]; omega
  rw [hl, show p + n - n = p by omega, List.drop_take, show p + n - p = n by omega]
  exact ⟨rfl, by omega⟩
theorem text_reads {w0 : World} {B M : Nat} {T : TypeId} {rest : List Value} {r : RV} {w : World} (h : RdAt w0 B M T rest r w) :
    Calls Tryz.prog 184 #[.pointer (some ⟨B, 0, none⟩)] w (DidText w0 B M T rest r w) := by
  have c1 := number_reads w0 B M T rest r w h
  have hsz := h.size
  clear h
  go_enter Tryz.func184, Tryz.ntmps184
  go_wp2_with (go_at_call 127; (with_reducible refine c1.mono ?_); rintro e w1 ⟨n, r1, rfl, g1, h1, m1, ok1⟩; dsimp only [valInt])
  obtain ⟨s1, p1, e1⟩ := r1
  obtain rfl : s1 = r.s := g1.1
  have hp1 : p1 ≤ r.s.size := h1.pos
  have ok0 := ok1.1
  have ok2 := ok1.2
  obtain ⟨d0, d1, d2, d3, k0, k1, k2, k3⟩ := h1.reads
  have ht := got_text g1 ok0 hp1
  simp only at d0 d1 d2 ht
  by_cases hle : n ≤ (r.s.size : Int) - p1
  · have hge : ¬ ((r.s.size : Int) - p1 < n) := by omega
    have hd : decide ((r.s.size : Int) - p1 < n) = false := decide_eq_false hge
    have ht2 := ht.2 hle
    obtain ⟨k, rfl⟩ := Int.eq_ofNat_of_zero_le ok0
    have hpk : p1 + k ≤ r.s.size := by omega
    have h2 := fun q => (h1.drewN q).set1 (p1 + k) hpk
    have m2 := fun q => (m1.drewN q).set 1 (.int .i64 ((p1 + k : Nat) : Int))
    have hcast : ((p1 + k : Nat) : Int) = (p1 : Int) + k := by omega
    rw [hcast] at m2 h2
    rw [Int.toNat_natCast] at ht2
    have htb := take_back (s := r.s.data.toList) (p := p1) (n := k) (by rw [Array.length_toList]; exact hpk)
    clear g1 h1 ht m1 c1 hle
    go_quiet (fail)
    go_wp2
    replace h2 := h2 nq
    replace m2 := m2 nq
    generalize (w1.drewN nq).setCell ⟨B, 1, none⟩ (.int .i64 ((p1 : Int) + k)) = W at *
    have hx := h2.reads
    obtain ⟨x0, x1, x2, x3, y0, y1, y2, y3⟩ := hx
    simp only [hcast] at x0 x1
    clear d0 d1 d2 d3 k0 k1 k2 k3
    go_quiet (fail)
    go_wp2
    go_ret
    refine ⟨_, _, ?_, ht2, h2.drewN _, m2.drewN _, htb.2, htb.1⟩
    show Ending.returned (.string (r.s.extract p1 (p1 + k))) = _
    rw [extract_bs, List.drop_take, show p1 + k - p1 = k by omega]
    rfl
  · have hlt : (r.s.size : Int) - p1 < n := by omega
    have hd : decide ((r.s.size : Int) - p1 < n) = true := decide_eq_true hlt
    have c2 := fun q => fail_of (h1.drewN q) 2
    have ht2 := ht.1 hlt
    clear g1 h1 ht c1
    go_quiet (fail)
    go_wp2_with (go_at_call 115; (with_reducible refine (c2 _).mono ?_); rintro e w2 ⟨rfl, h2, m2⟩)
    go_ret
    exact ⟨[], _, rfl, ht2, h2, (m1.drewN _).trans m2, Nat.zero_le _, by simp⟩
structure MovF (B M F : Nat) (w w' : World) : Prop where
  os : w'.os = w.os
  tape : w'.tape = w.tape
  output : w'.output = w.output
  size : w.heap.size ≤ w'.heap.size
  block : ∀ k, k < w.heap.size → k ≠ B → k ≠ M → k ≠ F → w'.heap[k]? = w.heap[k]?
theorem Mov.on {B M : Nat} {w w' : World} (h : Mov B M w w') (F : Nat) : MovF B M F w w' := ⟨h.os, h.tape, h.output, h.size, fun k h0 h1 h2 _ => h.block k h0 h1 h2⟩
theorem MovF.off {B M : Nat} {w w' : World} (h : MovF B M B w w') : Mov B M w w' := ⟨h.os, h.tape, h.output, h.size, fun k h0 h1 h2 => h.block k h0 h1 h2 h1⟩
theorem MovF.trans {B M F : Nat} {a b c : World} (h : MovF B M F a b) (k : MovF B M F b c) : MovF B M F a c := ⟨k.os.trans h.os, k.tape.trans h.tape, k.output.trans h.output, Nat.le_trans h.size k.size, fun i hi h1 h2 h3 => (k.block i (Nat.lt_of_lt_of_le hi h.size) h1 h2 h3).trans (h.block i hi h1 h2 h3)⟩
theorem MovF.new {B M F : Nat} {w w' : World} (h : MovF B M F w w') (hF : w.heap.size ≤ F) : Mov B M w w' := ⟨h.os, h.tape, h.output, h.size, fun k h0 h1 h2 => h.block k h0 h1 h2 (by omega)⟩
theorem bs_list6 (l : List UInt8) : (bs l).data.toList = l := by simp [bs]
theorem size_take {s : ByteArray} {p : Nat} (h : p ≤ s.size) : (s.extract 0 p).size = p := by simp; omega
theorem got_whole {α : Type} {P : Pr α} {r r1 r3 : RV} {l : List UInt8} {x : α} (g : Got pText r r1 l) (hl : l = (r.s.data.toList.take r1.pos).drop (r1.pos - l.length)) (hp : r1.pos ≤ r.s.size)
    (g3 : Got P ⟨r.s.extract 0 r1.pos, r1.pos - l.length, r1.e⟩ r3 x) (hp3 : r3.pos ≤ r1.pos) :
    (r3.pos < r1.pos → Got (pWhole P) r ⟨r.s, r3.pos, (r3.bad 2).e⟩ x) ∧ (¬ r3.pos < r1.pos → Got (pWhole P) r ⟨r.s, r3.pos, r3.e⟩ x) := by
  have hrem : (⟨r.s.extract 0 r1.pos, r1.pos - l.length, r1.e⟩ : RV).rem = l := by
    unfold RV.rem
    simp only
    rw [extract_bs, bs_list6, List.drop_zero]
    exact hl.symm
  have hs3 : r3.s = r.s.extract 0 r1.pos := g3.1
  have hr3 : r3.pos < r1.pos → ∃ b m, r3.rem = b :: m := fun h => by
    have := rem_cons (r := r3) (by rw [hs3, size_take hp]; exact h)
    exact ⟨_, _, this⟩
  have hr0 : ¬ r3.pos < r1.pos → r3.rem = [] := fun h => rem_nil (by rw [hs3, size_take hp]; omega)
  have main : ∀ (e' : Int), ((r3.e ≠ 0 ∧ e' = r3.e) ∨ (r3.e = 0 ∧ e' = 2 ∧ r3.pos < r1.pos) ∨ (r3.e = 0 ∧ e' = 0 ∧ ¬ r3.pos < r1.pos)) → Got (pWhole P) r ⟨r.s, r3.pos, e'⟩ x := fun e' he => by
    unfold pWhole
    refine Got.and (r1 := r1) g (x := l) (f := pIn P) ⟨g.1.symm, ?_⟩
    unfold pIn
    rcases g3.2 with ⟨k1, k2⟩ | ⟨k1, k2, k3⟩ | ⟨k1, k2, k3⟩
    · simp only at k1 k2
      rcases he with ⟨a1, a2⟩ | ⟨a1, _⟩ | ⟨a1, _⟩
      · exact .inl ⟨k1, a2.trans k2⟩
      · exact absurd (k2.symm.trans a1) k1
      · exact absurd (k2.symm.trans a1) k1
    · rw [hrem] at k3
      simp only at k1
      rcases he with ⟨a1, _⟩ | ⟨_, a2, a3⟩ | ⟨_, a2, a3⟩
      · exact absurd k2 a1
      · obtain ⟨b, m, hb⟩ := hr3 a3
        rw [hb] at k3
        exact .inr (.inr ⟨k1, by simp [a2], by simp only [k3, a2]⟩)
      · rw [hr0 a3] at k3
        have hpp : r3.pos = r1.pos := by omega
        have hs1 : r1.s = r.s := g.1
        exact .inr (.inl ⟨k1, a2, by simp only [k3]; unfold RV.rem; simp only; rw [hpp, hs1]⟩)
    · rw [hrem] at k3
      simp only at k1
      rcases he with ⟨_, a2⟩ | ⟨a1, _⟩ | ⟨a1, _⟩
      · exact .inr (.inr ⟨k1, by simp only [a2]; exact k2, by simp only [k3, a2]⟩)
      · exact absurd a1 k2
      · exact absurd a1 k2
  constructor
  · intro h
    refine main _ ?_
    unfold RV.bad
    by_cases he : r3.e = 0
    · exact .inr (.inl ⟨he, by simp [he], h⟩)
    · exact .inl ⟨he, by simp [he]⟩
  · intro h
    refine main _ ?_
    by_cases he : r3.e = 0
    · exact .inr (.inr ⟨he, he, h⟩)
    · exact .inl ⟨he, rfl⟩
def Within {α : Type} (w0 : World) (B M F : Nat) (T : TypeId) (rest : List Value) (w : World) (N g : Nat) (lb : Array Value) (P : Pr α) (Q : List Value → World → World → α → Prop) : Prop :=
  ∀ (r2 : RV) (W : World), RdAt w0 B M T rest r2 W → Mov B M w W → r2.s.size ≤ N → Calls Tryz.prog g lb W fun e W' => ∃ x r3 rest', e = .returned (.tuple #[]) ∧ Got P r2 r3 x ∧ RdAt w0 B M T rest' r3 W' ∧ MovF B M F W W' ∧ Q rest' W W' x
def DidIn {α : Type} (w0 : World) (B M F : Nat) (T : TypeId) (r : RV) (w : World) (P : Pr α) (Q : List Value → World → World → α → Prop) (e : Ending) (w' : World) : Prop :=
  ∃ x r' rest' W W1, e = .returned (.tuple #[]) ∧ Got (pWhole P) r r' x ∧ RdAt w0 B M T rest' r' w' ∧ Mov B M w W ∧ MovF B M F W W1 ∧ Q rest' W W1 x ∧ Mov B M W1 w'
theorem whole_of {α : Type} {w0 : World} {B M F : Nat} {T : TypeId} {rest : List Value} {r : RV} {w : World} {P : Pr α} {Q : List Value → World → World → α → Prop} (h : RdAt w0 B M T rest r w) (g : Nat) (lb : Array Value)
    (eg : ∀ args w, (callFunc g args).run Tryz.prog w = .ok (.enter g args) w) (hin : Within w0 B M F T rest w r.s.size g lb P Q) :
    Calls Tryz.prog 116 #[.pointer (some ⟨B, 0, none⟩), .func (.func g) #[] lb] w (DidIn w0 B M F T r w P Q) := by
  have ct := fun (W : World) (hW : Below w.heap.size w W) => text_reads (h.at' hW)
  have hsz := h.size
  have c0 : w.cell? ⟨B, 0, none⟩ = some (.string r.s) := h.reads.1
  clear h
  go_enter Tryz.func116, Tryz.ntmps116
  go_wp2
  go_region_held3 (fun W => W.cell? ⟨B, 0, none⟩ = some (.string r.s)) (first | (with_reducible exact x0) | go_keep)
    (first | (go_at_call 184; (with_reducible refine (ct _ (by first | exact Below.refl _ _ | exact (Below.refl _ _).drew)).mono ?_); rintro e w1 ⟨l, ⟨s1, p1, e1⟩, rfl, g1, h1, m1, hl, hl2⟩; obtain rfl : s1 = r.s := g1.1; have HL := Lib.hid hl2; clear hl2; have x0 : w1.cell? ⟨B, 0, none⟩ = some (.string r.s) := h1.reads.1))
  go_wp2
  have m2 : Mov B M w w1 := by first | exact m1 | exact ((Mov.refl B M w).drew).trans m1
  have hp1 : p1 ≤ r.s.size := h1.pos
  have hbs : (bs l).size = l.length := by simp [bs, ByteArray.size]
  have hlp : l.length ≤ p1 := hl
  obtain ⟨x0, x1, x2, x3, y0, y1, y2, y3⟩ := h1.reads
  simp only at x0 x1 x2
  obtain ⟨n, hn⟩ : ∃ n : Nat, l.length = n := ⟨_, rfl⟩
  rw [hn] at hbs hlp
  have HN := Lib.hid hn
  clear m1 ct c0 hl hn
  have hX : (r.s.extract 0 p1).size = p1 := size_take hp1
  have h2 := ((h1.set0 (r.s.extract 0 p1) (by rw [hX]; omega) (by rw [hX]; exact Nat.le_refl p1)).set1 (p1 - n) (by show p1 - n ≤ (r.s.extract 0 p1).size; rw [hX]; omega)).drew
  have m3 := ((m2.set 0 (.string (r.s.extract 0 p1))).set 1 (.int .i64 ((p1 - n : Nat) : Int))).drew
  have hcast : ((p1 - n : Nat) : Int) = (p1 : Int) - n := by omega
  rw [hcast] at h2 m3
  have hgot := fun r3 x => got_whole (P := P) (r3 := r3) (x := x) g1 HL.out hp1
  simp only [HN.out] at hgot
  have HG := Lib.hid hgot
  have hrs := h1.size
  clear h1 g1 hgot
  go_region
  generalize ((w1.setCell ⟨B, 0, none⟩ (.string (r.s.extract 0 p1))).setCell ⟨B, 1, none⟩ (.int .i64 ((p1 : Int) - n))).drew = W at *
  have cc := hin _ W h2 m3 (by show (r.s.extract 0 p1).size ≤ r.s.size; rw [hX]; exact hp1)
  clear x0 x1 x2 x3 y0 y1 y2 y3
  go_wp2_with (go_at_fn g; (with_reducible refine cc.mono ?_); rintro e w2 ⟨x, ⟨s3, p3, e3⟩, rest', rfl, g3, h3, m4, q3⟩)
  obtain rfl : s3 = r.s.extract 0 p1 := g3.1
  have hp3 : p3 ≤ p1 := by have := h3.pos; rw [hX] at this; exact this
  have HG3 := Lib.hid (HG.out _ x g3 hp3)
  obtain ⟨x0, x1, x2, x3, y0, y1, y2, y3⟩ := h3.reads
  simp only at x0 x1 x2
  clear h2 g3 cc hin HG
  obtain ⟨X, hXX⟩ : ∃ X, X = r.s.extract 0 p1 := ⟨_, rfl⟩
  rw [← hXX] at hX x0 h3
  clear hXX HL
  by_cases hlt : p3 < p1
  · have hd : decide ((p3 : Int) < p1) = true := decide_eq_true (by omega)
    have hlt' : (p3 : Int) < p1 := by omega
    have c2 := fun q => fail_of (h3.drewN q) 2
    have hg := HG3.out.1 hlt
    clear h3
    go_quiet (fail)
    go_wp2_with (go_at_call 115; (with_reducible refine (c2 _).mono ?_); rintro e w3 ⟨rfl, h4, m5⟩; obtain ⟨x0, x1, x2, x3, y0, y1, y2, y3⟩ := h4.reads)
    have h5 := h4.set0 r.s hrs (Nat.le_trans hp3 hp1)
    have m6 := ((((Mov.refl B M w2).drewN nq).trans m5).set 0 (.string r.s))
    go_end0
    exact ⟨x, _, rest', W, w2, rfl, hg, h5, m3, m4, q3, m6⟩
  · have hd : decide ((p3 : Int) < p1) = false := decide_eq_false (by omega)
    have hge : ¬ ((p3 : Int) < p1) := by omega
    have hg := HG3.out.2 hlt
    have h5 := fun q => (h3.drewN q).set0 r.s hrs (Nat.le_trans hp3 hp1)
    have m6 := fun q => ((Mov.refl B M w2).drewN q).set 0 (.string r.s)
    clear h3
    go_quiet (fail)
    go_wp2
    go_end0
    exact ⟨x, _, rest', W, w2, rfl, hg, h5 _, m3, m4, q3, m6 _⟩
theorem rep_snoc {α : Type} {p : Pr α} {x : α} : ∀ (k : Nat) (l m m' : List UInt8) (xs : List α), pRep p k l = .ok xs m → p m = .ok x m' → pRep p (k + 1) l = .ok (xs ++ [x]) m'
  | 0, l, m, m', xs, h, hx => by
    unfold pRep Pr.val at h
    injection h with h1 h2
    subst h1 h2
    unfold pRep
    rw [and_ok hx]
    rfl
  | k + 1, l, m, m', xs, h, hx => by
    unfold pRep at h ⊢
    cases hp : p l with
    | bad e => rw [and_bad hp] at h; cases h
    | ok y r =>
      rw [and_ok hp] at h ⊢
      cases hr : pRep p k r with
      | bad e => rw [and_bad hr] at h; cases h
      | ok ys r2 =>
        rw [and_ok hr] at h
        unfold Pr.val at h
        injection h with h1 h2
        subst h1 h2
        rw [and_ok (rep_snoc k r r2 m' ys hr hx)]
        rfl
theorem rep_stop {α : Type} {p : Pr α} {e : Int} : ∀ (k : Nat) (l m : List UInt8) (xs : List α), pRep p k l = .ok xs m → p m = .bad e → pRep p (k + 1) l = .bad e
  | 0, l, m, xs, h, hx => by
    unfold pRep Pr.val at h
    injection h with h1 h2
    subst h1 h2
    unfold pRep
    rw [and_bad hx]
  | k + 1, l, m, xs, h, hx => by
    unfold pRep at h ⊢
    cases hp : p l with
    | bad e => rw [and_bad hp] at h; cases h
    | ok y r =>
      rw [and_ok hp] at h ⊢
      cases hr : pRep p k r with
      | bad e => rw [and_bad hr] at h; cases h
      | ok ys r2 =>
        rw [and_ok hr] at h
        unfold Pr.val at h
        injection h with h1 h2
        subst h1 h2
        rw [and_bad (rep_stop k r r2 ys hr hx)]
theorem rep_bad {α : Type} {p : Pr α} {e : Int} : ∀ (k n : Nat) (l : List UInt8), k ≤ n → pRep p k l = .bad e → pRep p n l = .bad e
  | 0, n, l, _, h => by unfold pRep Pr.val at h; cases h
  | k + 1, 0, l, hk, _ => by omega
  | k + 1, n + 1, l, hk, h => by
    unfold pRep at h ⊢
    cases hp : p l with
    | bad e' => rw [and_bad hp] at h ⊢; exact h
    | ok y r =>
      rw [and_ok hp] at h ⊢
      cases hr : pRep p k r with
      | ok ys r2 => rw [and_ok hr] at h; unfold Pr.val at h; cases h
      | bad e' =>
        rw [and_bad hr] at h
        rw [and_bad (rep_bad k n r (by omega) hr)]
        exact h
theorem Got.more {α : Type} {P : Pr α} {r r1 r2 : RV} {k : Nat} {l : List α} {x : α} (g : Got (pRep P k) r r1 l) (h : Got P r1 r2 x) (he : r1.e = 0) : Got (pRep P (k + 1)) r r2 (l ++ [x]) := by
  refine ⟨h.1.trans g.1, ?_⟩
  rcases g.2 with ⟨g1, g2⟩ | ⟨g1, g2, g3⟩ | ⟨g1, g2, g3⟩
  · exact absurd (g2.symm.trans he) g1
  · rcases h.2 with ⟨h1, _⟩ | ⟨_, h2, h3⟩ | ⟨_, h2, h3⟩
    · exact absurd he h1
    · exact .inr (.inl ⟨g1, h2, rep_snoc k _ _ _ _ g3 h3⟩)
    · exact .inr (.inr ⟨g1, h2, rep_stop k _ _ _ g3 h3⟩)
  · exact absurd he g2
theorem Got.short {α : Type} {P : Pr α} {r r1 : RV} {k n : Nat} {l : List α} (g : Got (pRep P k) r r1 l) (hk : k ≤ n) (he : r1.e ≠ 0) (y : List α) : Got (pRep P n) r r1 y := by
  refine ⟨g.1, ?_⟩
  rcases g.2 with h | ⟨_, g2, _⟩ | ⟨g1, g2, g3⟩
  · exact .inl h
  · exact absurd g2 he
  · exact .inr (.inr ⟨g1, g2, rep_bad k n _ hk g3⟩)
theorem Got.many {r r1 : RV} {n : Int} (g : Got pNum r r1 n) : (4096 < n → Got pMany r (r1.bad 5) n) ∧ (¬ 4096 < n → Got pMany r r1 n) := by
  constructor
  · intro h
    exact Got.and g (f := fun n => if 4096 < n then .no 5 else .val n) (by simp only [if_pos h]; exact Got.no (by decide) _ _)
  · intro h
    exact Got.and g (f := fun n => if 4096 < n then .no 5 else .val n) (by simp only [if_neg h]; exact Got.val _ _)
theorem Got.list {α : Type} {P : Pr α} {r rq rk : RV} {n : Int} {l : List α} (g : Got pMany r rq n) (h : Got (pRep P n.toNat) rq rk l) : Got (pList P) r rk l := by
  show Got (pMany.and fun n : Int => pRep P n.toNat) r rk l
  exact Got.and g h
theorem Got.zero {α : Type} {P : Pr α} (r : RV) : Got (pRep P 0) r r [] := Got.val _ _
theorem bad_e {r : RV} {k : Int} (hk : k ≠ 0) : (r.bad k).e ≠ 0 := by
  unfold RV.bad
  simp only
  split <;> assumption
theorem own_same {w w' : World} {base e sz n : Nat} {v : Value} {xs : List Value} (h : w.ownsRow base e sz v n xs) (hm : ∀ g, v.ownBlock = some g → w'.heap[g]? = w.heap[g]?) : w'.ownsRow base e sz v n xs := by
  obtain ⟨hl, h | ⟨g, cap, cur, hv, hbg, hg, hnc, hcm, hcs, ht⟩⟩ := h
  · exact ⟨hl, .inl h⟩
  · exact ⟨hl, .inr ⟨g, cap, cur, hv, hbg, (hm g (by rw [hv]; rfl)).trans hg, hnc, hcm, hcs, ht⟩⟩
theorem own_lt6 {w : World} {base e sz n : Nat} {v : Value} {xs : List Value} (h : w.ownsRow base e sz v n xs) : ∀ g, v.ownBlock = some g → base ≤ g ∧ g < w.heap.size := fun g hg => World.ownsRow.lt h g hg
theorem own_mov {B M : Nat} {w w' : World} {base e sz n : Nat} {v : Value} {xs : List Value} (h : w.ownsRow base e sz v n xs) (hm : Mov B M w w') (hB : B < base) (hM : M < base) : w'.ownsRow base e sz v n xs :=
  own_same h fun g hg => by have := own_lt6 h g hg; exact hm.block g this.2 (by omega) (by omega)
theorem own_any6 {w : World} {base e sz n : Nat} {v : Value} {xs : List Value} (h : w.ownsRow base e sz v n xs) : ∃ p c, v = .slice p n c := by
  obtain ⟨hl, ⟨rfl, rfl⟩ | ⟨g, cap, cur, hv, _⟩⟩ := h
  · exact ⟨_, _, rfl⟩
  · exact ⟨_, _, hv⟩
theorem Mov.grown {B M : Nat} {w w1 w2 : World} {row : Option Nat} (h : Mov B M w w1) (g : w1.grownBy w2 row) (hr : ∀ k, row = some k → w.heap.size ≤ k) : Mov B M w w2 :=
  ⟨g.os.trans h.os, g.tape.trans h.tape, g.output.trans h.output, Nat.le_trans h.size g.size, fun k hk h1 h2 => (g.block k (Nat.lt_of_lt_of_le hk h.size) (fun e => by have := hr k e.symm; omega)).trans (h.block k hk h1 h2)⟩
theorem RdAt.grown {w0 : World} {B M : Nat} {T : TypeId} {rest : List Value} {r : RV} {w w' : World} {row : Option Nat} (h : RdAt w0 B M T rest r w) (g : w.grownBy w' row) (hB : ∀ k, row = some k → B < k) (hM : ∀ k, row = some k → M < k) : RdAt w0 B M T rest r w' := by
  obtain ⟨D, hD⟩ := h.infos
  have hb := in_heap6 h.box
  have hm := ownsMap_in hD.own
  exact ⟨h.below.trans ⟨g.os, g.tape, g.output, g.size, fun k hk => g.block k (Nat.lt_of_lt_of_le hk h.below.size) (fun e => by have := hB k e.symm; have := h.hB; omega)⟩, (g.block B hb (fun e => by have := hB B e.symm; omega)).trans h.box,
    ⟨D, hD.same (g.block M hm (fun e => by have := hM M e.symm; omega))⟩, h.ne, h.hB, h.hM, h.size, h.pos⟩
theorem RdAt.lt {w0 : World} {B M : Nat} {T : TypeId} {rest : List Value} {r : RV} {w : World} (h : RdAt w0 B M T rest r w) : B < w.heap.size ∧ M < w.heap.size := by
  obtain ⟨D, hD⟩ := h.infos
  exact ⟨in_heap6 h.box, ownsMap_in hD.own⟩
theorem cells_new6 (w : World) (c : List Value) (t : TypeId) : ∀ j u, c[j]? = some u → (w.alloc (.cells c.toArray t)).cell? ((⟨w.heap.size, 0, none⟩ : Addr).add j) = some u := by
  intro j u hj
  have e : (⟨w.heap.size, 0, none⟩ : Addr).add j = ⟨w.heap.size, j, none⟩ := by
    unfold Addr.add; split
    · rename_i h0; rw [h0]
    · simp
  rw [e, World.cell?_alloc_new]; simpa using hj
def DidList {α : Type} (w0 : World) (B M : Nat) (T : TypeId) (rest : List Value) (r : RV) (w : World) (P : Pr α) (E sz : Nat) (row : α → List Value) (ok : α → Prop) (e : Ending) (w' : World) : Prop :=
  ∃ l r' v, e = .returned v ∧ Got (pList P) r r' l ∧ RdAt w0 B M T rest r' w' ∧ Mov B M w w' ∧ w'.ownsRow w.heap.size E sz v l.length (l.flatMap row) ∧ (∀ x ∈ l, ok x) ∧ l.length ≤ 4096
def rowInt (n : Int) : List Value := [.int .i64 n]
def rowU8 (n : Int) : List Value := [.int .u8 n]
def valTy (t : TyV) : Value := .agg #[.string t.params, .string t.results]
def valMem (t : MemV) : Value := .agg #[.int .i64 t.min, .int .i64 t.max]
def valGlob (t : GlobV) : Value := .agg #[.int .i64 t.type, .bool t.may, .int .i64 t.init]
def valExp (t : ExpV) : Value := .agg #[.string t.name, .int .i64 t.kind, .int .i64 t.index]
def valDat (t : DatV) : Value := .agg #[.int .i64 t.offset, .string t.bytes]
theorem info_int : (Tryz.prog.info? 3).map (fun i => (i.zero, i.size, i.bytes)) = some (some (.int .i64 0), 1, 8) := by kernel_rfl
theorem list_int {w0 : World} {g : Nat} {lb : Array Value} {P : Pr Int} {ok : Int → Prop} (eg : ∀ args w, (callFunc g args).run Tryz.prog w = .ok (.enter g args) w)
    (hE : ∀ (B M : Nat) (T : TypeId) (rest : List Value) (r : RV) (W : World), RdAt w0 B M T rest r W → Calls Tryz.prog g (#[.pointer (some ⟨B, 0, none⟩)] ++ lb) W (Did w0 B M T rest r W P valInt (fun _ _ x => ok x)))
    {B M : Nat} {T : TypeId} {rest : List Value} {r : RV} {w : World} (h : RdAt w0 B M T rest r w) :
    Calls Tryz.prog 128 #[.pointer (some ⟨B, 0, none⟩), .func (.func g) #[] lb] w (DidList w0 B M T rest r w P 3 1 rowInt ok) := by
  have hlt := h.lt
  have hBl := hlt.1
  have hMl := hlt.2
  have c1 := number_reads w0 B M T rest r w h
  obtain ⟨i0, hi, hz0, hz1, hz2⟩ := info_parts info_int
  clear h hlt
  go_enter Tryz.func128, Tryz.ntmps128
  go_wp2_with (first
    | (go_at_call 127; (with_reducible refine c1.mono ?_); rintro e w1 ⟨n, r1, rfl, g1, h1, m1, ok1⟩; have c2 := fail_of h1 5; have ok0 := ok1.1; have ok2 := ok1.2; dsimp only [valInt])
    | (go_at_call 115; (with_reducible refine c2.mono ?_); rintro e w2 ⟨rfl, h2, m2⟩))
  all_goals
    obtain ⟨rq, hq⟩ : ∃ rq, rq = (if 4096 < n then r1.bad 5 else r1) := ⟨_, rfl⟩
    first
      | (have hgt : 4096 < n := by assumption
         rw [if_pos hgt] at hq
         have hm := m1.trans m2
         have hgm := (Got.many g1).1 hgt
         have hfew : rq.e = 0 → n ≤ 4096 := fun e => absurd (hq ▸ e) (bad_e (by decide))
         rw [← hq] at h2 hgm
         have hs := h2
         clear hq h1 h2 m1 m2 g1 c2 c1
         generalize w2 = W1 at *)
      | (have hle : ¬ 4096 < n := by omega
         rw [if_neg hle] at hq
         have hm := m1
         have hgm := (Got.many g1).2 hle
         have hfew : rq.e = 0 → n ≤ 4096 := fun _ => by omega
         rw [← hq] at h1 hgm
         have hs := h1
         clear hq h1 m1 g1 c2 c1 hle
         generalize w1 = W1 at *)
    have HG := Lib.hid hgm
    have HF := Lib.hid hfew
    clear hgm hfew
    go_loopw [6, 14] (fun v i wr => ∃ (k : Nat) (l : List Int) (rk : RV), (k : Int) ≤ n ∧ k ≤ 4096 ∧ i = .int .i64 k ∧ wr.ownsRow w.heap.size 3 1 v k (l.flatMap rowInt) ∧ l.length = k ∧ RdAt w0 B M T rest rk wr ∧ Mov B M w wr ∧ Hid (Got (pRep P k) rq rk l) ∧ ∀ x ∈ l, ok x) (fun _ i _ => n.toNat - (intOf i).toNat)
    case atStart => exact ⟨0, [], rq, ok0, by omega, rfl, World.ownsRow_nil _ _ _ _, rfl, hs, hm, Lib.hid (Got.zero rq), fun x hx => by cases hx⟩
    case round =>
      clear hs hm
      obtain ⟨k, l, rk, hkn, hk4, rfl, hown, hlk, hr, hm, HK, hok⟩ := hrel
      obtain ⟨vp, vc, rfl⟩ := own_any6 hown
      obtain ⟨x0, x1, x2, x3, y0, y1, y2, y3⟩ := hr.reads
      by_cases hlt : (k : Int) < n
      · by_cases he : rk.e = 0
        · have hn4 : n ≤ 4096 := HF.out (by
            rcases HK.out.2 with ⟨a1, a2⟩ | ⟨a1, _⟩ | ⟨a1, _⟩
            · exact absurd (a2.symm.trans he) a1
            · exact a1
            · exact a1)
          first
          | (exfalso; omega)
          | (rw [he] at x2
             have cq := hE B M T rest rk wr hr
             have HE := Lib.hid he
             have HLK := Lib.hid hlk
             clear hr he hlk
             go_wp2_with fail
             refine cq.mono ?_
             rintro e w3 ⟨x, r3, rfl, g3, h3, m3, hx⟩
             have hown3 := (own_mov hown m3 hBl hMl).alloc (.cells (rowInt x).toArray 3)
             have h3a := h3.alloc (.cells (rowInt x).toArray 3)
             have hm3 := (hm.trans m3).alloc (.cells (rowInt x).toArray 3)
             have hs3 := Nat.le_trans hm.size m3.size
             clear cq hown
             dsimp only [valInt]
             go_wp2_with (at_builtin; refine wpList_append_own_at _ rfl (.tmp 21) (.tmp 25) 23 rfl w.heap.size 3 i0 (.int .i64 0) 1 8 Tryz.underlying23 hi hz0 hz1 hz2 rfl (by decide) (.slice vp k vc) k (l.flatMap rowInt) rfl hown3 ⟨w3.heap.size, 0, none⟩ 1 1 (rowInt x) rfl rfl (cells_new6 w3 (rowInt x) 3) (by intro u hu; simp [rowInt] at hu; rcases hu with rfl <;> rfl) (by unfold maxLen; omega) (by omega) (by simp; omega) ?_)
             intro v' w4 hown4 hg4 _ _
             have hge : ∀ q, (Value.slice vp k vc).ownBlock = some q → w.heap.size ≤ q := fun q hq => (own_lt6 hown3 q hq).1
             have h4 := h3a.grown hg4 (fun q hq => Nat.lt_of_lt_of_le hBl (hge q hq)) (fun q hq => Nat.lt_of_lt_of_le hMl (hge q hq))
             have hm4 := hm3.grown hg4 hge
             have e4 : l.flatMap rowInt ++ rowInt x = (l ++ [x]).flatMap rowInt := by simp
             rw [e4] at hown4
             have HK4 := Lib.hid (Got.more HK.out g3 HE.out)
             have hok4 : ∀ y ∈ l ++ [x], ok y := fun y hy => by
               rcases List.mem_append.1 hy with hy | hy
               · exact hok y hy
               · rw [List.mem_singleton.1 hy]; exact hx
             have hl4 : (l ++ [x]).length = k + 1 := by rw [List.length_append, HLK.out]; rfl
             clear hown3 h3a hm3 h3 m3 g3 HK hok HLK e4 hg4 x0 x1 x2 x3 y0 y1 y2 y3 hge
             go_wp2
             go_roundw
             case rel => exact ⟨k + 1, l ++ [x], r3, by omega, by omega, by go_num, hown4, hl4, h4, hm4, HK4, hok4⟩
             case measure => simp [intOf]; omega)
        · have hq : (rk.e != 0) = true := by simpa using he
          have HGL := Lib.hid (Got.list HG.out (HK.out.short (n := n.toNat) (by omega) he []))
          go_wp2
          go_ret
          exact ⟨[], rk, _, rfl, HGL.out, hr, hm, World.ownsRow_nil _ _ _ _, (fun x hx => by cases hx), by simp⟩
      · have hkk : n.toNat = k := by omega
        have HGL := Lib.hid (Got.list HG.out (hkk.symm ▸ HK.out))
        have hnk : n = (k : Int) := by omega
        clear hlt
        go_wp2
        go_ret
        exact ⟨l, rk, _, rfl, HGL.out, hr, hm, hlk.symm ▸ hown, hok, by omega⟩
theorem info_uint8 : (Tryz.prog.info? 5).map (fun i => (i.zero, i.size, i.bytes)) = some (some (.int .u8 0), 1, 1) := by kernel_rfl
theorem list_uint8 {w0 : World} {g : Nat} {lb : Array Value} {P : Pr Int} {ok : Int → Prop} (eg : ∀ args w, (callFunc g args).run Tryz.prog w = .ok (.enter g args) w)
    (hE : ∀ (B M : Nat) (T : TypeId) (rest : List Value) (r : RV) (W : World), RdAt w0 B M T rest r W → Calls Tryz.prog g (#[.pointer (some ⟨B, 0, none⟩)] ++ lb) W (Did w0 B M T rest r W P valU8 (fun _ _ x => ok x)))
    {B M : Nat} {T : TypeId} {rest : List Value} {r : RV} {w : World} (h : RdAt w0 B M T rest r w) :
    Calls Tryz.prog 255 #[.pointer (some ⟨B, 0, none⟩), .func (.func g) #[] lb] w (DidList w0 B M T rest r w P 5 1 rowU8 ok) := by
  have hlt := h.lt
  have hBl := hlt.1
  have hMl := hlt.2
  have c1 := number_reads w0 B M T rest r w h
  obtain ⟨i0, hi, hz0, hz1, hz2⟩ := info_parts info_uint8
  clear h hlt
  go_enter Tryz.func255, Tryz.ntmps255
  go_wp2_with (first
    | (go_at_call 127; (with_reducible refine c1.mono ?_); rintro e w1 ⟨n, r1, rfl, g1, h1, m1, ok1⟩; have c2 := fail_of h1 5; have ok0 := ok1.1; have ok2 := ok1.2; dsimp only [valInt])
    | (go_at_call 115; (with_reducible refine c2.mono ?_); rintro e w2 ⟨rfl, h2, m2⟩))
  all_goals
    obtain ⟨rq, hq⟩ : ∃ rq, rq = (if 4096 < n then r1.bad 5 else r1) := ⟨_, rfl⟩
    first
      | (have hgt : 4096 < n := by assumption
         rw [if_pos hgt] at hq
         have hm := m1.trans m2
         have hgm := (Got.many g1).1 hgt
         have hfew : rq.e = 0 → n ≤ 4096 := fun e => absurd (hq ▸ e) (bad_e (by decide))
         rw [← hq] at h2 hgm
         have hs := h2
         clear hq h1 h2 m1 m2 g1 c2 c1
         generalize w2 = W1 at *)
      | (have hle : ¬ 4096 < n := by omega
         rw [if_neg hle] at hq
         have hm := m1
         have hgm := (Got.many g1).2 hle
         have hfew : rq.e = 0 → n ≤ 4096 := fun _ => by omega
         rw [← hq] at h1 hgm
         have hs := h1
         clear hq h1 m1 g1 c2 c1 hle
         generalize w1 = W1 at *)
    have HG := Lib.hid hgm
    have HF := Lib.hid hfew
    clear hgm hfew
    go_loopw [6, 14] (fun v i wr => ∃ (k : Nat) (l : List Int) (rk : RV), (k : Int) ≤ n ∧ k ≤ 4096 ∧ i = .int .i64 k ∧ wr.ownsRow w.heap.size 5 1 v k (l.flatMap rowU8) ∧ l.length = k ∧ RdAt w0 B M T rest rk wr ∧ Mov B M w wr ∧ Hid (Got (pRep P k) rq rk l) ∧ ∀ x ∈ l, ok x) (fun _ i _ => n.toNat - (intOf i).toNat)
    case atStart => exact ⟨0, [], rq, ok0, by omega, rfl, World.ownsRow_nil _ _ _ _, rfl, hs, hm, Lib.hid (Got.zero rq), fun x hx => by cases hx⟩
    case round =>
      clear hs hm
      obtain ⟨k, l, rk, hkn, hk4, rfl, hown, hlk, hr, hm, HK, hok⟩ := hrel
      obtain ⟨vp, vc, rfl⟩ := own_any6 hown
      obtain ⟨x0, x1, x2, x3, y0, y1, y2, y3⟩ := hr.reads
      by_cases hlt : (k : Int) < n
      · by_cases he : rk.e = 0
        · have hn4 : n ≤ 4096 := HF.out (by
            rcases HK.out.2 with ⟨a1, a2⟩ | ⟨a1, _⟩ | ⟨a1, _⟩
            · exact absurd (a2.symm.trans he) a1
            · exact a1
            · exact a1)
          first
          | (exfalso; omega)
          | (rw [he] at x2
             have cq := hE B M T rest rk wr hr
             have HE := Lib.hid he
             have HLK := Lib.hid hlk
             clear hr he hlk
             go_wp2_with fail
             refine cq.mono ?_
             rintro e w3 ⟨x, r3, rfl, g3, h3, m3, hx⟩
             have hown3 := (own_mov hown m3 hBl hMl).alloc (.cells (rowU8 x).toArray 5)
             have h3a := h3.alloc (.cells (rowU8 x).toArray 5)
             have hm3 := (hm.trans m3).alloc (.cells (rowU8 x).toArray 5)
             have hs3 := Nat.le_trans hm.size m3.size
             clear cq hown
             dsimp only [valU8]
             go_wp2_with (at_builtin; refine wpList_append_own_at _ rfl (.tmp 21) (.tmp 25) 24 rfl w.heap.size 5 i0 (.int .u8 0) 1 1 Tryz.underlying24 hi hz0 hz1 hz2 rfl (by decide) (.slice vp k vc) k (l.flatMap rowU8) rfl hown3 ⟨w3.heap.size, 0, none⟩ 1 1 (rowU8 x) rfl rfl (cells_new6 w3 (rowU8 x) 5) (by intro u hu; simp [rowU8] at hu; rcases hu with rfl <;> rfl) (by unfold maxLen; omega) (by omega) (by simp; omega) ?_)
             intro v' w4 hown4 hg4 _ _
             have hge : ∀ q, (Value.slice vp k vc).ownBlock = some q → w.heap.size ≤ q := fun q hq => (own_lt6 hown3 q hq).1
             have h4 := h3a.grown hg4 (fun q hq => Nat.lt_of_lt_of_le hBl (hge q hq)) (fun q hq => Nat.lt_of_lt_of_le hMl (hge q hq))
             have hm4 := hm3.grown hg4 hge
             have e4 : l.flatMap rowU8 ++ rowU8 x = (l ++ [x]).flatMap rowU8 := by simp
             rw [e4] at hown4
             have HK4 := Lib.hid (Got.more HK.out g3 HE.out)
             have hok4 : ∀ y ∈ l ++ [x], ok y := fun y hy => by
               rcases List.mem_append.1 hy with hy | hy
               · exact hok y hy
               · rw [List.mem_singleton.1 hy]; exact hx
             have hl4 : (l ++ [x]).length = k + 1 := by rw [List.length_append, HLK.out]; rfl
             clear hown3 h3a hm3 h3 m3 g3 HK hok HLK e4 hg4 x0 x1 x2 x3 y0 y1 y2 y3 hge
             go_wp2
             go_roundw
             case rel => exact ⟨k + 1, l ++ [x], r3, by omega, by omega, by go_num, hown4, hl4, h4, hm4, HK4, hok4⟩
             case measure => simp [intOf]; omega)
        · have hq : (rk.e != 0) = true := by simpa using he
          have HGL := Lib.hid (Got.list HG.out (HK.out.short (n := n.toNat) (by omega) he []))
          go_wp2
          go_ret
          exact ⟨[], rk, _, rfl, HGL.out, hr, hm, World.ownsRow_nil _ _ _ _, (fun x hx => by cases hx), by simp⟩
      · have hkk : n.toNat = k := by omega
        have HGL := Lib.hid (Got.list HG.out (hkk.symm ▸ HK.out))
        have hnk : n = (k : Int) := by omega
        clear hlt
        go_wp2
        go_ret
        exact ⟨l, rk, _, rfl, HGL.out, hr, hm, hlk.symm ▸ hown, hok, by omega⟩
theorem info_FuncType : (Tryz.prog.info? 68).map (fun i => (i.zero, i.size, i.bytes)) = some (some (.agg #[.string ⟨#[]⟩, .string ⟨#[]⟩]), 2, 32) := by kernel_rfl
theorem list_FuncType {w0 : World} {g : Nat} {lb : Array Value} {P : Pr TyV} {ok : TyV → Prop} (eg : ∀ args w, (callFunc g args).run Tryz.prog w = .ok (.enter g args) w)
    (hE : ∀ (B M : Nat) (T : TypeId) (rest : List Value) (r : RV) (W : World), RdAt w0 B M T rest r W → Calls Tryz.prog g (#[.pointer (some ⟨B, 0, none⟩)] ++ lb) W (Did w0 B M T rest r W P valTy (fun _ _ x => ok x)))
    {B M : Nat} {T : TypeId} {rest : List Value} {r : RV} {w : World} (h : RdAt w0 B M T rest r w) :
    Calls Tryz.prog 171 #[.pointer (some ⟨B, 0, none⟩), .func (.func g) #[] lb] w (DidList w0 B M T rest r w P 68 2 TyV.row ok) := by
  have hlt := h.lt
  have hBl := hlt.1
  have hMl := hlt.2
  have c1 := number_reads w0 B M T rest r w h
  obtain ⟨i0, hi, hz0, hz1, hz2⟩ := info_parts info_FuncType
  clear h hlt
  go_enter Tryz.func171, Tryz.ntmps171
  go_wp2_with (first
    | (go_at_call 127; (with_reducible refine c1.mono ?_); rintro e w1 ⟨n, r1, rfl, g1, h1, m1, ok1⟩; have c2 := fail_of h1 5; have ok0 := ok1.1; have ok2 := ok1.2; dsimp only [valInt])
    | (go_at_call 115; (with_reducible refine c2.mono ?_); rintro e w2 ⟨rfl, h2, m2⟩))
  all_goals
    obtain ⟨rq, hq⟩ : ∃ rq, rq = (if 4096 < n then r1.bad 5 else r1) := ⟨_, rfl⟩
    first
      | (have hgt : 4096 < n := by assumption
         rw [if_pos hgt] at hq
         have hm := m1.trans m2
         have hgm := (Got.many g1).1 hgt
         have hfew : rq.e = 0 → n ≤ 4096 := fun e => absurd (hq ▸ e) (bad_e (by decide))
         rw [← hq] at h2 hgm
         have hs := h2
         clear hq h1 h2 m1 m2 g1 c2 c1
         generalize w2 = W1 at *)
      | (have hle : ¬ 4096 < n := by omega
         rw [if_neg hle] at hq
         have hm := m1
         have hgm := (Got.many g1).2 hle
         have hfew : rq.e = 0 → n ≤ 4096 := fun _ => by omega
         rw [← hq] at h1 hgm
         have hs := h1
         clear hq h1 m1 g1 c2 c1 hle
         generalize w1 = W1 at *)
    have HG := Lib.hid hgm
    have HF := Lib.hid hfew
    clear hgm hfew
    go_loopw [6, 14] (fun v i wr => ∃ (k : Nat) (l : List TyV) (rk : RV), (k : Int) ≤ n ∧ k ≤ 4096 ∧ i = .int .i64 k ∧ wr.ownsRow w.heap.size 68 2 v k (l.flatMap TyV.row) ∧ l.length = k ∧ RdAt w0 B M T rest rk wr ∧ Mov B M w wr ∧ Hid (Got (pRep P k) rq rk l) ∧ ∀ x ∈ l, ok x) (fun _ i _ => n.toNat - (intOf i).toNat)
    case atStart => exact ⟨0, [], rq, ok0, by omega, rfl, World.ownsRow_nil _ _ _ _, rfl, hs, hm, Lib.hid (Got.zero rq), fun x hx => by cases hx⟩
    case round =>
      clear hs hm
      obtain ⟨k, l, rk, hkn, hk4, rfl, hown, hlk, hr, hm, HK, hok⟩ := hrel
      obtain ⟨vp, vc, rfl⟩ := own_any6 hown
      obtain ⟨x0, x1, x2, x3, y0, y1, y2, y3⟩ := hr.reads
      by_cases hlt : (k : Int) < n
      · by_cases he : rk.e = 0
        · have hn4 : n ≤ 4096 := HF.out (by
            rcases HK.out.2 with ⟨a1, a2⟩ | ⟨a1, _⟩ | ⟨a1, _⟩
            · exact absurd (a2.symm.trans he) a1
            · exact a1
            · exact a1)
          first
          | (exfalso; omega)
          | (rw [he] at x2
             have cq := hE B M T rest rk wr hr
             have HE := Lib.hid he
             have HLK := Lib.hid hlk
             clear hr he hlk
             go_wp2_with fail
             refine cq.mono ?_
             rintro e w3 ⟨x, r3, rfl, g3, h3, m3, hx⟩
             have hown3 := (own_mov hown m3 hBl hMl).alloc (.cells (TyV.row x).toArray 68)
             have h3a := h3.alloc (.cells (TyV.row x).toArray 68)
             have hm3 := (hm.trans m3).alloc (.cells (TyV.row x).toArray 68)
             have hs3 := Nat.le_trans hm.size m3.size
             clear cq hown
             dsimp only [valTy]
             go_wp2_with (at_builtin; refine wpList_append_own_at _ rfl (.tmp 21) (.tmp 25) 28 rfl w.heap.size 68 i0 (.agg #[.string ⟨#[]⟩, .string ⟨#[]⟩]) 2 32 Tryz.underlying28 hi hz0 hz1 hz2 rfl (by decide) (.slice vp k vc) k (l.flatMap TyV.row) rfl hown3 ⟨w3.heap.size, 0, none⟩ 1 1 (TyV.row x) rfl rfl (cells_new6 w3 (TyV.row x) 68) (by intro u hu; simp [TyV.row] at hu; rcases hu with rfl | rfl <;> rfl) (by unfold maxLen; omega) (by omega) (by simp; omega) ?_)
             intro v' w4 hown4 hg4 _ _
             have hge : ∀ q, (Value.slice vp k vc).ownBlock = some q → w.heap.size ≤ q := fun q hq => (own_lt6 hown3 q hq).1
             have h4 := h3a.grown hg4 (fun q hq => Nat.lt_of_lt_of_le hBl (hge q hq)) (fun q hq => Nat.lt_of_lt_of_le hMl (hge q hq))
             have hm4 := hm3.grown hg4 hge
             have e4 : l.flatMap TyV.row ++ TyV.row x = (l ++ [x]).flatMap TyV.row := by simp
             rw [e4] at hown4
             have HK4 := Lib.hid (Got.more HK.out g3 HE.out)
             have hok4 : ∀ y ∈ l ++ [x], ok y := fun y hy => by
               rcases List.mem_append.1 hy with hy | hy
               · exact hok y hy
               · rw [List.mem_singleton.1 hy]; exact hx
             have hl4 : (l ++ [x]).length = k + 1 := by rw [List.length_append, HLK.out]; rfl
             clear hown3 h3a hm3 h3 m3 g3 HK hok HLK e4 hg4 x0 x1 x2 x3 y0 y1 y2 y3 hge
             go_wp2
             go_roundw
             case rel => exact ⟨k + 1, l ++ [x], r3, by omega, by omega, by go_num, hown4, hl4, h4, hm4, HK4, hok4⟩
             case measure => simp [intOf]; omega)
        · have hq : (rk.e != 0) = true := by simpa using he
          have HGL := Lib.hid (Got.list HG.out (HK.out.short (n := n.toNat) (by omega) he []))
          go_wp2
          go_ret
          exact ⟨[], rk, _, rfl, HGL.out, hr, hm, World.ownsRow_nil _ _ _ _, (fun x hx => by cases hx), by simp⟩
      · have hkk : n.toNat = k := by omega
        have HGL := Lib.hid (Got.list HG.out (hkk.symm ▸ HK.out))
        have hnk : n = (k : Int) := by omega
        clear hlt
        go_wp2
        go_ret
        exact ⟨l, rk, _, rfl, HGL.out, hr, hm, hlk.symm ▸ hown, hok, by omega⟩
theorem info_Memory : (Tryz.prog.info? 74).map (fun i => (i.zero, i.size, i.bytes)) = some (some (.agg #[.int .i64 0, .int .i64 0]), 2, 16) := by kernel_rfl
theorem list_Memory {w0 : World} {g : Nat} {lb : Array Value} {P : Pr MemV} {ok : MemV → Prop} (eg : ∀ args w, (callFunc g args).run Tryz.prog w = .ok (.enter g args) w)
    (hE : ∀ (B M : Nat) (T : TypeId) (rest : List Value) (r : RV) (W : World), RdAt w0 B M T rest r W → Calls Tryz.prog g (#[.pointer (some ⟨B, 0, none⟩)] ++ lb) W (Did w0 B M T rest r W P valMem (fun _ _ x => ok x)))
    {B M : Nat} {T : TypeId} {rest : List Value} {r : RV} {w : World} (h : RdAt w0 B M T rest r w) :
    Calls Tryz.prog 175 #[.pointer (some ⟨B, 0, none⟩), .func (.func g) #[] lb] w (DidList w0 B M T rest r w P 74 2 MemV.row ok) := by
  have hlt := h.lt
  have hBl := hlt.1
  have hMl := hlt.2
  have c1 := number_reads w0 B M T rest r w h
  obtain ⟨i0, hi, hz0, hz1, hz2⟩ := info_parts info_Memory
  clear h hlt
  go_enter Tryz.func175, Tryz.ntmps175
  go_wp2_with (first
    | (go_at_call 127; (with_reducible refine c1.mono ?_); rintro e w1 ⟨n, r1, rfl, g1, h1, m1, ok1⟩; have c2 := fail_of h1 5; have ok0 := ok1.1; have ok2 := ok1.2; dsimp only [valInt])
    | (go_at_call 115; (with_reducible refine c2.mono ?_); rintro e w2 ⟨rfl, h2, m2⟩))
  all_goals
    obtain ⟨rq, hq⟩ : ∃ rq, rq = (if 4096 < n then r1.bad 5 else r1) := ⟨_, rfl⟩
    first
      | (have hgt : 4096 < n := by assumption
         rw [if_pos hgt] at hq
         have hm := m1.trans m2
         have hgm := (Got.many g1).1 hgt
         have hfew : rq.e = 0 → n ≤ 4096 := fun e => absurd (hq ▸ e) (bad_e (by decide))
         rw [← hq] at h2 hgm
         have hs := h2
         clear hq h1 h2 m1 m2 g1 c2 c1
         generalize w2 = W1 at *)
      | (have hle : ¬ 4096 < n := by omega
         rw [if_neg hle] at hq
         have hm := m1
         have hgm := (Got.many g1).2 hle
         have hfew : rq.e = 0 → n ≤ 4096 := fun _ => by omega
         rw [← hq] at h1 hgm
         have hs := h1
         clear hq h1 m1 g1 c2 c1 hle
         generalize w1 = W1 at *)
    have HG := Lib.hid hgm
    have HF := Lib.hid hfew
    clear hgm hfew
    go_loopw [6, 14] (fun v i wr => ∃ (k : Nat) (l : List MemV) (rk : RV), (k : Int) ≤ n ∧ k ≤ 4096 ∧ i = .int .i64 k ∧ wr.ownsRow w.heap.size 74 2 v k (l.flatMap MemV.row) ∧ l.length = k ∧ RdAt w0 B M T rest rk wr ∧ Mov B M w wr ∧ Hid (Got (pRep P k) rq rk l) ∧ ∀ x ∈ l, ok x) (fun _ i _ => n.toNat - (intOf i).toNat)
    case atStart => exact ⟨0, [], rq, ok0, by omega, rfl, World.ownsRow_nil _ _ _ _, rfl, hs, hm, Lib.hid (Got.zero rq), fun x hx => by cases hx⟩
    case round =>
      clear hs hm
      obtain ⟨k, l, rk, hkn, hk4, rfl, hown, hlk, hr, hm, HK, hok⟩ := hrel
      obtain ⟨vp, vc, rfl⟩ := own_any6 hown
      obtain ⟨x0, x1, x2, x3, y0, y1, y2, y3⟩ := hr.reads
      by_cases hlt : (k : Int) < n
      · by_cases he : rk.e = 0
        · have hn4 : n ≤ 4096 := HF.out (by
            rcases HK.out.2 with ⟨a1, a2⟩ | ⟨a1, _⟩ | ⟨a1, _⟩
            · exact absurd (a2.symm.trans he) a1
            · exact a1
            · exact a1)
          first
          | (exfalso; omega)
          | (rw [he] at x2
             have cq := hE B M T rest rk wr hr
             have HE := Lib.hid he
             have HLK := Lib.hid hlk
             clear hr he hlk
             go_wp2_with fail
             refine cq.mono ?_
             rintro e w3 ⟨x, r3, rfl, g3, h3, m3, hx⟩
             have hown3 := (own_mov hown m3 hBl hMl).alloc (.cells (MemV.row x).toArray 74)
             have h3a := h3.alloc (.cells (MemV.row x).toArray 74)
             have hm3 := (hm.trans m3).alloc (.cells (MemV.row x).toArray 74)
             have hs3 := Nat.le_trans hm.size m3.size
             clear cq hown
             dsimp only [valMem]
             go_wp2_with (at_builtin; refine wpList_append_own_at _ rfl (.tmp 21) (.tmp 25) 30 rfl w.heap.size 74 i0 (.agg #[.int .i64 0, .int .i64 0]) 2 16 Tryz.underlying30 hi hz0 hz1 hz2 rfl (by decide) (.slice vp k vc) k (l.flatMap MemV.row) rfl hown3 ⟨w3.heap.size, 0, none⟩ 1 1 (MemV.row x) rfl rfl (cells_new6 w3 (MemV.row x) 74) (by intro u hu; simp [MemV.row] at hu; rcases hu with rfl | rfl <;> rfl) (by unfold maxLen; omega) (by omega) (by simp; omega) ?_)
             intro v' w4 hown4 hg4 _ _
             have hge : ∀ q, (Value.slice vp k vc).ownBlock = some q → w.heap.size ≤ q := fun q hq => (own_lt6 hown3 q hq).1
             have h4 := h3a.grown hg4 (fun q hq => Nat.lt_of_lt_of_le hBl (hge q hq)) (fun q hq => Nat.lt_of_lt_of_le hMl (hge q hq))
             have hm4 := hm3.grown hg4 hge
             have e4 : l.flatMap MemV.row ++ MemV.row x = (l ++ [x]).flatMap MemV.row := by simp
             rw [e4] at hown4
             have HK4 := Lib.hid (Got.more HK.out g3 HE.out)
             have hok4 : ∀ y ∈ l ++ [x], ok y := fun y hy => by
               rcases List.mem_append.1 hy with hy | hy
               · exact hok y hy
               · rw [List.mem_singleton.1 hy]; exact hx
             have hl4 : (l ++ [x]).length = k + 1 := by rw [List.length_append, HLK.out]; rfl
             clear hown3 h3a hm3 h3 m3 g3 HK hok HLK e4 hg4 x0 x1 x2 x3 y0 y1 y2 y3 hge
             go_wp2
             go_roundw
             case rel => exact ⟨k + 1, l ++ [x], r3, by omega, by omega, by go_num, hown4, hl4, h4, hm4, HK4, hok4⟩
             case measure => simp [intOf]; omega)
        · have hq : (rk.e != 0) = true := by simpa using he
          have HGL := Lib.hid (Got.list HG.out (HK.out.short (n := n.toNat) (by omega) he []))
          go_wp2
          go_ret
          exact ⟨[], rk, _, rfl, HGL.out, hr, hm, World.ownsRow_nil _ _ _ _, (fun x hx => by cases hx), by simp⟩
      · have hkk : n.toNat = k := by omega
        have HGL := Lib.hid (Got.list HG.out (hkk.symm ▸ HK.out))
        have hnk : n = (k : Int) := by omega
        clear hlt
        go_wp2
        go_ret
        exact ⟨l, rk, _, rfl, HGL.out, hr, hm, hlk.symm ▸ hown, hok, by omega⟩
theorem info_Global : (Tryz.prog.info? 76).map (fun i => (i.zero, i.size, i.bytes)) = some (some (.agg #[.int .i64 0, .bool false, .int .i64 0]), 3, 24) := by kernel_rfl
theorem list_Global {w0 : World} {g : Nat} {lb : Array Value} {P : Pr GlobV} {ok : GlobV → Prop} (eg : ∀ args w, (callFunc g args).run Tryz.prog w = .ok (.enter g args) w)
    (hE : ∀ (B M : Nat) (T : TypeId) (rest : List Value) (r : RV) (W : World), RdAt w0 B M T rest r W → Calls Tryz.prog g (#[.pointer (some ⟨B, 0, none⟩)] ++ lb) W (Did w0 B M T rest r W P valGlob (fun _ _ x => ok x)))
    {B M : Nat} {T : TypeId} {rest : List Value} {r : RV} {w : World} (h : RdAt w0 B M T rest r w) :
    Calls Tryz.prog 177 #[.pointer (some ⟨B, 0, none⟩), .func (.func g) #[] lb] w (DidList w0 B M T rest r w P 76 3 GlobV.row ok) := by
  have hlt := h.lt
  have hBl := hlt.1
  have hMl := hlt.2
  have c1 := number_reads w0 B M T rest r w h
  obtain ⟨i0, hi, hz0, hz1, hz2⟩ := info_parts info_Global
  clear h hlt
  go_enter Tryz.func177, Tryz.ntmps177
  go_wp2_with (first
    | (go_at_call 127; (with_reducible refine c1.mono ?_); rintro e w1 ⟨n, r1, rfl, g1, h1, m1, ok1⟩; have c2 := fail_of h1 5; have ok0 := ok1.1; have ok2 := ok1.2; dsimp only [valInt])
    | (go_at_call 115; (with_reducible refine c2.mono ?_); rintro e w2 ⟨rfl, h2, m2⟩))
  all_goals
    obtain ⟨rq, hq⟩ : ∃ rq, rq = (if 4096 < n then r1.bad 5 else r1) := ⟨_, rfl⟩
    first
      | (have hgt : 4096 < n := by assumption
         rw [if_pos hgt] at hq
         have hm := m1.trans m2
         have hgm := (Got.many g1).1 hgt
         have hfew : rq.e = 0 → n ≤ 4096 := fun e => absurd (hq ▸ e) (bad_e (by decide))
         rw [← hq] at h2 hgm
         have hs := h2
         clear hq h1 h2 m1 m2 g1 c2 c1
         generalize w2 = W1 at *)
      | (have hle : ¬ 4096 < n := by omega
         rw [if_neg hle] at hq
         have hm := m1
         have hgm := (Got.many g1).2 hle
         have hfew : rq.e = 0 → n ≤ 4096 := fun _ => by omega
         rw [← hq] at h1 hgm
         have hs := h1
         clear hq h1 m1 g1 c2 c1 hle
         generalize w1 = W1 at *)
    have HG := Lib.hid hgm
    have HF := Lib.hid hfew
    clear hgm hfew
    go_loopw [6, 14] (fun v i wr => ∃ (k : Nat) (l : List GlobV) (rk : RV), (k : Int) ≤ n ∧ k ≤ 4096 ∧ i = .int .i64 k ∧ wr.ownsRow w.heap.size 76 3 v k (l.flatMap GlobV.row) ∧ l.length = k ∧ RdAt w0 B M T rest rk wr ∧ Mov B M w wr ∧ Hid (Got (pRep P k) rq rk l) ∧ ∀ x ∈ l, ok x) (fun _ i _ => n.toNat - (intOf i).toNat)
    case atStart => exact ⟨0, [], rq, ok0, by omega, rfl, World.ownsRow_nil _ _ _ _, rfl, hs, hm, Lib.hid (Got.zero rq), fun x hx => by cases hx⟩
    case round =>
      clear hs hm
      obtain ⟨k, l, rk, hkn, hk4, rfl, hown, hlk, hr, hm, HK, hok⟩ := hrel
      obtain ⟨vp, vc, rfl⟩ := own_any6 hown
      obtain ⟨x0, x1, x2, x3, y0, y1, y2, y3⟩ := hr.reads
      by_cases hlt : (k : Int) < n
      · by_cases he : rk.e = 0
        · have hn4 : n ≤ 4096 := HF.out (by
            rcases HK.out.2 with ⟨a1, a2⟩ | ⟨a1, _⟩ | ⟨a1, _⟩
            · exact absurd (a2.symm.trans he) a1
            · exact a1
            · exact a1)
          first
          | (exfalso; omega)
          | (rw [he] at x2
             have cq := hE B M T rest rk wr hr
             have HE := Lib.hid he
             have HLK := Lib.hid hlk
             clear hr he hlk
             go_wp2_with fail
             refine cq.mono ?_
             rintro e w3 ⟨x, r3, rfl, g3, h3, m3, hx⟩
             have hown3 := (own_mov hown m3 hBl hMl).alloc (.cells (GlobV.row x).toArray 76)
             have h3a := h3.alloc (.cells (GlobV.row x).toArray 76)
             have hm3 := (hm.trans m3).alloc (.cells (GlobV.row x).toArray 76)
             have hs3 := Nat.le_trans hm.size m3.size
             clear cq hown
             dsimp only [valGlob]
             go_wp2_with (at_builtin; refine wpList_append_own_at _ rfl (.tmp 21) (.tmp 25) 31 rfl w.heap.size 76 i0 (.agg #[.int .i64 0, .bool false, .int .i64 0]) 3 24 Tryz.underlying31 hi hz0 hz1 hz2 rfl (by decide) (.slice vp k vc) k (l.flatMap GlobV.row) rfl hown3 ⟨w3.heap.size, 0, none⟩ 1 1 (GlobV.row x) rfl rfl (cells_new6 w3 (GlobV.row x) 76) (by intro u hu; simp [GlobV.row] at hu; rcases hu with rfl | rfl | rfl <;> rfl) (by unfold maxLen; omega) (by omega) (by simp; omega) ?_)
             intro v' w4 hown4 hg4 _ _
             have hge : ∀ q, (Value.slice vp k vc).ownBlock = some q → w.heap.size ≤ q := fun q hq => (own_lt6 hown3 q hq).1
             have h4 := h3a.grown hg4 (fun q hq => Nat.lt_of_lt_of_le hBl (hge q hq)) (fun q hq => Nat.lt_of_lt_of_le hMl (hge q hq))
             have hm4 := hm3.grown hg4 hge
             have e4 : l.flatMap GlobV.row ++ GlobV.row x = (l ++ [x]).flatMap GlobV.row := by simp
             rw [e4] at hown4
             have HK4 := Lib.hid (Got.more HK.out g3 HE.out)
             have hok4 : ∀ y ∈ l ++ [x], ok y := fun y hy => by
               rcases List.mem_append.1 hy with hy | hy
               · exact hok y hy
               · rw [List.mem_singleton.1 hy]; exact hx
             have hl4 : (l ++ [x]).length = k + 1 := by rw [List.length_append, HLK.out]; rfl
             clear hown3 h3a hm3 h3 m3 g3 HK hok HLK e4 hg4 x0 x1 x2 x3 y0 y1 y2 y3 hge
             go_wp2
             go_roundw
             case rel => exact ⟨k + 1, l ++ [x], r3, by omega, by omega, by go_num, hown4, hl4, h4, hm4, HK4, hok4⟩
             case measure => simp [intOf]; omega)
        · have hq : (rk.e != 0) = true := by simpa using he
          have HGL := Lib.hid (Got.list HG.out (HK.out.short (n := n.toNat) (by omega) he []))
          go_wp2
          go_ret
          exact ⟨[], rk, _, rfl, HGL.out, hr, hm, World.ownsRow_nil _ _ _ _, (fun x hx => by cases hx), by simp⟩
      · have hkk : n.toNat = k := by omega
        have HGL := Lib.hid (Got.list HG.out (hkk.symm ▸ HK.out))
        have hnk : n = (k : Int) := by omega
        clear hlt
        go_wp2
        go_ret
        exact ⟨l, rk, _, rfl, HGL.out, hr, hm, hlk.symm ▸ hown, hok, by omega⟩
theorem info_Export : (Tryz.prog.info? 79).map (fun i => (i.zero, i.size, i.bytes)) = some (some (.agg #[.string ⟨#[]⟩, .int .i64 0, .int .i64 0]), 3, 32) := by kernel_rfl
theorem list_Export {w0 : World} {g : Nat} {lb : Array Value} {P : Pr ExpV} {ok : ExpV → Prop} (eg : ∀ args w, (callFunc g args).run Tryz.prog w = .ok (.enter g args) w)
    (hE : ∀ (B M : Nat) (T : TypeId) (rest : List Value) (r : RV) (W : World), RdAt w0 B M T rest r W → Calls Tryz.prog g (#[.pointer (some ⟨B, 0, none⟩)] ++ lb) W (Did w0 B M T rest r W P valExp (fun _ _ x => ok x)))
    {B M : Nat} {T : TypeId} {rest : List Value} {r : RV} {w : World} (h : RdAt w0 B M T rest r w) :
    Calls Tryz.prog 179 #[.pointer (some ⟨B, 0, none⟩), .func (.func g) #[] lb] w (DidList w0 B M T rest r w P 79 3 ExpV.row ok) := by
  have hlt := h.lt
  have hBl := hlt.1
  have hMl := hlt.2
  have c1 := number_reads w0 B M T rest r w h
  obtain ⟨i0, hi, hz0, hz1, hz2⟩ := info_parts info_Export
  clear h hlt
  go_enter Tryz.func179, Tryz.ntmps179
  go_wp2_with (first
    | (go_at_call 127; (with_reducible refine c1.mono ?_); rintro e w1 ⟨n, r1, rfl, g1, h1, m1, ok1⟩; have c2 := fail_of h1 5; have ok0 := ok1.1; have ok2 := ok1.2; dsimp only [valInt])
    | (go_at_call 115; (with_reducible refine c2.mono ?_); rintro e w2 ⟨rfl, h2, m2⟩))
  all_goals
    obtain ⟨rq, hq⟩ : ∃ rq, rq = (if 4096 < n then r1.bad 5 else r1) := ⟨_, rfl⟩
    first
      | (have hgt : 4096 < n := by assumption
         rw [if_pos hgt] at hq
         have hm := m1.trans m2
         have hgm := (Got.many g1).1 hgt
         have hfew : rq.e = 0 → n ≤ 4096 := fun e => absurd (hq ▸ e) (bad_e (by decide))
         rw [← hq] at h2 hgm
         have hs := h2
         clear hq h1 h2 m1 m2 g1 c2 c1
         generalize w2 = W1 at *)
      | (have hle : ¬ 4096 < n := by omega
         rw [if_neg hle] at hq
         have hm := m1
         have hgm := (Got.many g1).2 hle
         have hfew : rq.e = 0 → n ≤ 4096 := fun _ => by omega
         rw [← hq] at h1 hgm
         have hs := h1
         clear hq h1 m1 g1 c2 c1 hle
         generalize w1 = W1 at *)
    have HG := Lib.hid hgm
    have HF := Lib.hid hfew
    clear hgm hfew
    go_loopw [6, 14] (fun v i wr => ∃ (k : Nat) (l : List ExpV) (rk : RV), (k : Int) ≤ n ∧ k ≤ 4096 ∧ i = .int .i64 k ∧ wr.ownsRow w.heap.size 79 3 v k (l.flatMap ExpV.row) ∧ l.length = k ∧ RdAt w0 B M T rest rk wr ∧ Mov B M w wr ∧ Hid (Got (pRep P k) rq rk l) ∧ ∀ x ∈ l, ok x) (fun _ i _ => n.toNat - (intOf i).toNat)
    case atStart => exact ⟨0, [], rq, ok0, by omega, rfl, World.ownsRow_nil _ _ _ _, rfl, hs, hm, Lib.hid (Got.zero rq), fun x hx => by cases hx⟩
    case round =>
      clear hs hm
      obtain ⟨k, l, rk, hkn, hk4, rfl, hown, hlk, hr, hm, HK, hok⟩ := hrel
      obtain ⟨vp, vc, rfl⟩ := own_any6 hown
      obtain ⟨x0, x1, x2, x3, y0, y1, y2, y3⟩ := hr.reads
      by_cases hlt : (k : Int) < n
      · by_cases he : rk.e = 0
        · have hn4 : n ≤ 4096 := HF.out (by
            rcases HK.out.2 with ⟨a1, a2⟩ | ⟨a1, _⟩ | ⟨a1, _⟩
            · exact absurd (a2.symm.trans he) a1
            · exact a1
            · exact a1)
          first
          | (exfalso; omega)
          | (rw [he] at x2
             have cq := hE B M T rest rk wr hr
             have HE := Lib.hid he
             have HLK := Lib.hid hlk
             clear hr he hlk
             go_wp2_with fail
             refine cq.mono ?_
             rintro e w3 ⟨x, r3, rfl, g3, h3, m3, hx⟩
             have hown3 := (own_mov hown m3 hBl hMl).alloc (.cells (ExpV.row x).toArray 79)
             have h3a := h3.alloc (.cells (ExpV.row x).toArray 79)
             have hm3 := (hm.trans m3).alloc (.cells (ExpV.row x).toArray 79)
             have hs3 := Nat.le_trans hm.size m3.size
             clear cq hown
             dsimp only [valExp]
             go_wp2_with (at_builtin; refine wpList_append_own_at _ rfl (.tmp 21) (.tmp 25) 32 rfl w.heap.size 79 i0 (.agg #[.string ⟨#[]⟩, .int .i64 0, .int .i64 0]) 3 32 Tryz.underlying32 hi hz0 hz1 hz2 rfl (by decide) (.slice vp k vc) k (l.flatMap ExpV.row) rfl hown3 ⟨w3.heap.size, 0, none⟩ 1 1 (ExpV.row x) rfl rfl (cells_new6 w3 (ExpV.row x) 79) (by intro u hu; simp [ExpV.row] at hu; rcases hu with rfl | rfl | rfl <;> rfl) (by unfold maxLen; omega) (by omega) (by simp; omega) ?_)
             intro v' w4 hown4 hg4 _ _
             have hge : ∀ q, (Value.slice vp k vc).ownBlock = some q → w.heap.size ≤ q := fun q hq => (own_lt6 hown3 q hq).1
             have h4 := h3a.grown hg4 (fun q hq => Nat.lt_of_lt_of_le hBl (hge q hq)) (fun q hq => Nat.lt_of_lt_of_le hMl (hge q hq))
             have hm4 := hm3.grown hg4 hge
             have e4 : l.flatMap ExpV.row ++ ExpV.row x = (l ++ [x]).flatMap ExpV.row := by simp
             rw [e4] at hown4
             have HK4 := Lib.hid (Got.more HK.out g3 HE.out)
             have hok4 : ∀ y ∈ l ++ [x], ok y := fun y hy => by
               rcases List.mem_append.1 hy with hy | hy
               · exact hok y hy
               · rw [List.mem_singleton.1 hy]; exact hx
             have hl4 : (l ++ [x]).length = k + 1 := by rw [List.length_append, HLK.out]; rfl
             clear hown3 h3a hm3 h3 m3 g3 HK hok HLK e4 hg4 x0 x1 x2 x3 y0 y1 y2 y3 hge
             go_wp2
             go_roundw
             case rel => exact ⟨k + 1, l ++ [x], r3, by omega, by omega, by go_num, hown4, hl4, h4, hm4, HK4, hok4⟩
             case measure => simp [intOf]; omega)
        · have hq : (rk.e != 0) = true := by simpa using he
          have HGL := Lib.hid (Got.list HG.out (HK.out.short (n := n.toNat) (by omega) he []))
          go_wp2
          go_ret
          exact ⟨[], rk, _, rfl, HGL.out, hr, hm, World.ownsRow_nil _ _ _ _, (fun x hx => by cases hx), by simp⟩
      · have hkk : n.toNat = k := by omega
        have HGL := Lib.hid (Got.list HG.out (hkk.symm ▸ HK.out))
        have hnk : n = (k : Int) := by omega
        clear hlt
        go_wp2
        go_ret
        exact ⟨l, rk, _, rfl, HGL.out, hr, hm, hlk.symm ▸ hown, hok, by omega⟩
theorem info_Data : (Tryz.prog.info? 81).map (fun i => (i.zero, i.size, i.bytes)) = some (some (.agg #[.int .i64 0, .string ⟨#[]⟩]), 2, 24) := by kernel_rfl
theorem list_Data {w0 : World} {g : Nat} {lb : Array Value} {P : Pr DatV} {ok : DatV → Prop} (eg : ∀ args w, (callFunc g args).run Tryz.prog w = .ok (.enter g args) w)
    (hE : ∀ (B M : Nat) (T : TypeId) (rest : List Value) (r : RV) (W : World), RdAt w0 B M T rest r W → Calls Tryz.prog g (#[.pointer (some ⟨B, 0, none⟩)] ++ lb) W (Did w0 B M T rest r W P valDat (fun _ _ x => ok x)))
    {B M : Nat} {T : TypeId} {rest : List Value} {r : RV} {w : World} (h : RdAt w0 B M T rest r w) :
    Calls Tryz.prog 182 #[.pointer (some ⟨B, 0, none⟩), .func (.func g) #[] lb] w (DidList w0 B M T rest r w P 81 2 DatV.row ok) := by
  have hlt := h.lt
  have hBl := hlt.1
  have hMl := hlt.2
  have c1 := number_reads w0 B M T rest r w h
  obtain ⟨i0, hi, hz0, hz1, hz2⟩ := info_parts info_Data
  clear h hlt
  go_enter Tryz.func182, Tryz.ntmps182
  go_wp2_with (first
    | (go_at_call 127; (with_reducible refine c1.mono ?_); rintro e w1 ⟨n, r1, rfl, g1, h1, m1, ok1⟩; have c2 := fail_of h1 5; have ok0 := ok1.1; have ok2 := ok1.2; dsimp only [valInt])
    | (go_at_call 115; (with_reducible refine c2.mono ?_); rintro e w2 ⟨rfl, h2, m2⟩))
  all_goals
    obtain ⟨rq, hq⟩ : ∃ rq, rq = (if 4096 < n then r1.bad 5 else r1) := ⟨_, rfl⟩
    first
      | (have hgt : 4096 < n := by assumption
         rw [if_pos hgt] at hq
         have hm := m1.trans m2
         have hgm := (Got.many g1).1 hgt
         have hfew : rq.e = 0 → n ≤ 4096 := fun e => absurd (hq ▸ e) (bad_e (by decide))
         rw [← hq] at h2 hgm
         have hs := h2
         clear hq h1 h2 m1 m2 g1 c2 c1
         generalize w2 = W1 at *)
      | (have hle : ¬ 4096 < n := by omega
         rw [if_neg hle] at hq
         have hm := m1
         have hgm := (Got.many g1).2 hle
         have hfew : rq.e = 0 → n ≤ 4096 := fun _ => by omega
         rw [← hq] at h1 hgm
         have hs := h1
         clear hq h1 m1 g1 c2 c1 hle
         generalize w1 = W1 at *)
    have HG := Lib.hid hgm
    have HF := Lib.hid hfew
    clear hgm hfew
    go_loopw [6, 14] (fun v i wr => ∃ (k : Nat) (l : List DatV) (rk : RV), (k : Int) ≤ n ∧ k ≤ 4096 ∧ i = .int .i64 k ∧ wr.ownsRow w.heap.size 81 2 v k (l.flatMap DatV.row) ∧ l.length = k ∧ RdAt w0 B M T rest rk wr ∧ Mov B M w wr ∧ Hid (Got (pRep P k) rq rk l) ∧ ∀ x ∈ l, ok x) (fun _ i _ => n.toNat - (intOf i).toNat)
    case atStart => exact ⟨0, [], rq, ok0, by omega, rfl, World.ownsRow_nil _ _ _ _, rfl, hs, hm, Lib.hid (Got.zero rq), fun x hx => by cases hx⟩
    case round =>
      clear hs hm
      obtain ⟨k, l, rk, hkn, hk4, rfl, hown, hlk, hr, hm, HK, hok⟩ := hrel
      obtain ⟨vp, vc, rfl⟩ := own_any6 hown
      obtain ⟨x0, x1, x2, x3, y0, y1, y2, y3⟩ := hr.reads
      by_cases hlt : (k : Int) < n
      · by_cases he : rk.e = 0
        · have hn4 : n ≤ 4096 := HF.out (by
            rcases HK.out.2 with ⟨a1, a2⟩ | ⟨a1, _⟩ | ⟨a1, _⟩
            · exact absurd (a2.symm.trans he) a1
            · exact a1
            · exact a1)
          first
          | (exfalso; omega)
          | (rw [he] at x2
             have cq := hE B M T rest rk wr hr
             have HE := Lib.hid he
             have HLK := Lib.hid hlk
             clear hr he hlk
             go_wp2_with fail
             refine cq.mono ?_
             rintro e w3 ⟨x, r3, rfl, g3, h3, m3, hx⟩
             have hown3 := (own_mov hown m3 hBl hMl).alloc (.cells (DatV.row x).toArray 81)
             have h3a := h3.alloc (.cells (DatV.row x).toArray 81)
             have hm3 := (hm.trans m3).alloc (.cells (DatV.row x).toArray 81)
             have hs3 := Nat.le_trans hm.size m3.size
             clear cq hown
             dsimp only [valDat]
             go_wp2_with (at_builtin; refine wpList_append_own_at _ rfl (.tmp 21) (.tmp 25) 33 rfl w.heap.size 81 i0 (.agg #[.int .i64 0, .string ⟨#[]⟩]) 2 24 Tryz.underlying33 hi hz0 hz1 hz2 rfl (by decide) (.slice vp k vc) k (l.flatMap DatV.row) rfl hown3 ⟨w3.heap.size, 0, none⟩ 1 1 (DatV.row x) rfl rfl (cells_new6 w3 (DatV.row x) 81) (by intro u hu; simp [DatV.row] at hu; rcases hu with rfl | rfl <;> rfl) (by unfold maxLen; omega) (by omega) (by simp; omega) ?_)
             intro v' w4 hown4 hg4 _ _
             have hge : ∀ q, (Value.slice vp k vc).ownBlock = some q → w.heap.size ≤ q := fun q hq => (own_lt6 hown3 q hq).1
             have h4 := h3a.grown hg4 (fun q hq => Nat.lt_of_lt_of_le hBl (hge q hq)) (fun q hq => Nat.lt_of_lt_of_le hMl (hge q hq))
             have hm4 := hm3.grown hg4 hge
             have e4 : l.flatMap DatV.row ++ DatV.row x = (l ++ [x]).flatMap DatV.row := by simp
             rw [e4] at hown4
             have HK4 := Lib.hid (Got.more HK.out g3 HE.out)
             have hok4 : ∀ y ∈ l ++ [x], ok y := fun y hy => by
               rcases List.mem_append.1 hy with hy | hy
               · exact hok y hy
               · rw [List.mem_singleton.1 hy]; exact hx
             have hl4 : (l ++ [x]).length = k + 1 := by rw [List.length_append, HLK.out]; rfl
             clear hown3 h3a hm3 h3 m3 g3 HK hok HLK e4 hg4 x0 x1 x2 x3 y0 y1 y2 y3 hge
             go_wp2
             go_roundw
             case rel => exact ⟨k + 1, l ++ [x], r3, by omega, by omega, by go_num, hown4, hl4, h4, hm4, HK4, hok4⟩
             case measure => simp [intOf]; omega)
        · have hq : (rk.e != 0) = true := by simpa using he
          have HGL := Lib.hid (Got.list HG.out (HK.out.short (n := n.toNat) (by omega) he []))
          go_wp2
          go_ret
          exact ⟨[], rk, _, rfl, HGL.out, hr, hm, World.ownsRow_nil _ _ _ _, (fun x hx => by cases hx), by simp⟩
      · have hkk : n.toNat = k := by omega
        have HGL := Lib.hid (Got.list HG.out (hkk.symm ▸ HK.out))
        have hnk : n = (k : Int) := by omega
        clear hlt
        go_wp2
        go_ret
        exact ⟨l, rk, _, rfl, HGL.out, hr, hm, hlk.symm ▸ hown, hok, by omega⟩
end Go.Proofs.YtdinpakclmnacaaGreatDoor
