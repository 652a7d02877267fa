/-
  A memory and the document's own beside it, that hold the same. Definitions and contracts that the proofs call; no statement is proved here.
-/
import Derived.Test.YtaihmcengecmiaaMemRefD
import Derived.Test.YtaihmcengecmiaaMemBackWalk
namespace Go.Proofs.Ytaihmcengecmiaa
open Go.RowKit Go.Maps
set_option linter.unusedVariables false
set_option linter.unusedSimpArgs false

/-- Some blocks are as they were. -/
structure FrK (K : Nat → Prop) (w0 W : World) : Prop where
  os : W.os = w0.os
  tape : W.tape = w0.tape
  output : W.output = w0.output
  size : w0.heap.size ≤ W.heap.size
  block : ∀ k, K k → k < w0.heap.size ∧ W.heap[k]? = w0.heap[k]?
def Duo (w0 : World) (K : Nat → Prop) (B b b2 na nb top : Nat) (m : Int) (fa fb : Nat → UInt8) (W : World) : Prop :=
  ∃ O O2, MemAt O B b na top fa W ∧ RefAt O2 B b2 nb m fb W ∧ (∀ k, O k → ¬ O2 k) ∧ (∀ k, K k → ¬ O k ∧ ¬ O2 k) ∧ FrK K w0 W ∧ B ≤ W.heap.size
variable {w0 W W' : World} {K : Nat → Prop} {B b b2 na nb top : Nat} {m : Int} {fa fb : Nat → UInt8} {n' : Nat} {f' : Nat → UInt8} {O O2 O' : Nat → Prop}
theorem FrK.kept (h : FrK K w0 W) (hk : Kept O W W') (hn : ∀ k, K k → ¬ O k) : FrK K w0 W' :=
  ⟨hk.os.trans h.os, hk.tape.trans h.tape, hk.output.trans h.output, Nat.le_trans h.size hk.size, fun k hK => ⟨(h.block k hK).1, (hk.block k (Nat.lt_of_lt_of_le (h.block k hK).1 h.size) (hn k hK)).trans (h.block k hK).2⟩⟩
theorem Duo.memTo (h : Duo w0 K B b b2 na nb top m fa fb W) {P : World → Ending → World → Prop}
    (hs : ∀ O, MemAt O B b na top fa W → B ≤ W.heap.size → ∃ T : Prop, True) : True := trivial
/-- What is done to the first alone. -/
theorem duo_mem (hR : RefAt O2 B b2 nb m fb W) (hd : ∀ k, O k → ¬ O2 k) (hK : ∀ k, K k → ¬ O k ∧ ¬ O2 k) (hF : FrK K w0 W) (hB : B ≤ W.heap.size) (h : MemAt O' B b n' top f' W') (hk : Kept O W W') (hO : ∀ x, O' x → O x ∨ W.heap.size ≤ x) : Duo w0 K B b b2 n' nb top m f' fb W' := by
  refine ⟨O', O2, h, hR.kept hk (fun k h2 h1 => hd k h1 h2), fun k hx h2 => ?_, fun k hx => ⟨fun h1 => ?_, (hK k hx).2⟩, hF.kept hk (fun k hx => (hK k hx).1), Nat.le_trans hB hk.size⟩
  · rcases hO k hx with e | e
    · exact hd k e h2
    · have := (hR.low k h2).2
      omega
  · rcases hO k h1 with e | e
    · exact (hK k hx).1 e
    · have := (hF.block k hx).1
      have := hF.size
      omega
theorem duo_ref (hM : MemAt O B b na top fa W) (hd : ∀ k, O k → ¬ O2 k) (hK : ∀ k, K k → ¬ O k ∧ ¬ O2 k) (hF : FrK K w0 W) (hB : B ≤ W.heap.size) (h : RefAt O' B b2 n' m f' W') (hk : Kept O2 W W') (hO : ∀ x, O' x → O2 x ∨ W.heap.size ≤ x) : Duo w0 K B b b2 na n' top m fa f' W' := by
  refine ⟨O, O', hM.kept hk hd, h, fun k h1 h2 => ?_, fun k hx => ⟨(hK k hx).1, fun h1 => ?_⟩, hF.kept hk (fun k hx => (hK k hx).2), Nat.le_trans hB hk.size⟩
  · rcases hO k h2 with e | e
    · exact hd k h1 e
    · have := (hM.low k h1).2
      omega
  · rcases hO k h1 with e | e
    · exact (hK k hx).2 e
    · have := (hF.block k hx).1
      have := hF.size
      omega
theorem Duo.below (h : Duo w0 K B b b2 na nb top m fa fb W) (hb : Below W.heap.size W W') : Duo w0 K B b b2 na nb top m fa fb W' := by
  obtain ⟨O, O2, hM, hR, hd, hK, hF, hB⟩ := h
  exact ⟨O, O2, hM.below hb, hR.below hb, hd, hK, hF.kept (Kept.of_below hb (fun _ => False)) (fun _ _ e => e), Nat.le_trans hB hb.size⟩
theorem Duo.drew (h : Duo w0 K B b b2 na nb top m fa fb W) : Duo w0 K B b b2 na nb top m fa fb W.drew := h.below (Below.refl _ _).drew
theorem Duo.cell (h : Duo w0 K B b b2 na nb top m fa fb W) {k : Nat} (hk : K k) (j : Nat) : W.cell? ⟨k, j, none⟩ = w0.cell? ⟨k, j, none⟩ := by
  obtain ⟨O, O2, hM, hR, hd, hK, hF, hB⟩ := h
  exact World.cell?_of_block (w := w0) (hF.block k hk).2
/-! ### The deeds -/
theorem dgrow (h : Duo w0 K B b b2 na nb top m fa fb W) (k : Nat) (hk : k ≤ 4) : Calls Try.prog 16 #[.pointer (some ⟨b, 0, none⟩), .int .u32 k] W fun e w' => e = .returned (.int .i32 (if na + k ≤ top then (na : Int) else -1)) ∧ Duo w0 K B b b2 (if na + k ≤ top then na + k else na) nb top m fa fb w' := by
  obtain ⟨O, O2, hM, hR, hd, hK, hF, hB⟩ := h
  by_cases g : na + k ≤ top
  · rw [if_pos g, if_pos g]
    exact (grow_yes hM hB k g).mono fun e w' ⟨h1, O', h2, h3, h4⟩ => ⟨h1, duo_mem hR hd hK hF hB h2 h3 h4⟩
  · rw [if_neg g, if_neg g]
    refine (grow_no hM k (by omega) (by omega)).mono fun e w' ⟨h1, h2⟩ => ⟨h1, ?_⟩
    subst h2
    exact ⟨O, O2, hM, hR, hd, hK, hF, hB⟩
theorem drgrow (h : Duo w0 K B b b2 na nb top m fa fb W) (htop : top = topOf m) (hm : -1 ≤ m ∧ m ≤ 9223372036854775807) (k : Nat) (hk : k ≤ 4) : Calls Try.prog 21 #[.pointer (some ⟨b2, 0, none⟩), .int .u32 k] W fun e w' => e = .returned (.int .i32 (if nb + k ≤ top then (nb : Int) else -1)) ∧ Duo w0 K B b b2 na (if nb + k ≤ top then nb + k else nb) top m fa fb w' := by
  obtain ⟨O, O2, hM, hR, hd, hK, hF, hB⟩ := h
  have hn := hR.top
  by_cases g : nb + k ≤ top
  · rw [if_pos g, if_pos g]
    have hg : nb + k ≤ 256 ∧ (m = -1 ∨ (nb + k : Nat) ≤ m) := by rw [htop] at g; unfold topOf at g; split at g <;> omega
    exact (rgrow_yes hR hm hB k hk hg.1 hg.2).mono fun e w' ⟨h1, O', h2, h3, h4⟩ => ⟨h1, duo_ref hM hd hK hF hB h2 h3 h4⟩
  · rw [if_neg g, if_neg g]
    have hg : 256 < nb + k ∨ m ≠ -1 ∧ m < nb + k := by rw [htop] at g; unfold topOf at g; split at g <;> omega
    refine (rgrow_no hR hm k hk hg).mono fun e w' ⟨h1, h2⟩ => ⟨h1, ?_⟩
    subst h2
    exact ⟨O, O2, hM, hR, hd, hK, hF, hB⟩
def stN (n : Nat) (f : Nat → UInt8) (a : Nat) (size : Int) (x : Nat) : Nat → UInt8 := if isSize size = true ∧ inN n a size = true then putN f a size.toNat x else f
theorem dstore (h : Duo w0 K B b b2 na nb top m fa fb W) (a : Nat) (ha : a < 18446744073709551616) (size : Int) (h1 : -9223372036854775808 ≤ size) (h2 : size ≤ 9223372036854775807) (x : Nat) (hx : x < 18446744073709551616) :
    Calls Try.prog 15 #[.pointer (some ⟨b, 0, none⟩), .int .u64 a, .int .i64 size, .int .u64 x] W fun e w' => e = .returned (.bool (isSize size && inN na a size)) ∧ Duo w0 K B b b2 na nb top m (stN na fa a size x) fb w' := by
  obtain ⟨O, O2, hM, hR, hd, hK, hF, hB⟩ := h
  unfold stN
  by_cases g : isSize size = true ∧ inN na a size = true
  · rw [if_pos g, g.1, g.2]
    exact (store_at hM a size g.1 g.2 x hx).mono fun e w' ⟨h1, h2, h3⟩ => ⟨h1, duo_mem hR hd hK hF hB h2 h3 (fun _ e => .inl e)⟩
  · rw [if_neg g]
    have hno : isSize size = false ∨ inN na a size = false := by
      cases hs : isSize size
      · exact .inl rfl
      · cases hi : inN na a size
        · exact .inr rfl
        · exact absurd ⟨hs, hi⟩ g
    rw [show (isSize size && inN na a size) = false by rcases hno with e | e <;> simp [e]]
    refine (store_no hM a ha size h1 h2 hno x).mono fun e w' ⟨h1, h2⟩ => ⟨h1, ?_⟩
    subst h2
    exact ⟨O, O2, hM, hR, hd, hK, hF, hB⟩
theorem drstore (h : Duo w0 K B b b2 na nb top m fa fb W) (a : Nat) (ha : a < 18446744073709551616) (size : Int) (h1 : -9223372036854775808 ≤ size) (h2 : size ≤ 9223372036854775807) (x : Nat) (hx : x < 18446744073709551616) :
    Calls Try.prog 22 #[.pointer (some ⟨b2, 0, none⟩), .int .u64 a, .int .i64 size, .int .u64 x] W fun e w' => e = .returned (.bool (isSize size && inN nb a size)) ∧ Duo w0 K B b b2 na nb top m fa (stN nb fb a size x) w' := by
  obtain ⟨O, O2, hM, hR, hd, hK, hF, hB⟩ := h
  unfold stN
  by_cases g : isSize size = true ∧ inN nb a size = true
  · rw [if_pos g, g.1, g.2]
    exact (rstore_yes hR a size g.1 g.2 x hx).mono fun e w' ⟨h1, h2, h3⟩ => ⟨h1, duo_ref hM hd hK hF hB h2 h3 (fun _ e => .inl e)⟩
  · rw [if_neg g]
    have hno : isSize size = false ∨ inN nb a size = false := by
      cases hs : isSize size
      · exact .inl rfl
      · cases hi : inN nb a size
        · exact .inr rfl
        · exact absurd ⟨hs, hi⟩ g
    rw [show (isSize size && inN nb a size) = false by rcases hno with e | e <;> simp [e]]
    refine (rstore_no hR a ha size h1 h2 hno x).mono fun e w' ⟨h1, h2⟩ => ⟨h1, ?_⟩
    subst h2
    exact ⟨O, O2, hM, hR, hd, hK, hF, hB⟩
def ldN (n : Nat) (f : Nat → UInt8) (a : Nat) (size : Int) : Nat := if isSize size = true ∧ inN n a size = true then leN f a size.toNat else 0
theorem dload (h : Duo w0 K B b b2 na nb top m fa fb W) (a : Nat) (ha : a < 18446744073709551616) (size : Int) (h1 : -9223372036854775808 ≤ size) (h2 : size ≤ 9223372036854775807) :
    Calls Try.prog 17 #[.pointer (some ⟨b, 0, none⟩), .int .u64 a, .int .i64 size] W fun e w' => e = .returned (.tuple #[.int .u64 (ldN na fa a size), .bool (isSize size && inN na a size)]) ∧ W = w' := by
  obtain ⟨O, O2, hM, hR, hd, hK, hF, hB⟩ := h
  unfold ldN
  by_cases g : isSize size = true ∧ inN na a size = true
  · rw [if_pos g, g.1, g.2]
    exact load_at hM a size g.1 g.2
  · rw [if_neg g]
    have hno : isSize size = false ∨ inN na a size = false := by
      cases hs : isSize size
      · exact .inl rfl
      · cases hi : inN na a size
        · exact .inr rfl
        · exact absurd ⟨hs, hi⟩ g
    rw [show (isSize size && inN na a size) = false by rcases hno with e | e <;> simp [e]]
    exact load_no hM a ha size h1 h2 hno
theorem drload (h : Duo w0 K B b b2 na nb top m fa fb W) (a : Nat) (ha : a < 18446744073709551616) (size : Int) (h1 : -9223372036854775808 ≤ size) (h2 : size ≤ 9223372036854775807) :
    Calls Try.prog 23 #[.pointer (some ⟨b2, 0, none⟩), .int .u64 a, .int .i64 size] W fun e w' => e = .returned (.tuple #[.int .u64 (ldN nb fb a size), .bool (isSize size && inN nb a size)]) ∧ W = w' := by
  obtain ⟨O, O2, hM, hR, hd, hK, hF, hB⟩ := h
  unfold ldN
  by_cases g : isSize size = true ∧ inN nb a size = true
  · rw [if_pos g, g.1, g.2]
    obtain ⟨gg, cap, cur, hR⟩ := hR
    exact rload_yes hR a size g.1 g.2
  · rw [if_neg g]
    have hno : isSize size = false ∨ inN nb a size = false := by
      cases hs : isSize size
      · exact .inl rfl
      · cases hi : inN nb a size
        · exact .inr rfl
        · exact absurd ⟨hs, hi⟩ g
    rw [show (isSize size && inN nb a size) = false by rcases hno with e | e <;> simp [e]]
    exact rload_no hR a ha size h1 h2 hno
def wrN (n : Nat) (f : Nat → UInt8) (a : Nat) (s : ByteArray) : Nat → UInt8 := if inN n a (s.size : Int) = true then putS f a s.data.toList else f
theorem dwrite (h : Duo w0 K B b b2 na nb top m fa fb W) (a : Nat) (ha : a < 18446744073709551616) (s : ByteArray) (hs : s.size < 9223372036854775808) :
    Calls Try.prog 14 #[.pointer (some ⟨b, 0, none⟩), .int .u64 a, .string s] W fun e w' => e = .returned (.bool (inN na a (s.size : Int))) ∧ Duo w0 K B b b2 na nb top m (wrN na fa a s) fb w' := by
  obtain ⟨O, O2, hM, hR, hd, hK, hF, hB⟩ := h
  unfold wrN
  by_cases g : inN na a (s.size : Int) = true
  · rw [if_pos g, g]
    exact (write_at hM a s hs g).mono fun e w' ⟨h1, h2, h3⟩ => ⟨h1, duo_mem hR hd hK hF hB h2 h3 (fun _ e => .inl e)⟩
  · rw [if_neg g]
    have hi : inN na a (s.size : Int) = false := by simpa using g
    rw [hi]
    refine (write_no hM a ha s hs hi).mono fun e w' ⟨h1, h2⟩ => ⟨h1, ?_⟩
    subst h2
    exact ⟨O, O2, hM, hR, hd, hK, hF, hB⟩
theorem drwrite (h : Duo w0 K B b b2 na nb top m fa fb W) (a : Nat) (ha : a < 18446744073709551616) (s : ByteArray) (hs : s.size < 9223372036854775808) :
    Calls Try.prog 24 #[.pointer (some ⟨b2, 0, none⟩), .int .u64 a, .string s] W fun e w' => e = .returned (.bool (inN nb a (s.size : Int))) ∧ Duo w0 K B b b2 na nb top m fa (wrN nb fb a s) w' := by
  obtain ⟨O, O2, hM, hR, hd, hK, hF, hB⟩ := h
  unfold wrN
  by_cases g : inN nb a (s.size : Int) = true
  · rw [if_pos g, g]
    exact (rwrite_yes hR a s hs g).mono fun e w' ⟨h1, h2, h3⟩ => ⟨h1, duo_ref hM hd hK hF hB h2 h3 (fun _ e => .inl e)⟩
  · rw [if_neg g]
    have hi : inN nb a (s.size : Int) = false := by simpa using g
    rw [hi]
    refine (rwrite_no hR a ha s hs hi).mono fun e w' ⟨h1, h2⟩ => ⟨h1, ?_⟩
    subst h2
    exact ⟨O, O2, hM, hR, hd, hK, hF, hB⟩
def rdN (n : Nat) (f : Nat → UInt8) (a : Nat) (size : Int) : ByteArray := if inN n a size = true then ⟨(txtN f a size.toNat).toArray⟩ else ⟨#[]⟩
theorem dbytes (h : Duo w0 K B b b2 na nb top m fa fb W) (a : Nat) (ha : a < 18446744073709551616) (size : Int) (h1 : -9223372036854775808 ≤ size) (h2 : size ≤ 9223372036854775807) :
    Calls Try.prog 18 #[.pointer (some ⟨b, 0, none⟩), .int .u64 a, .int .i64 size] W fun e w' => e = .returned (.tuple #[.string (rdN na fa a size), .bool (inN na a size)]) ∧ Duo w0 K B b b2 na nb top m fa fb w' := by
  have h' := h
  obtain ⟨O, O2, hM, hR, hd, hK, hF, hB⟩ := h
  unfold rdN
  by_cases g : inN na a size = true
  · rw [if_pos g, g]
    obtain ⟨s, rfl⟩ : ∃ s : Nat, size = s := ⟨size.toNat, by have := inN_iff.1 g; omega⟩
    exact (bytes_yes hM a s g).mono fun e w' ⟨h1, h2⟩ => ⟨h1, h'.below h2⟩
  · rw [if_neg g]
    have hi : inN na a size = false := by simpa using g
    rw [hi]
    refine (bytes_no hM a ha size h1 h2 hi).mono fun e w' ⟨h1, h2⟩ => ⟨h1, ?_⟩
    subst h2
    exact h'
theorem drbytes (h : Duo w0 K B b b2 na nb top m fa fb W) (a : Nat) (ha : a < 18446744073709551616) (size : Int) (h1 : -9223372036854775808 ≤ size) (h2 : size ≤ 9223372036854775807) :
    Calls Try.prog 25 #[.pointer (some ⟨b2, 0, none⟩), .int .u64 a, .int .i64 size] W fun e w' => e = .returned (.tuple #[.string (rdN nb fb a size), .bool (inN nb a size)]) ∧ W = w' := by
  obtain ⟨O, O2, hM, hR, hd, hK, hF, hB⟩ := h
  unfold rdN
  by_cases g : inN nb a size = true
  · rw [if_pos g, g]
    obtain ⟨s, rfl⟩ : ∃ s : Nat, size = s := ⟨size.toNat, by have := inN_iff.1 g; omega⟩
    exact rbytes_yes hR a s g
  · rw [if_neg g]
    have hi : inN nb a size = false := by simpa using g
    rw [hi]
    exact rbytes_no hR a ha size h1 h2 hi
end Go.Proofs.Ytaihmcengecmiaa
