/-
  What was stored is loaded, also over a page's end, and when it has grown; the bytes beside it stay: walked. A contract that the proofs call.
-/
import Derived.Test.YtaihmcengecmiaaMemHead
import Derived.Laws.IdiomStrings
namespace Go.Proofs.Ytaihmcengecmiaa
open Go.RowKit Go.Maps
set_option linter.unusedVariables false
set_option linter.unusedSimpArgs false

theorem conv16 (w : World) (c : UInt8) (a : Int) (hc : (c.toNat : Int) = a) :
    (convert 38 9 (.slice (some ⟨w.heap.size, 0, none⟩) 16 16)).run Try.prog (w.alloc (.cells #[.int .u8 a, .int .u8 a, .int .u8 a, .int .u8 a, .int .u8 a, .int .u8 a, .int .u8 a, .int .u8 a, .int .u8 a, .int .u8 a, .int .u8 a, .int .u8 a, .int .u8 a, .int .u8 a, .int .u8 a, .int .u8 a] 5)) = .ok (.string ⟨(List.replicate 16 c).toArray⟩) (w.alloc (.cells #[.int .u8 a, .int .u8 a, .int .u8 a, .int .u8 a, .int .u8 a, .int .u8 a, .int .u8 a, .int .u8 a, .int .u8 a, .int .u8 a, .int .u8 a, .int .u8 a, .int .u8 a, .int .u8 a, .int .u8 a, .int .u8 a] 5)) := by
  subst hc
  refine run_convert_bytes_back _ 38 9 5 ⟨w.heap.size, 0, none⟩ 16 (List.replicate 16 c) Try.underlying38 Try.underlying5 Try.underlying9 (fun j hj => ?_)
  have h := cells_new w [.int .u8 c.toNat, .int .u8 c.toNat, .int .u8 c.toNat, .int .u8 c.toNat, .int .u8 c.toNat, .int .u8 c.toNat, .int .u8 c.toNat, .int .u8 c.toNat, .int .u8 c.toNat, .int .u8 c.toNat, .int .u8 c.toNat, .int .u8 c.toNat, .int .u8 c.toNat, .int .u8 c.toNat, .int .u8 c.toNat, .int .u8 c.toNat] 5 j (.int .u8 c.toNat) (by
    have : j < 16 := hj
    have e : ([.int .u8 c.toNat, .int .u8 c.toNat, .int .u8 c.toNat, .int .u8 c.toNat, .int .u8 c.toNat, .int .u8 c.toNat, .int .u8 c.toNat, .int .u8 c.toNat, .int .u8 c.toNat, .int .u8 c.toNat, .int .u8 c.toNat, .int .u8 c.toNat, .int .u8 c.toNat, .int .u8 c.toNat, .int .u8 c.toNat, .int .u8 c.toNat] : List Value) = List.replicate 16 (.int .u8 c.toNat) := rfl
    rw [e, List.getElem?_replicate, if_pos this])
  rw [h, List.getElem_replicate]
theorem below_drewN {B : Nat} {w w' : World} (h : Below B w w') (k : Nat) : Below B w (w'.drewN k) := ⟨h.os, h.tape, h.output, h.size, h.block⟩
theorem ext_part {S t : ByteArray} {a b : Nat} (h : ∀ i, a ≤ i → i < b → S.data.toList[i]? = t.data.toList[i]?) : S.extract a b = t.extract a b := by
  apply bytes_ext
  rw [ByteArray.data_extract, ByteArray.data_extract, Array.toList_extract, Array.toList_extract, List.extract_eq_take_drop, List.extract_eq_take_drop]
  apply List.ext_getElem?
  intro j
  rw [List.getElem?_take, List.getElem?_take]
  split
  · rw [List.getElem?_drop, List.getElem?_drop]
    exact h (a + j) (by omega) (by omega)
  · rfl
theorem back_side (f : Nat → UInt8) (p k n i : Nat) (c : UInt8) (hi : i < 16) (hn : ¬ (4 ≤ i ∧ i < 4 + k)) : putN (putS f p (List.replicate 16 c)) (p + 4) k n (p + i) = c := by
  unfold putN putS
  rw [if_neg (by omega), List.length_replicate, if_pos (by omega), Nat.add_sub_cancel_left, List.getD_eq_getElem?_getD, List.getElem?_replicate, if_pos hi]
  rfl
theorem wraps_u64 (n : Int) (h₀ : 0 ≤ n) (h₁ : n < 2 ^ 64) : IntKind.u64.wrap n = n := by rw [IntKind.wrap_u64]; omega
theorem mask_k (a2 : Int) (h0 : 0 ≤ a2) (h1 : a2 ≤ 18446744073709551615) (k : Nat) (hk : k < 8) : bits .and .u64 a2 (IntKind.u64.wrap (IntKind.u64.wrap (2 ^ (8 * k)) - 1)) = ((a2.toNat % 256 ^ k : Nat) : Int) := by
  have hp : (2 : Nat) ^ (8 * k) ≤ 2 ^ 56 := Nat.pow_le_pow_right (by decide) (by omega)
  have hq : 0 < (2 : Nat) ^ (8 * k) := Nat.two_pow_pos _
  have hc : (2 : Int) ^ (8 * k) = ((2 ^ (8 * k) : Nat) : Int) := by simp
  have e1 : IntKind.u64.wrap (2 ^ (8 * k)) = 2 ^ (8 * k) := by rw [IntKind.wrap_u64, hc]; omega
  have e2 : IntKind.u64.wrap ((2 : Int) ^ (8 * k) - 1) = 2 ^ (8 * k) - 1 := by rw [IntKind.wrap_u64, hc]; omega
  rw [e1, e2, bits_mask .u64 64 (by decide) wraps_u64 (8 * k) (by omega) a2 h0 (by omega)]
  rw [show (256 : Nat) ^ k = 2 ^ (8 * k) by rw [Nat.pow_mul], Int.natCast_emod, ← hc]
  congr 1
  omega
set_option maxRecDepth 100000 in
set_option maxHeartbeats 4000000 in
theorem memBack_walk (a0 a1 a2 a3 : Int) (h0 : 0 ≤ a0 ∧ a0 ≤ 4294967295) (h1 : 0 ≤ a1 ∧ a1 ≤ 255) (h2 : 0 ≤ a2 ∧ a2 ≤ 18446744073709551615) (h3 : 0 ≤ a3 ∧ a3 ≤ 255) (w : World) : Calls Try.prog 4 #[.int .u32 a0, .int .u8 a1, .int .u64 a2, .int .u8 a3] w fun e w' => e = .returned (.bool true) ∧ Below w.heap.size w w' := by
  obtain ⟨q0, q1⟩ := h0
  obtain ⟨q2, q3⟩ := h1
  obtain ⟨q4, q5⟩ := h2
  obtain ⟨q6, q7⟩ := h3
  have hh := head8
  have c1 : ∀ w, Calls Try.prog 9 #[.int .i64 2, .int .i64 (-1)] w fun e w' => ∃ b O, e = .returned (.tuple #[.pointer (some ⟨b, 0, none⟩), .int .i64 0]) ∧ MemAt O w.heap.size b 2 256 (fun _ => 0) w' ∧ Below w.heap.size w w' := fun w => new_is 2 (-1) (by decide) (by decide) (by decide) w
  obtain ⟨k, hk, hk1, hk8, hks⟩ : ∃ k : Nat, wrap64 (2 ^ (a1 % 4).toNat) = (k : Int) ∧ 1 ≤ k ∧ k ≤ 8 ∧ isSize k = true := by
    have : a1 % 4 = 0 ∨ a1 % 4 = 1 ∨ a1 % 4 = 2 ∨ a1 % 4 = 3 := by omega
    rcases this with e | e | e | e <;> rw [e]
    · exact ⟨1, by decide +kernel, by decide, by decide, rfl⟩
    · exact ⟨2, by decide +kernel, by decide, by decide, rfl⟩
    · exact ⟨4, by decide +kernel, by decide, by decide, rfl⟩
    · exact ⟨8, by decide +kernel, by decide, by decide, rfl⟩
  obtain ⟨p, hp, hp1⟩ : ∃ p : Nat, a0 % 131000 = (p : Int) ∧ p < 131000 := ⟨(a0 % 131000).toNat, by omega, by omega⟩
  obtain ⟨c, hc⟩ : ∃ c : UInt8, (c.toNat : Int) = a3 := ⟨UInt8.ofNat a3.toNat, by rw [show (UInt8.ofNat a3.toNat).toNat = a3.toNat % 256 by simp]; omega⟩
  obtain ⟨t, ht⟩ : ∃ t : ByteArray, t = ⟨(List.replicate 16 c).toArray⟩ := ⟨_, rfl⟩
  have hconv := fun w => conv16 w c a3 hc
  rw [← ht] at hconv
  have htl : t.data.toList = List.replicate 16 c := by rw [ht]
  have ht16 : t.size = 16 := by rw [ht]; rfl
  have HC := Lib.hid hc
  clear hc
  have wr1 : ∀ {O B b w}, MemAt O B b 2 256 (fun _ => 0) w → Calls Try.prog 14 #[.pointer (some ⟨b, 0, none⟩), .int .u64 p, .string t] w fun e w' => e = .returned (.bool true) ∧ MemAt O B b 2 256 (putS (fun _ => 0) p (List.replicate 16 c)) w' ∧ Kept O w w' := fun h => by
    have := write_at h p t (by omega) (inN_iff.2 (by omega))
    rw [htl] at this
    exact this
  obtain ⟨f1, hf1⟩ : ∃ f, f = putS (fun _ => 0) p (List.replicate 16 c) := ⟨_, rfl⟩
  rw [← hf1] at wr1
  have s1 : ∀ {O B b w}, MemAt O B b 2 256 f1 w → Calls Try.prog 15 #[.pointer (some ⟨b, 0, none⟩), .int .u64 ((p : Int) + 4), .int .i64 k, .int .u64 a2] w fun e w' => e = .returned (.bool true) ∧ MemAt O B b 2 256 (putN f1 (p + 4) k a2.toNat) w' ∧ Kept O w w' := fun h => by
    have := store_at h (p + 4) k hks (inN_iff.2 (by omega)) a2.toNat (by omega)
    rw [show ((a2.toNat : Nat) : Int) = a2 by omega] at this
    exact this
  obtain ⟨f2, hf2⟩ : ∃ f, f = putN f1 (p + 4) k a2.toNat := ⟨_, rfl⟩
  rw [← hf2] at s1
  have g1 : ∀ {O B b w}, MemAt O B b 2 256 f2 w → B ≤ w.heap.size → Calls Try.prog 16 #[.pointer (some ⟨b, 0, none⟩), .int .u32 1] w fun e w' => e = .returned (.int .i32 2) ∧ (∃ O', MemAt O' B b 3 256 f2 w' ∧ Kept O w w' ∧ ∀ x, O' x → O x ∨ w.heap.size ≤ x) := fun h hB => grow_yes h hB 1 (by decide)
  obtain ⟨x, hx, hx2⟩ : ∃ x : Nat, leN f2 (p + 4) k = x ∧ x = a2.toNat % 256 ^ k := ⟨_, rfl, by rw [hf2]; exact leN_put f1 (p + 4) k a2.toNat k (Nat.le_refl _)⟩
  have l1 : ∀ {O B b w}, MemAt O B b 3 256 f2 w → Calls Try.prog 17 #[.pointer (some ⟨b, 0, none⟩), .int .u64 ((p : Int) + 4), .int .i64 k] w fun e w' => e = .returned (.tuple #[.int .u64 x, .bool true]) ∧ w = w' := fun h => by
    have := load_at h (p + 4) k hks (inN_iff.2 (by omega))
    rw [show ((k : Int)).toNat = k from rfl, hx] at this
    exact this
  obtain ⟨S, hS⟩ : ∃ S : ByteArray, (⟨(txtN f2 p 16).toArray⟩ : ByteArray) = S := ⟨_, rfl⟩
  have y1 : ∀ {O B b w}, MemAt O B b 3 256 f2 w → Calls Try.prog 18 #[.pointer (some ⟨b, 0, none⟩), .int .u64 p, .int .i64 16] w fun e w' => e = .returned (.tuple #[.string S, .bool true]) ∧ Below w.heap.size w w' := fun h => by
    have := bytes_yes h p 16 (inN_iff.2 (by omega))
    rw [hS] at this
    exact this
  have hS16 : S.size = 16 := by rw [← hS]; show (txtN f2 p 16).toArray.size = 16; simp [txtN_len]
  have hSl : S.data.toList = txtN f2 p 16 := by rw [← hS]
  have part : ∀ a b, b ≤ 16 → (∀ i, a ≤ i → i < b → ¬ (4 ≤ i ∧ i < 4 + k)) → S.extract a b = t.extract a b := fun a b hb hab => ext_part fun i h1 h2 => by
    rw [hSl, htl, txtN_at _ _ _ _ (by omega), hf2, hf1, back_side _ _ _ _ _ _ (by omega) (hab i h1 h2), List.getElem?_replicate, if_pos (by omega)]
  have eS1 : S.extract 0 4 = t.extract 0 4 := part 0 4 (by decide) (fun i _ h => by omega)
  have eS2 : S.extract (4 + k) 16 = t.extract (4 + k) 16 := part (4 + k) 16 (by decide) (fun i h _ => by omega)
  have et : (4 + (k : Int)).toNat = 4 + k := by omega
  have ek1 : (0 : Int) ≤ 4 + k := by omega
  have ek2 : 4 + (k : Int) ≤ 16 := by omega
  have hand : ∀ h : k < 8, bits .and .u64 a2 (IntKind.u64.wrap (IntKind.u64.wrap (2 ^ (8 * k)) - 1)) = (x : Int) := fun h => by rw [mask_k a2 q4 q5 k h, ← hx2]
  have hall : k = 8 → a2 = (x : Int) := fun e => by subst e; rw [hx2]; omega
  have HX := Lib.hid hx
  have HX2 := Lib.hid hx2
  have HS := Lib.hid hS
  have HF1 := Lib.hid hf1
  have HTL := Lib.hid htl
  have HT := Lib.hid ht
  have HF2 := Lib.hid hf2
  have HKS := Lib.hid hks
  clear part hSl
  clear hx hx2 hS hf1 hf2 hks htl ht
  go_enter Try.func4, Try.ntmps4
  go_wp2_with (first
    | (go_at_call 8; (with_reducible refine (hh _).mono ?_); rintro e wa ⟨rfl, hb1⟩)
    | (go_at_call 9; (with_reducible refine (c1 _).mono ?_); rintro e wb ⟨b, O, rfl, hm2, hb2⟩; have hm2' := fun o => hm2.alloc o)
    | (go_at_call 14; (with_reducible refine (wr1 (hm2' _)).mono ?_); rintro e wc ⟨rfl, hm3, hk3⟩; have hb3 := (hb2.alloc hb2.size _).trans ((hm2' _).keeps (hb2.alloc hb2.size _).size hk3))
    | (go_at_call 15; (with_reducible refine (s1 hm3).mono ?_); rintro e wd ⟨rfl, hm4, hk4⟩; have hb4 := hb3.trans (hm3.keeps hb3.size hk4))
    | (go_at_call 16; (with_reducible refine (g1 hm4 hb4.size).mono ?_); rintro e we ⟨rfl, O5, hm5, hk5, hO5⟩; have hb5 := hb4.trans (hm4.keeps hb4.size hk5))
    | (go_at_call 17; (with_reducible refine (l1 hm5).mono ?_); rintro e w' ⟨rfl, rfl⟩)
    | (go_at_call 18; (with_reducible refine (y1 hm5).mono ?_); rintro e wf ⟨rfl, hb6⟩; have hb7 := hb5.trans (hb6.mono hb5.size)))
  · have hd := hand (by omega)
    clear hall hand wr1 s1 g1 l1 y1 hconv c1 hh
    go_quiet (fail)
    go_wp2
    go_ret
    exact ⟨rfl, below_drewN (hb1.trans (hb7.mono hb1.size)) _⟩
  · have hd := hall (by omega)
    clear hall hand wr1 s1 g1 l1 y1 hconv c1 hh
    go_quiet (fail)
    go_wp2
    go_ret
    exact ⟨rfl, below_drewN (hb1.trans (hb7.mono hb1.size)) _⟩
end Go.Proofs.Ytaihmcengecmiaa
