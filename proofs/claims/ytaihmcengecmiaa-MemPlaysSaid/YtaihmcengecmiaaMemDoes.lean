/-
  A deed, done to a memory and to the document's own: both answer the same, and hold the same. A contract that the proofs call; no statement is proved here.
-/
import Derived.Test.YtaihmcengecmiaaMemDuo
import Derived.Deep.RegionHeld3
namespace Go.Proofs.Ytaihmcengecmiaa
open Go.RowKit Go.Maps
set_option linter.unusedVariables false
set_option linter.unusedSimpArgs false
variable {w0 W W' : World} {K : Nat → Prop} {B b b2 n na nb top : Nat} {m : Int} {f fa fb : Nat → UInt8} {n' : Nat} {f' : Nat → UInt8} {O O2 O' : Nat → Prop}

theorem Duo.frame (h : Duo w0 K B b b2 na nb top m fa fb W) : FrK K w0 W ∧ B ≤ W.heap.size := by
  obtain ⟨O, O2, hM, hR, hd, hK, hF, hB⟩ := h
  exact ⟨hF, hB⟩
/-- A block is laid, that stays. -/
theorem Duo.lay (h : Duo w0 K B b b2 na nb top m fa fb W) (o : Obj) : Duo (W.alloc o) (fun k => K k ∨ k = W.heap.size) B b b2 na nb top m fa fb (W.alloc o) := by
  have hs : (W.alloc o).heap.size = W.heap.size + 1 := by simp
  obtain ⟨O, O2, hM, hR, hd, hK, hF, hB⟩ := h
  refine ⟨O, O2, hM.alloc o, hR.below ((Below.refl _ _).alloc (Nat.le_refl _) o), hd, fun k hk => ?_, ⟨rfl, rfl, rfl, Nat.le_refl _, fun k hk => ⟨?_, rfl⟩⟩, by omega⟩
  · rcases hk with e | e
    · exact hK k e
    · refine ⟨fun h1 => ?_, fun h1 => ?_⟩
      · have := (hM.low k h1).2
        omega
      · have := (hR.low k h1).2
        omega
  · rcases hk with e | e
    · have := (hF.block k e).1
      have := hF.size
      omega
    · omega
theorem Duo.back (h : FrK K w0 W) {o : Obj} (h2 : Duo (W.alloc o) (fun k => K k ∨ k = W.heap.size) B b b2 na nb top m fa fb W') : Duo w0 K B b b2 na nb top m fa fb W' := by
  have hs : (W.alloc o).heap.size = W.heap.size + 1 := by simp
  obtain ⟨O, O2, hM, hR, hd, hK, hF, hB⟩ := h2
  refine ⟨O, O2, hM, hR, hd, fun k hk => hK k (.inl hk), ⟨hF.os.trans h.os, hF.tape.trans h.tape, hF.output.trans h.output, ?_, fun k hk => ⟨(h.block k hk).1, ?_⟩⟩, hB⟩
  · have := h.size
    have := hF.size
    omega
  · have h1 := (h.block k hk).1
    have h2 := h.size
    exact ((hF.block k (.inl hk)).2.trans (Below.heap_alloc _ _ _ (by omega))).trans (h.block k hk).2
set_option maxRecDepth 100000 in
set_option maxHeartbeats 8000000 in
theorem does_load (h : Duo w0 K B b b2 n n top m f f W) (kind at' size x : Int) (far : Bool) (s : ByteArray) (h1 : 0 ≤ kind ∧ kind ≤ 255) (h2 : 0 ≤ at' ∧ at' ≤ 18446744073709551615) (h3 : -9223372036854775808 ≤ size ∧ size ≤ 9223372036854775807) (hk : kind % 6 = 3) :
    Calls Try.prog 11 #[.pointer (some ⟨b, 0, none⟩), .pointer (some ⟨b2, 0, none⟩), .agg #[.int .u8 kind, .int .u64 at', .bool far, .int .i64 size, .int .u64 x, .string s]] W fun e w' => e = .returned (.bool true) ∧ ∃ n' f', Duo w0 K B b b2 n' n' top m f' f' w' := by
  obtain ⟨p1, p2⟩ := h1
  obtain ⟨p3, p4⟩ := h2
  obtain ⟨p5, p6⟩ := h3
  have hF := h.frame.1
  have hD := h.lay (.cells #[.int .u8 kind, .int .u64 at', .bool far, .int .i64 size, .int .u64 x, .string s] 33)
  obtain ⟨a, ha, ha2⟩ : ∃ a : Nat, (a : Int) = (if far = true then at' else at' % 300000) ∧ a < 18446744073709551616 := ⟨(if far = true then at' else at' % 300000).toNat, by split <;> omega, by split <;> omega⟩
  have hl1 := dload hD a ha2 size p5 p6
  have hl2 := drload hD a ha2 size p5 p6
  rw [ha] at hl1 hl2
  clear h ha
  cases far
  all_goals
    simp only [if_true, if_false, Bool.false_eq_true, reduceIte] at hl1 hl2
    go_enter Try.func11, Try.ntmps11
    go_wp2_with (first
      | (go_at_call 17; (with_reducible refine hl1.mono ?_); rintro e w' ⟨rfl, rfl⟩)
      | (go_at_call 23; (with_reducible refine hl2.mono ?_); rintro e w' ⟨rfl, rfl⟩))
    go_ret
    exact ⟨rfl, _, _, Duo.back hF hD⟩
set_option maxRecDepth 100000 in
set_option maxHeartbeats 8000000 in
theorem does_bytes (h : Duo w0 K B b b2 n n top m f f W) (kind at' size x : Int) (far : Bool) (s : ByteArray) (h1 : 0 ≤ kind ∧ kind ≤ 255) (h2 : 0 ≤ at' ∧ at' ≤ 18446744073709551615) (h3 : -9223372036854775808 ≤ size ∧ size ≤ 9223372036854775807) (hk : kind % 6 = 5) :
    Calls Try.prog 11 #[.pointer (some ⟨b, 0, none⟩), .pointer (some ⟨b2, 0, none⟩), .agg #[.int .u8 kind, .int .u64 at', .bool far, .int .i64 size, .int .u64 x, .string s]] W fun e w' => e = .returned (.bool true) ∧ ∃ n' f', Duo w0 K B b b2 n' n' top m f' f' w' := by
  obtain ⟨p1, p2⟩ := h1
  obtain ⟨p3, p4⟩ := h2
  obtain ⟨p5, p6⟩ := h3
  have hF := h.frame.1
  have hD := h.lay (.cells #[.int .u8 kind, .int .u64 at', .bool far, .int .i64 size, .int .u64 x, .string s] 33)
  obtain ⟨a, ha, ha2⟩ : ∃ a : Nat, (a : Int) = (if far = true then at' else at' % 300000) ∧ a < 18446744073709551616 := ⟨(if far = true then at' else at' % 300000).toNat, by split <;> omega, by split <;> omega⟩
  have hl1 := dbytes hD a ha2 size p5 p6
  have hl2 := fun W' (hD : Duo (W.alloc (.cells #[.int .u8 kind, .int .u64 at', .bool far, .int .i64 size, .int .u64 x, .string s] 33)) (fun k => K k ∨ k = W.heap.size) B b b2 n n top m f f W') => drbytes hD a ha2 size p5 p6
  have hcell := fun W' (hD : Duo (W.alloc (.cells #[.int .u8 kind, .int .u64 at', .bool far, .int .i64 size, .int .u64 x, .string s] 33)) (fun k => K k ∨ k = W.heap.size) B b b2 n n top m f f W') => hD.cell (k := W.heap.size) (.inr rfl) 3
  rw [show (W.alloc (.cells #[.int .u8 kind, .int .u64 at', .bool far, .int .i64 size, .int .u64 x, .string s] 33)).cell? ⟨W.heap.size, 3, none⟩ = some (.int .i64 size) by rw [World.cell?_alloc_new]; rfl] at hcell
  rw [ha] at hl1 hl2
  clear h ha
  cases far
  all_goals
    simp only [if_true, if_false, Bool.false_eq_true, reduceIte] at hl1 hl2
    go_enter Try.func11, Try.ntmps11
    go_wp2_with (first
      | (go_at_call 18; (with_reducible refine hl1.mono ?_); rintro e w1 ⟨rfl, hD1⟩; have hc1 := hcell _ hD1)
      | (go_at_call 25; (with_reducible refine (hl2 _ hD1).mono ?_); rintro e w' ⟨rfl, rfl⟩))
    go_ret
    exact ⟨rfl, _, _, Duo.back hF hD1⟩
set_option maxRecDepth 100000 in
set_option maxHeartbeats 8000000 in
theorem does_store (h : Duo w0 K B b b2 n n top m f f W) (kind at' size x : Int) (far : Bool) (s : ByteArray) (h1 : 0 ≤ kind ∧ kind ≤ 255) (h2 : 0 ≤ at' ∧ at' ≤ 18446744073709551615) (h3 : -9223372036854775808 ≤ size ∧ size ≤ 9223372036854775807) (h4 : 0 ≤ x ∧ x ≤ 18446744073709551615) (hk : kind % 6 = 1 ∨ kind % 6 = 2) :
    Calls Try.prog 11 #[.pointer (some ⟨b, 0, none⟩), .pointer (some ⟨b2, 0, none⟩), .agg #[.int .u8 kind, .int .u64 at', .bool far, .int .i64 size, .int .u64 x, .string s]] W fun e w' => e = .returned (.bool true) ∧ ∃ n' f', Duo w0 K B b b2 n' n' top m f' f' w' := by
  obtain ⟨p1, p2⟩ := h1
  obtain ⟨p3, p4⟩ := h2
  obtain ⟨p5, p6⟩ := h3
  have hF := h.frame.1
  have hD := h.lay (.cells #[.int .u8 kind, .int .u64 at', .bool far, .int .i64 size, .int .u64 x, .string s] 33)
  obtain ⟨a, ha, ha2⟩ : ∃ a : Nat, (a : Int) = (if far = true then at' else at' % 300000) ∧ a < 18446744073709551616 := ⟨(if far = true then at' else at' % 300000).toNat, by split <;> omega, by split <;> omega⟩
  obtain ⟨y, hy, hy2⟩ : ∃ y : Nat, (y : Int) = x ∧ y < 18446744073709551616 := ⟨x.toNat, by omega, by omega⟩
  obtain ⟨W1, hW1⟩ : ∃ W1, W1 = (W.alloc (.cells #[.int .u8 kind, .int .u64 at', .bool far, .int .i64 size, .int .u64 x, .string s] 33)) := ⟨_, rfl⟩
  rw [← hW1] at hD
  have hl1 := fun W' na fb (hD : Duo W1 (fun k => K k ∨ k = W.heap.size) B b b2 n na top m f fb W') => dstore hD a ha2 size p5 p6 y hy2
  have hl2 := fun W' na fa (hD : Duo W1 (fun k => K k ∨ k = W.heap.size) B b b2 na n top m fa f W') => drstore hD a ha2 size p5 p6 y hy2
  rw [ha, hy] at hl1 hl2
  clear h ha hy h4
  have hc3 : ∀ W' na nb fa fb, Duo W1 (fun k => K k ∨ k = W.heap.size) B b b2 na nb top m fa fb W' → W'.cell? ⟨W.heap.size, 3, none⟩ = some (.int .i64 size) := fun W' na nb fa fb hD => by
    rw [hD.cell (k := W.heap.size) (.inr rfl) 3, hW1, World.cell?_alloc_new]; rfl
  have hc4 : ∀ W' na nb fa fb, Duo W1 (fun k => K k ∨ k = W.heap.size) B b b2 na nb top m fa fb W' → W'.cell? ⟨W.heap.size, 4, none⟩ = some (.int .u64 x) := fun W' na nb fa fb hD => by
    rw [hD.cell (k := W.heap.size) (.inr rfl) 4, hW1, World.cell?_alloc_new]; rfl
  have hDd := hD.drew
  have q1 := hl1 _ _ _ hDd
  have q2 := hl2 _ _ _ hDd
  have hS0 : W1.cell? ⟨W.heap.size, 3, none⟩ = some (.int .i64 size) ∧ W1.cell? ⟨W.heap.size, 4, none⟩ = some (.int .u64 x) := ⟨hc3 _ _ _ _ _ hD, hc4 _ _ _ _ _ hD⟩
  rcases hk with hk | hk
  all_goals
    cases far
    all_goals
      try simp only [if_true, if_false, Bool.false_eq_true, reduceIte] at hl1 hl2 q1 q2
      go_enter Try.func11, Try.ntmps11
      go_wp2_with fail
      rw [← hW1]
      have HW1 := Lib.hid hW1
      clear hW1
      go_region_held3 (fun w => w.cell? ⟨W.heap.size, 3, none⟩ = some (.int .i64 size) ∧ w.cell? ⟨W.heap.size, 4, none⟩ = some (.int .u64 x))
        (first | (with_reducible exact hS0) | (with_reducible exact hS1) | (with_reducible exact hS2) | (with_reducible exact hS3) | go_keep)
        (first
          | (go_at_call 15; (with_reducible refine q1.mono ?_); rintro e w1 ⟨rfl, hD1⟩; have hS1 : w1.cell? ⟨W.heap.size, 3, none⟩ = some (.int .i64 size) ∧ w1.cell? ⟨W.heap.size, 4, none⟩ = some (.int .u64 x) := ⟨hc3 _ _ _ _ _ hD1, hc4 _ _ _ _ _ hD1⟩)
          | (go_at_call 22; (with_reducible refine q2.mono ?_); rintro e w2 ⟨rfl, hD2⟩; have hS2 : w2.cell? ⟨W.heap.size, 3, none⟩ = some (.int .i64 size) ∧ w2.cell? ⟨W.heap.size, 4, none⟩ = some (.int .u64 x) := ⟨hc3 _ _ _ _ _ hD2, hc4 _ _ _ _ _ hD2⟩)
          | (go_at_call 15; (with_reducible refine (hl1 _ _ _ hD2).mono ?_); rintro e w3 ⟨rfl, hD3⟩; have hS3 : w3.cell? ⟨W.heap.size, 3, none⟩ = some (.int .i64 size) ∧ w3.cell? ⟨W.heap.size, 4, none⟩ = some (.int .u64 x) := ⟨hc3 _ _ _ _ _ hD3, hc4 _ _ _ _ _ hD3⟩)
          | (go_at_call 22; (with_reducible refine (hl2 _ _ _ hD1).mono ?_); rintro e w3 ⟨rfl, hD3⟩; have hS3 : w3.cell? ⟨W.heap.size, 3, none⟩ = some (.int .i64 size) ∧ w3.cell? ⟨W.heap.size, 4, none⟩ = some (.int .u64 x) := ⟨hc3 _ _ _ _ _ hD3, hc4 _ _ _ _ _ hD3⟩))
      all_goals
        go_wp2
        go_ret
        exact ⟨rfl, _, _, Duo.back hF (HW1.out ▸ hD3)⟩
set_option maxRecDepth 100000 in
set_option maxHeartbeats 8000000 in
theorem does_write (h : Duo w0 K B b b2 n n top m f f W) (kind at' size x : Int) (far : Bool) (s : ByteArray) (h1 : 0 ≤ kind ∧ kind ≤ 255) (h2 : 0 ≤ at' ∧ at' ≤ 18446744073709551615) (h3 : -9223372036854775808 ≤ size ∧ size ≤ 9223372036854775807) (h4 : s.size < 9223372036854775808) (hk : kind % 6 = 4) :
    Calls Try.prog 11 #[.pointer (some ⟨b, 0, none⟩), .pointer (some ⟨b2, 0, none⟩), .agg #[.int .u8 kind, .int .u64 at', .bool far, .int .i64 size, .int .u64 x, .string s]] W fun e w' => e = .returned (.bool true) ∧ ∃ n' f', Duo w0 K B b b2 n' n' top m f' f' w' := by
  obtain ⟨p1, p2⟩ := h1
  obtain ⟨p3, p4⟩ := h2
  obtain ⟨p5, p6⟩ := h3
  have hF := h.frame.1
  have hD := h.lay (.cells #[.int .u8 kind, .int .u64 at', .bool far, .int .i64 size, .int .u64 x, .string s] 33)
  obtain ⟨a, ha, ha2⟩ : ∃ a : Nat, (a : Int) = (if far = true then at' else at' % 300000) ∧ a < 18446744073709551616 := ⟨(if far = true then at' else at' % 300000).toNat, by split <;> omega, by split <;> omega⟩
  obtain ⟨W1, hW1⟩ : ∃ W1, W1 = (W.alloc (.cells #[.int .u8 kind, .int .u64 at', .bool far, .int .i64 size, .int .u64 x, .string s] 33)) := ⟨_, rfl⟩
  rw [← hW1] at hD
  have hl1 := fun W' na fb (hD : Duo W1 (fun k => K k ∨ k = W.heap.size) B b b2 n na top m f fb W') => dwrite hD a ha2 s h4
  have hl2 := fun W' na fa (hD : Duo W1 (fun k => K k ∨ k = W.heap.size) B b b2 na n top m fa f W') => drwrite hD a ha2 s h4
  rw [ha] at hl1 hl2
  clear h ha
  have hc5 : ∀ W' na nb fa fb, Duo W1 (fun k => K k ∨ k = W.heap.size) B b b2 na nb top m fa fb W' → W'.cell? ⟨W.heap.size, 5, none⟩ = some (.string s) := fun W' na nb fa fb hD => by
    rw [hD.cell (k := W.heap.size) (.inr rfl) 5, hW1, World.cell?_alloc_new]; rfl
  have hDd := hD.drew
  have q1 := hl1 _ _ _ hDd
  have q2 := hl2 _ _ _ hDd
  have hS0 : W1.cell? ⟨W.heap.size, 5, none⟩ = some (.string s) := hc5 _ _ _ _ _ hD
  cases far
  all_goals
    try simp only [if_true, if_false, Bool.false_eq_true, reduceIte] at hl1 hl2 q1 q2
    go_enter Try.func11, Try.ntmps11
    go_wp2_with fail
    rw [← hW1]
    have HW1 := Lib.hid hW1
    clear hW1
    go_region_held3 (fun w => w.cell? ⟨W.heap.size, 5, none⟩ = some (.string s))
      (first | (with_reducible exact hS0) | (with_reducible exact hS1) | (with_reducible exact hS2) | (with_reducible exact hS3) | go_keep)
      (first
        | (go_at_call 14; (with_reducible refine q1.mono ?_); rintro e w1 ⟨rfl, hD1⟩; have hS1 : w1.cell? ⟨W.heap.size, 5, none⟩ = some (.string s) := hc5 _ _ _ _ _ hD1)
        | (go_at_call 24; (with_reducible refine q2.mono ?_); rintro e w2 ⟨rfl, hD2⟩; have hS2 : w2.cell? ⟨W.heap.size, 5, none⟩ = some (.string s) := hc5 _ _ _ _ _ hD2)
        | (go_at_call 14; (with_reducible refine (hl1 _ _ _ hD2).mono ?_); rintro e w3 ⟨rfl, hD3⟩; have hS3 : w3.cell? ⟨W.heap.size, 5, none⟩ = some (.string s) := hc5 _ _ _ _ _ hD3)
        | (go_at_call 24; (with_reducible refine (hl2 _ _ _ hD1).mono ?_); rintro e w3 ⟨rfl, hD3⟩; have hS3 : w3.cell? ⟨W.heap.size, 5, none⟩ = some (.string s) := hc5 _ _ _ _ _ hD3))
    all_goals
      go_wp2
      go_ret
      exact ⟨rfl, _, _, Duo.back hF (HW1.out ▸ hD3)⟩
set_option maxRecDepth 100000 in
set_option maxHeartbeats 8000000 in
theorem does_grow (h : Duo w0 K B b b2 n n top m f f W) (htop : top = topOf m) (hm : -1 ≤ m ∧ m ≤ 9223372036854775807) (kind at' size x : Int) (far : Bool) (s : ByteArray) (h1 : 0 ≤ kind ∧ kind ≤ 255) (h2 : 0 ≤ at' ∧ at' ≤ 18446744073709551615) (h3 : -9223372036854775808 ≤ size ∧ size ≤ 9223372036854775807) (h4 : 0 ≤ x ∧ x ≤ 4) (hk : kind % 6 = 0) :
    Calls Try.prog 11 #[.pointer (some ⟨b, 0, none⟩), .pointer (some ⟨b2, 0, none⟩), .agg #[.int .u8 kind, .int .u64 at', .bool far, .int .i64 size, .int .u64 x, .string s]] W fun e w' => e = .returned (.bool true) ∧ ∃ n' f', Duo w0 K B b b2 n' n' top m f' f' w' := by
  obtain ⟨p1, p2⟩ := h1
  obtain ⟨p3, p4⟩ := h2
  obtain ⟨p5, p6⟩ := h3
  have hF := h.frame.1
  have hD := h.lay (.cells #[.int .u8 kind, .int .u64 at', .bool far, .int .i64 size, .int .u64 x, .string s] 33)
  obtain ⟨a, ha, ha2⟩ : ∃ a : Nat, (a : Int) = (if far = true then at' else at' % 300000) ∧ a < 18446744073709551616 := ⟨(if far = true then at' else at' % 300000).toNat, by split <;> omega, by split <;> omega⟩
  obtain ⟨y, hy, hy2⟩ : ∃ y : Nat, (y : Int) = x ∧ y ≤ 4 := ⟨x.toNat, by omega, by omega⟩
  obtain ⟨W1, hW1⟩ : ∃ W1, W1 = (W.alloc (.cells #[.int .u8 kind, .int .u64 at', .bool far, .int .i64 size, .int .u64 x, .string s] 33)) := ⟨_, rfl⟩
  rw [← hW1] at hD
  have hl1 := fun W' na fb (hD : Duo W1 (fun k => K k ∨ k = W.heap.size) B b b2 n na top m f fb W') => dgrow hD y hy2
  have hl2 := fun W' na fa (hD : Duo W1 (fun k => K k ∨ k = W.heap.size) B b b2 na n top m fa f W') => drgrow hD htop hm y hy2
  rw [hy] at hl1 hl2
  obtain ⟨r, hr⟩ : ∃ r : Int, (if n + y ≤ top then (n : Int) else -1) = r := ⟨_, rfl⟩
  rw [hr] at hl1 hl2
  obtain ⟨x0, x1⟩ := h4
  have qx : IntKind.u32.wrap x = x := by rw [IntKind.wrap_u32]; omega
  clear h ha hy hm htop hr
  have hc4 : ∀ W' na nb fa fb, Duo W1 (fun k => K k ∨ k = W.heap.size) B b b2 na nb top m fa fb W' → W'.cell? ⟨W.heap.size, 4, none⟩ = some (.int .u64 x) := fun W' na nb fa fb hD => by
    rw [hD.cell (k := W.heap.size) (.inr rfl) 4, hW1, World.cell?_alloc_new]; rfl
  have hDd := hD.drew
  have q1 := hl1 _ _ _ hDd
  have q2 := hl2 _ _ _ hDd
  have hS0 : W1.cell? ⟨W.heap.size, 4, none⟩ = some (.int .u64 x) := hc4 _ _ _ _ _ hD
  cases far
  all_goals
    try simp only [if_true, if_false, Bool.false_eq_true, reduceIte] at hl1 hl2 q1 q2
    go_enter Try.func11, Try.ntmps11
    go_wp2_with fail
    rw [← hW1]
    have HW1 := Lib.hid hW1
    clear hW1
    go_region_held3 (fun w => w.cell? ⟨W.heap.size, 4, none⟩ = some (.int .u64 x))
      (first | (with_reducible exact hS0) | (with_reducible exact hS1) | (with_reducible exact hS2) | (with_reducible exact hS3) | go_keep)
      (first
        | (go_at_call 16; (with_reducible refine q1.mono ?_); rintro e w1 ⟨rfl, hD1⟩; have hS1 : w1.cell? ⟨W.heap.size, 4, none⟩ = some (.int .u64 x) := hc4 _ _ _ _ _ hD1)
        | (go_at_call 21; (with_reducible refine q2.mono ?_); rintro e w2 ⟨rfl, hD2⟩; have hS2 : w2.cell? ⟨W.heap.size, 4, none⟩ = some (.int .u64 x) := hc4 _ _ _ _ _ hD2)
        | (go_at_call 16; (with_reducible refine (hl1 _ _ _ hD2).mono ?_); rintro e w3 ⟨rfl, hD3⟩; have hS3 : w3.cell? ⟨W.heap.size, 4, none⟩ = some (.int .u64 x) := hc4 _ _ _ _ _ hD3)
        | (go_at_call 21; (with_reducible refine (hl2 _ _ _ hD1).mono ?_); rintro e w3 ⟨rfl, hD3⟩; have hS3 : w3.cell? ⟨W.heap.size, 4, none⟩ = some (.int .u64 x) := hc4 _ _ _ _ _ hD3))
    all_goals
      go_wp2
      go_ret
      exact ⟨rfl, _, _, Duo.back hF (HW1.out ▸ hD3)⟩
end Go.Proofs.Ytaihmcengecmiaa
