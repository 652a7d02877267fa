/-
  Facts and contracts that the proof calls.
-/
import Derived.Shelf.Slices.Turned
import Derived.Shelf.SlicesE.IndexFunc
import Derived.Test.YtomffpibdinkaaaGreatDoorVbOpFields
namespace Go.Proofs.YtomffpibdinkaaaGreatDoor
set_option maxRecDepth 100000
set_option maxHeartbeats 16000000
open Go.Shelf Go.RowKit Go.Lib
def laysH8_ren : Go.Shelf.Ren := ⟨fun | 8 => 100 | 6 => 121 | n => n, fun | 22 => 36 | 23 => 3 | 25 => 94 | 4 => 4 | 3 => 3 | 0 => 0 | n => n, fun | n => n⟩
theorem laysH8 : Go.Proofs.SlLaysH.n8 Tryz.prog laysH8_ren := {
  mixed := by kernel_rfl,
  f6 := ⟨Tryz.f121.name, by decide, Tryz.func121.trans (congrArg some (by kernel_rfl))⟩,
  f8 := ⟨Tryz.f100.name, by decide, Tryz.func100.trans (congrArg some (by kernel_rfl))⟩,
  t0 := Tryz.underlying0,
  a0 := Tryz.isAgg0,
  z0 := Tryz.sizeOf0,
  v0 := Tryz.zeroValue0,
  t3 := Tryz.underlying3,
  a3 := Tryz.isAgg3,
  z3 := Tryz.sizeOf3,
  v3 := Tryz.zeroValue3,
  t4 := Tryz.underlying4,
  a4 := Tryz.isAgg4,
  z4 := Tryz.sizeOf4,
  v4 := Tryz.zeroValue4,
  t22 := Tryz.underlying36,
  a22 := Tryz.isAgg36,
  z22 := Tryz.sizeOf36,
  v22 := Tryz.zeroValue36,
  a23 := Tryz.isAgg3,
  z23 := Tryz.sizeOf3,
  t25 := Tryz.underlying94,
  a25 := Tryz.isAgg94,
  z25 := Tryz.sizeOf94,
  v25 := Tryz.zeroValue94 }
theorem lib_some (p : Int → Bool) (g : Nat) (lb : Array Value) (eg : ∀ args w, (callFunc g args).run Tryz.prog w = .ok (.enter g args) w) (b off n c : Nat) (zs : List Int) (w : World)
    (hp : PredAt Tryz.prog g lb (fun x : Int => .int .i64 x) p w) (hz : n ≤ zs.length) (hbig : n ≤ 9223372036854775807) (hc : ∀ j, j < zs.length → w.cell? ⟨b, off + j, none⟩ = some (.int .i64 zs[j]!)) :
    Calls Tryz.prog 100 #[.slice (some ⟨b, off, none⟩) n c, .func (.func g) #[] lb] w fun e w' => e = .returned (.bool ((zs.take n).any p)) ∧ ∃ q, w' = w.drewN q :=
  AnyE.slices_ContainsFunc laysH8 (fun x : Int => .int .i64 x) p g lb eg b off n c zs w hp hz hbig hc
theorem lib_some_none (a : Option Addr) (c : Nat) (fv : Value) (w : World) :
    Calls Tryz.prog 100 #[.slice a 0 c, fv] w fun e w' => e = .returned (.bool false) ∧ w' = w :=
  AnyE.slices_ContainsFunc_empty laysH8 a c fv w
end Go.Proofs.YtomffpibdinkaaaGreatDoor
namespace Go.Proofs.YtomffpibdinkaaaGreatDoor
set_option maxRecDepth 100000
set_option maxHeartbeats 16000000
open Go.RowKit
theorem op_word (n : Int) (w : World) : Calls Tryz.prog 69 #[.int .i64 n] w fun e w' => e = .returned (.bool (word n)) ∧ w = w' := by
  have e1 : IntKind.u32.wrap n = n % 4294967296 := IntKind.wrap_u32 n
  have e2 : IntKind.i64.wrap (n % 4294967296) = n % 4294967296 := by rw [IntKind.wrap_i64]; omega
  by_cases h : 0 ≤ n ∧ n < 4294967296
  · have e : word n = true := by simp [word]; omega
    rw [e]
    have e3 : n % 4294967296 = n := by omega
    rw [e3] at e1 e2
    go_enter Tryz.func69, Tryz.ntmps69
    go_wp2
    go_ret
    exact ⟨by first | rfl | exact ret_bl (by simp; try omega), rfl⟩
  · have e : word n = false := by simp [word]; omega
    rw [e]
    have e3 : (n == n % 4294967296) = false := beq_eq_false_iff_ne.2 (by omega)
    go_enter Tryz.func69, Tryz.ntmps69
    go_wp2
    go_ret
    exact ⟨by first | rfl | exact ret_bl (by simp; try omega), rfl⟩
theorem op_unword (n : Int) (w : World) : Calls Tryz.prog 101 #[.int .i64 n] w fun e w' => e = .returned (.bool (!word n)) ∧ w = w' := by
  have c := op_word n
  generalize word n = x at c ⊢
  go_enter Tryz.func101, Tryz.ntmps101
  go_wp2_with (go_at_call 69; (with_reducible refine (c _).mono ?_); rintro e w' ⟨rfl, rfl⟩)
  go_ret
  exact ⟨rfl, rfl⟩
theorem any_unword (ls : List Int) : (!ls.any fun n => !word n) = ls.all word := by
  induction ls with
  | nil => rfl
  | cons x ls ih => simp only [List.any_cons, List.all_cons, Bool.not_or, Bool.not_not, ih]
theorem op_words (p : Option Addr) (n cap : Nat) (ls : List Int) (hn : n = ls.length) (hmx : n ≤ 17592186044416) (w : World) (hls : IntsAt w p ls) :
    Calls Tryz.prog 70 #[.slice p n cap] w fun e w' => e = .returned (.bool (decide (n ≤ 4096) && ls.all word)) ∧ Below w.heap.size w w' := by
  have eg : ∀ args w, (callFunc 101 args).run Tryz.prog w = .ok (.enter 101 args) w := enters_of Tryz.func101 (by kernel_rfl) rfl
  have hp : PredAt Tryz.prog 101 #[] (fun x : Int => .int .i64 x) (fun x => !word x) w := fun W x _ => (op_unword x W).mono fun e w' ⟨he, hw⟩ => ⟨he, 0, hw.symm⟩
  by_cases h4 : n ≤ 4096
  · have h4' : (n : Int) ≤ 4096 := by omega
    have hd : (decide (n ≤ 4096) && ls.all word) = ls.all word := by simp [h4]
    rw [hd]
    have cs : Calls Tryz.prog 100 #[.slice p n cap, .func (.func 101) #[] #[]] w fun e w' => e = .returned (.bool (ls.any fun n => !word n)) ∧ ∃ q, w' = w.drewN q := by
      cases n with
      | zero =>
        obtain rfl : ls = [] := List.eq_nil_of_length_eq_zero (by omega)
        exact (lib_some_none p cap _ w).mono fun e w' ⟨he, hw⟩ => ⟨he, 0, hw⟩
      | succ n =>
        obtain ⟨b, o, rfl, hb, _⟩ := hls 0 (by omega)
        have c := lib_some (fun x => !word x) 101 #[] eg b o (n + 1) cap ls w hp (by omega) (by omega) (fun j hj => by
          obtain ⟨b', o', e, _, hc⟩ := hls j hj
          injection e with e; injection e with e1 e2; subst e1; subst e2
          rw [hc]; simp [hj])
        rwa [show ls.take (n + 1) = ls by rw [hn, List.take_length]] at c
    rw [← any_unword]
    generalize (ls.any fun n => !word n) = x at cs ⊢
    clear hls hp eg hd hn
    go_enter Tryz.func70, Tryz.ntmps70
    go_wp2_with (go_at_call 100; (with_reducible refine cs.mono ?_); rintro e w' ⟨rfl, q, rfl⟩)
    go_ret
    exact ⟨by first | rfl | exact ret_bl (by simp), below_drewN' (Below.refl _ w) q⟩
  · have h4' : ¬ (n : Int) ≤ 4096 := by omega
    have hd : (decide (n ≤ 4096) && ls.all word) = false := by simp [h4]
    rw [hd]
    clear hls hp eg hd hn
    go_enter Tryz.func70, Tryz.ntmps70
    go_wp2
    go_ret
    exact ⟨by first | rfl | exact ret_bl (by simp), Below.refl _ w⟩
end Go.Proofs.YtomffpibdinkaaaGreatDoor
namespace Go.Proofs.YtomffpibdinkaaaGreatDoor
set_option maxRecDepth 100000
set_option maxHeartbeats 16000000
open Go.RowKit
theorem fit_none {op : Int} (h0 : -9223372036854775808 ≤ op ∧ op ≤ 9223372036854775807) (h : byCode op = none) (w : World) (hL : Spaces w) :
    Calls Tryz.prog 68 #[.int .i64 op] w fun e w' => e = .returned (.tuple #[.agg #[.string ⟨#[]⟩, .int .i64 0, .string ⟨#[]⟩, .string ⟨#[]⟩], .bool false]) ∧ Below w.heap.size w w' := by
  have c := op_of op h0.1 h0.2 w hL
  rw [h] at c; exact c
theorem fit_some {op : Int} {r : Rw} (h0 : -9223372036854775808 ≤ op ∧ op ≤ 9223372036854775807) (h : byCode op = some r) (w : World) (hL : Spaces w) :
    Calls Tryz.prog 68 #[.int .i64 op] w fun e w' => e = .returned (.tuple #[.agg #[.string r.name, .int .i64 r.shape, .string r.params, .string r.results], .bool true]) ∧ Below w.heap.size w w' := by
  have c := op_of op h0.1 h0.2 w hL
  rw [h] at c; exact c
theorem box_cells {w w1 : World} {a b c d : Value} {t : TypeId} (hB : Below (w.alloc (.cells #[a, b, c, d] t)).heap.size (w.alloc (.cells #[a, b, c, d] t)) w1) :
    w1.cell? ⟨w.heap.size, 0, none⟩ = some a ∧ w1.cell? ⟨w.heap.size, 1, none⟩ = some b ∧ w1.cell? ⟨w.heap.size, 2, none⟩ = some c ∧ w1.cell? ⟨w.heap.size, 3, none⟩ = some d := by
  have h := res_cells hB
  exact ⟨h.1, h.2.1, h.2.2.1, h.2.2.2.1⟩
theorem w32_iff (a : Int) : a = wrap64 (wrap32 a) ↔ -2147483648 ≤ a ∧ a < 2147483648 := by
  unfold wrap32 wrap64
  omega
theorem consts : ∀ r ∈ allRows, r.shape = 7 → (r.code = 66 ∧ r.results = ⟨#[126]⟩) ∨ (r.code = 65 ∧ r.results = ⟨#[127]⟩) := by decide +kernel
theorem const_of {op : Int} {r : Rw} (h : byCode op = some r) (hs : r.shape = 7) : (op = 66 ∧ r.results = ⟨#[126]⟩) ∨ (op = 65 ∧ r.results = ⟨#[127]⟩) := by
  have hm := List.mem_of_find?_eq_some h
  have hc : r.code = op := by have := List.find?_some h; simpa using this
  have := consts r hm hs
  rwa [hc] at this
theorem fit_right_none (op a b : Int) (p : Option Addr) (n cap : Nat) (h0 : -9223372036854775808 ≤ op ∧ op ≤ 9223372036854775807) (h : byCode op = none) (w : World) (hL : Spaces w) :
    Calls Tryz.prog 51 #[.agg #[.int .i64 op, .int .i64 a, .int .i64 b, .slice p n cap]] w fun e w' => e = .returned (.bool (false)) ∧ Below w.heap.size w w' := by
  have c := fit_none h0 h
  clear h
  go_enter Tryz.func51, Tryz.ntmps51
  go_wp2_with (first | (go_at_call 68; (with_reducible refine (c _ (hL.alloc _)).mono ?_); rintro e w1 ⟨rfl, hB⟩; have ⟨r0, r1, r2, r3⟩ := box_cells hB; have hs1 : w.heap.size < w1.heap.size := Nat.lt_of_lt_of_le (by simp) hB.size; have a0 := fun o => (World.cell?_alloc_lt w1 o (⟨w.heap.size, 0, none⟩ : Addr) hs1).trans r0; have a1 := fun o => (World.cell?_alloc_lt w1 o (⟨w.heap.size, 1, none⟩ : Addr) hs1).trans r1; have a2 := fun o => (World.cell?_alloc_lt w1 o (⟨w.heap.size, 2, none⟩ : Addr) hs1).trans r2; have a3 := fun o => (World.cell?_alloc_lt w1 o (⟨w.heap.size, 3, none⟩ : Addr) hs1).trans r3))
  all_goals go_ret
  all_goals exact ⟨by first | rfl | exact ret_bl (by simp), (((Below.refl _ w).alloc (Nat.le_refl _) _).trans (hB.mono (by simp))).alloc (Nat.le_of_lt hs1) _⟩
theorem fit_right_l (op a b : Int) (p : Option Addr) (n cap : Nat) (h0 : -9223372036854775808 ≤ op ∧ op ≤ 9223372036854775807) (r : Rw) (h : byCode op = some r) (hs : r.shape ≠ 3) (hn : n ≠ 0) (w : World) (hL : Spaces w) :
    Calls Tryz.prog 51 #[.agg #[.int .i64 op, .int .i64 a, .int .i64 b, .slice p n cap]] w fun e w' => e = .returned (.bool (false)) ∧ Below w.heap.size w w' := by
  have c := fit_some h0 h
  have hbd := byCode_bd h
  clear h
  obtain ⟨rc, rn, s, rp, rr⟩ := r
  simp only at c hbd hs
  have hn1 : (0 : Int) < n := by omega
  have hsb : (s != 3) = true := by simpa using hs
  go_enter Tryz.func51, Tryz.ntmps51
  go_wp2_with (first | (go_at_call 68; (with_reducible refine (c _ (hL.alloc _)).mono ?_); rintro e w1 ⟨rfl, hB⟩; have ⟨r0, r1, r2, r3⟩ := box_cells hB; have hs1 : w.heap.size < w1.heap.size := Nat.lt_of_lt_of_le (by simp) hB.size; have a0 := fun o => (World.cell?_alloc_lt w1 o (⟨w.heap.size, 0, none⟩ : Addr) hs1).trans r0; have a1 := fun o => (World.cell?_alloc_lt w1 o (⟨w.heap.size, 1, none⟩ : Addr) hs1).trans r1; have a2 := fun o => (World.cell?_alloc_lt w1 o (⟨w.heap.size, 2, none⟩ : Addr) hs1).trans r2; have a3 := fun o => (World.cell?_alloc_lt w1 o (⟨w.heap.size, 3, none⟩ : Addr) hs1).trans r3))
  all_goals go_ret
  all_goals exact ⟨by first | rfl | exact ret_bl (by simp), (((Below.refl _ w).alloc (Nat.le_refl _) _).trans (hB.mono (by simp))).alloc (Nat.le_of_lt hs1) _⟩
theorem fit_right_b (op a b : Int) (p : Option Addr) (n cap : Nat) (h0 : -9223372036854775808 ≤ op ∧ op ≤ 9223372036854775807) (r : Rw) (h : byCode op = some r) (hs : r.shape ≠ 5) (hb : b ≠ 0) (hl : n = 0 ∨ r.shape = 3) (w : World) (hL : Spaces w) :
    Calls Tryz.prog 51 #[.agg #[.int .i64 op, .int .i64 a, .int .i64 b, .slice p n cap]] w fun e w' => e = .returned (.bool (false)) ∧ Below w.heap.size w w' := by
  rcases hl with hl | hl
  all_goals
    have c := fit_some h0 h
    have hbd := byCode_bd h
    clear h
    obtain ⟨rc, rn, s, rp, rr⟩ := r
    simp only at c hbd hs
    have hsb : (s != 5) = true := by simpa using hs
    have hbb : (b != 0) = true := by simpa using hb
    go_enter Tryz.func51, Tryz.ntmps51
    go_wp2_with (first | (go_at_call 68; (with_reducible refine (c _ (hL.alloc _)).mono ?_); rintro e w1 ⟨rfl, hB⟩; have ⟨r0, r1, r2, r3⟩ := box_cells hB; have hs1 : w.heap.size < w1.heap.size := Nat.lt_of_lt_of_le (by simp) hB.size; have a0 := fun o => (World.cell?_alloc_lt w1 o (⟨w.heap.size, 0, none⟩ : Addr) hs1).trans r0; have a1 := fun o => (World.cell?_alloc_lt w1 o (⟨w.heap.size, 1, none⟩ : Addr) hs1).trans r1; have a2 := fun o => (World.cell?_alloc_lt w1 o (⟨w.heap.size, 2, none⟩ : Addr) hs1).trans r2; have a3 := fun o => (World.cell?_alloc_lt w1 o (⟨w.heap.size, 3, none⟩ : Addr) hs1).trans r3))
    all_goals go_ret
    all_goals exact ⟨by first | rfl | exact ret_bl (by simp), (((Below.refl _ w).alloc (Nat.le_refl _) _).trans (hB.mono (by simp))).alloc (Nat.le_of_lt hs1) _⟩
theorem fit_right_0 (op a b : Int) (p : Option Addr) (n cap : Nat) (h0 : -9223372036854775808 ≤ op ∧ op ≤ 9223372036854775807) (r : Rw) (h : byCode op = some r) (hs : r.shape = 0) (hb : b = 0) (hn : n = 0) (w : World) (hL : Spaces w) :
    Calls Tryz.prog 51 #[.agg #[.int .i64 op, .int .i64 a, .int .i64 b, .slice p n cap]] w fun e w' => e = .returned (.bool (decide (a = 0))) ∧ Below w.heap.size w w' := by
  have c := fit_some h0 h
  have hbd := byCode_bd h
  clear h
  obtain ⟨rc, rn, s, rp, rr⟩ := r
  simp only at c hbd hs
  subst hb
  subst hn
  subst hs
  go_enter Tryz.func51, Tryz.ntmps51
  go_wp2_with (first | (go_at_call 68; (with_reducible refine (c _ (hL.alloc _)).mono ?_); rintro e w1 ⟨rfl, hB⟩; have ⟨r0, r1, r2, r3⟩ := box_cells hB; have hs1 : w.heap.size < w1.heap.size := Nat.lt_of_lt_of_le (by simp) hB.size; have a0 := fun o => (World.cell?_alloc_lt w1 o (⟨w.heap.size, 0, none⟩ : Addr) hs1).trans r0; have a1 := fun o => (World.cell?_alloc_lt w1 o (⟨w.heap.size, 1, none⟩ : Addr) hs1).trans r1; have a2 := fun o => (World.cell?_alloc_lt w1 o (⟨w.heap.size, 2, none⟩ : Addr) hs1).trans r2; have a3 := fun o => (World.cell?_alloc_lt w1 o (⟨w.heap.size, 3, none⟩ : Addr) hs1).trans r3))
  all_goals go_ret
  all_goals exact ⟨by first | rfl | exact ret_bl (by simp [eq_decide]), (((Below.refl _ w).alloc (Nat.le_refl _) _).trans (hB.mono (by simp))).alloc (Nat.le_of_lt hs1) _⟩
theorem fit_right_6 (op a b : Int) (p : Option Addr) (n cap : Nat) (h0 : -9223372036854775808 ≤ op ∧ op ≤ 9223372036854775807) (r : Rw) (h : byCode op = some r) (hs : r.shape = 6) (hb : b = 0) (hn : n = 0) (w : World) (hL : Spaces w) :
    Calls Tryz.prog 51 #[.agg #[.int .i64 op, .int .i64 a, .int .i64 b, .slice p n cap]] w fun e w' => e = .returned (.bool (decide (a = 0))) ∧ Below w.heap.size w w' := by
  have c := fit_some h0 h
  have hbd := byCode_bd h
  clear h
  obtain ⟨rc, rn, s, rp, rr⟩ := r
  simp only at c hbd hs
  subst hb
  subst hn
  subst hs
  go_enter Tryz.func51, Tryz.ntmps51
  go_wp2_with (first | (go_at_call 68; (with_reducible refine (c _ (hL.alloc _)).mono ?_); rintro e w1 ⟨rfl, hB⟩; have ⟨r0, r1, r2, r3⟩ := box_cells hB; have hs1 : w.heap.size < w1.heap.size := Nat.lt_of_lt_of_le (by simp) hB.size; have a0 := fun o => (World.cell?_alloc_lt w1 o (⟨w.heap.size, 0, none⟩ : Addr) hs1).trans r0; have a1 := fun o => (World.cell?_alloc_lt w1 o (⟨w.heap.size, 1, none⟩ : Addr) hs1).trans r1; have a2 := fun o => (World.cell?_alloc_lt w1 o (⟨w.heap.size, 2, none⟩ : Addr) hs1).trans r2; have a3 := fun o => (World.cell?_alloc_lt w1 o (⟨w.heap.size, 3, none⟩ : Addr) hs1).trans r3))
  all_goals go_ret
  all_goals exact ⟨by first | rfl | exact ret_bl (by simp [eq_decide]), (((Below.refl _ w).alloc (Nat.le_refl _) _).trans (hB.mono (by simp))).alloc (Nat.le_of_lt hs1) _⟩
theorem fit_right_1 (op a b : Int) (p : Option Addr) (n cap : Nat) (h0 : -9223372036854775808 ≤ op ∧ op ≤ 9223372036854775807) (r : Rw) (h : byCode op = some r) (hs : r.shape = 1) (hb : b = 0) (hn : n = 0) (w : World) (hL : Spaces w) :
    Calls Tryz.prog 51 #[.agg #[.int .i64 op, .int .i64 a, .int .i64 b, .slice p n cap]] w fun e w' => e = .returned (.bool (decide (a = 64 ∨ a = 126 ∨ a = 127))) ∧ Below w.heap.size w w' := by
  have c := fit_some h0 h
  have hbd := byCode_bd h
  clear h
  obtain ⟨rc, rn, s, rp, rr⟩ := r
  simp only at c hbd hs
  subst hb
  subst hn
  subst hs
  go_enter Tryz.func51, Tryz.ntmps51
  go_wp2_with (first | (go_at_call 68; (with_reducible refine (c _ (hL.alloc _)).mono ?_); rintro e w1 ⟨rfl, hB⟩; have ⟨r0, r1, r2, r3⟩ := box_cells hB; have hs1 : w.heap.size < w1.heap.size := Nat.lt_of_lt_of_le (by simp) hB.size; have a0 := fun o => (World.cell?_alloc_lt w1 o (⟨w.heap.size, 0, none⟩ : Addr) hs1).trans r0; have a1 := fun o => (World.cell?_alloc_lt w1 o (⟨w.heap.size, 1, none⟩ : Addr) hs1).trans r1; have a2 := fun o => (World.cell?_alloc_lt w1 o (⟨w.heap.size, 2, none⟩ : Addr) hs1).trans r2; have a3 := fun o => (World.cell?_alloc_lt w1 o (⟨w.heap.size, 3, none⟩ : Addr) hs1).trans r3))
  all_goals go_ret
  all_goals exact ⟨by first | rfl | exact ret_bl (by rw [Bool.eq_iff_iff]; simp [eq_decide] <;> omega), (((Below.refl _ w).alloc (Nat.le_refl _) _).trans (hB.mono (by simp))).alloc (Nat.le_of_lt hs1) _⟩
theorem fit_right_2 (op a b : Int) (p : Option Addr) (n cap : Nat) (h0 : -9223372036854775808 ≤ op ∧ op ≤ 9223372036854775807) (r : Rw) (h : byCode op = some r) (hs : r.shape = 2) (hb : b = 0) (hn : n = 0) (w : World) (hL : Spaces w) :
    Calls Tryz.prog 51 #[.agg #[.int .i64 op, .int .i64 a, .int .i64 b, .slice p n cap]] w fun e w' => e = .returned (.bool (word a)) ∧ Below w.heap.size w w' := by
  have c := fit_some h0 h
  have hbd := byCode_bd h
  clear h
  obtain ⟨rc, rn, s, rp, rr⟩ := r
  simp only at c hbd hs
  subst hb
  subst hn
  subst hs
  have cw := op_word a
  generalize word a = x at cw ⊢
  go_enter Tryz.func51, Tryz.ntmps51
  go_wp2_with (first | (go_at_call 68; (with_reducible refine (c _ (hL.alloc _)).mono ?_); rintro e w1 ⟨rfl, hB⟩; have ⟨r0, r1, r2, r3⟩ := box_cells hB; have hs1 : w.heap.size < w1.heap.size := Nat.lt_of_lt_of_le (by simp) hB.size; have a0 := fun o => (World.cell?_alloc_lt w1 o (⟨w.heap.size, 0, none⟩ : Addr) hs1).trans r0; have a1 := fun o => (World.cell?_alloc_lt w1 o (⟨w.heap.size, 1, none⟩ : Addr) hs1).trans r1; have a2 := fun o => (World.cell?_alloc_lt w1 o (⟨w.heap.size, 2, none⟩ : Addr) hs1).trans r2; have a3 := fun o => (World.cell?_alloc_lt w1 o (⟨w.heap.size, 3, none⟩ : Addr) hs1).trans r3) | (go_at_call 69; (with_reducible refine (cw _).mono ?_); rintro e w' ⟨rfl, rfl⟩))
  all_goals go_ret
  all_goals exact ⟨by first | rfl | exact ret_bl (by simp), (((Below.refl _ w).alloc (Nat.le_refl _) _).trans (hB.mono (by simp))).alloc (Nat.le_of_lt hs1) _⟩
theorem fit_right_4 (op a b : Int) (p : Option Addr) (n cap : Nat) (h0 : -9223372036854775808 ≤ op ∧ op ≤ 9223372036854775807) (r : Rw) (h : byCode op = some r) (hs : r.shape = 4) (hb : b = 0) (hn : n = 0) (w : World) (hL : Spaces w) :
    Calls Tryz.prog 51 #[.agg #[.int .i64 op, .int .i64 a, .int .i64 b, .slice p n cap]] w fun e w' => e = .returned (.bool (word a)) ∧ Below w.heap.size w w' := by
  have c := fit_some h0 h
  have hbd := byCode_bd h
  clear h
  obtain ⟨rc, rn, s, rp, rr⟩ := r
  simp only at c hbd hs
  subst hb
  subst hn
  subst hs
  have cw := op_word a
  generalize word a = x at cw ⊢
  go_enter Tryz.func51, Tryz.ntmps51
  go_wp2_with (first | (go_at_call 68; (with_reducible refine (c _ (hL.alloc _)).mono ?_); rintro e w1 ⟨rfl, hB⟩; have ⟨r0, r1, r2, r3⟩ := box_cells hB; have hs1 : w.heap.size < w1.heap.size := Nat.lt_of_lt_of_le (by simp) hB.size; have a0 := fun o => (World.cell?_alloc_lt w1 o (⟨w.heap.size, 0, none⟩ : Addr) hs1).trans r0; have a1 := fun o => (World.cell?_alloc_lt w1 o (⟨w.heap.size, 1, none⟩ : Addr) hs1).trans r1; have a2 := fun o => (World.cell?_alloc_lt w1 o (⟨w.heap.size, 2, none⟩ : Addr) hs1).trans r2; have a3 := fun o => (World.cell?_alloc_lt w1 o (⟨w.heap.size, 3, none⟩ : Addr) hs1).trans r3) | (go_at_call 69; (with_reducible refine (cw _).mono ?_); rintro e w' ⟨rfl, rfl⟩))
  all_goals go_ret
  all_goals exact ⟨by first | rfl | exact ret_bl (by simp), (((Below.refl _ w).alloc (Nat.le_refl _) _).trans (hB.mono (by simp))).alloc (Nat.le_of_lt hs1) _⟩
theorem fit_right_50 (op a b : Int) (p : Option Addr) (n cap : Nat) (h0 : -9223372036854775808 ≤ op ∧ op ≤ 9223372036854775807) (r : Rw) (h : byCode op = some r) (hs : r.shape = 5) (hb : b = 0) (hn : n = 0) (w : World) (hL : Spaces w) :
    Calls Tryz.prog 51 #[.agg #[.int .i64 op, .int .i64 a, .int .i64 b, .slice p n cap]] w fun e w' => e = .returned (.bool (word a && word 0)) ∧ Below w.heap.size w w' := by
  have c := fit_some h0 h
  have hbd := byCode_bd h
  clear h
  obtain ⟨rc, rn, s, rp, rr⟩ := r
  simp only at c hbd hs
  subst hb
  subst hn
  subst hs
  have cw := op_word a
  have cv := op_word 0
  generalize word a = x at cw ⊢
  generalize word 0 = y at cv ⊢
  cases x
  all_goals
    go_enter Tryz.func51, Tryz.ntmps51
    go_wp2_with (first | (go_at_call 68; (with_reducible refine (c _ (hL.alloc _)).mono ?_); rintro e w1 ⟨rfl, hB⟩; have ⟨r0, r1, r2, r3⟩ := box_cells hB; have hs1 : w.heap.size < w1.heap.size := Nat.lt_of_lt_of_le (by simp) hB.size; have a0 := fun o => (World.cell?_alloc_lt w1 o (⟨w.heap.size, 0, none⟩ : Addr) hs1).trans r0; have a1 := fun o => (World.cell?_alloc_lt w1 o (⟨w.heap.size, 1, none⟩ : Addr) hs1).trans r1; have a2 := fun o => (World.cell?_alloc_lt w1 o (⟨w.heap.size, 2, none⟩ : Addr) hs1).trans r2; have a3 := fun o => (World.cell?_alloc_lt w1 o (⟨w.heap.size, 3, none⟩ : Addr) hs1).trans r3) | (go_at_call 69; (with_reducible refine (cw _).mono ?_); rintro e w' ⟨rfl, rfl⟩) | (go_at_call 69; (with_reducible refine (cv _).mono ?_); rintro e w' ⟨rfl, rfl⟩))
    all_goals go_ret
    all_goals exact ⟨by first | rfl | exact ret_bl (by simp), (((Below.refl _ w).alloc (Nat.le_refl _) _).trans (hB.mono (by simp))).alloc (Nat.le_of_lt hs1) _⟩
theorem fit_right_5b (op a b : Int) (p : Option Addr) (n cap : Nat) (h0 : -9223372036854775808 ≤ op ∧ op ≤ 9223372036854775807) (r : Rw) (h : byCode op = some r) (hs : r.shape = 5) (hb : b ≠ 0) (hn : n = 0) (w : World) (hL : Spaces w) :
    Calls Tryz.prog 51 #[.agg #[.int .i64 op, .int .i64 a, .int .i64 b, .slice p n cap]] w fun e w' => e = .returned (.bool (word a && word b)) ∧ Below w.heap.size w w' := by
  have c := fit_some h0 h
  have hbd := byCode_bd h
  clear h
  obtain ⟨rc, rn, s, rp, rr⟩ := r
  simp only at c hbd hs
  have hbb : (b != 0) = true := by simp [hb]
  subst hn
  subst hs
  have cw := op_word a
  have cv := op_word b
  generalize word a = x at cw ⊢
  generalize word b = y at cv ⊢
  cases x
  all_goals
    go_enter Tryz.func51, Tryz.ntmps51
    go_wp2_with (first | (go_at_call 68; (with_reducible refine (c _ (hL.alloc _)).mono ?_); rintro e w1 ⟨rfl, hB⟩; have ⟨r0, r1, r2, r3⟩ := box_cells hB; have hs1 : w.heap.size < w1.heap.size := Nat.lt_of_lt_of_le (by simp) hB.size; have a0 := fun o => (World.cell?_alloc_lt w1 o (⟨w.heap.size, 0, none⟩ : Addr) hs1).trans r0; have a1 := fun o => (World.cell?_alloc_lt w1 o (⟨w.heap.size, 1, none⟩ : Addr) hs1).trans r1; have a2 := fun o => (World.cell?_alloc_lt w1 o (⟨w.heap.size, 2, none⟩ : Addr) hs1).trans r2; have a3 := fun o => (World.cell?_alloc_lt w1 o (⟨w.heap.size, 3, none⟩ : Addr) hs1).trans r3) | (go_at_call 69; (with_reducible refine (cw _).mono ?_); rintro e w' ⟨rfl, rfl⟩) | (go_at_call 69; (with_reducible refine (cv _).mono ?_); rintro e w' ⟨rfl, rfl⟩))
    all_goals go_ret
    all_goals exact ⟨by first | rfl | exact ret_bl (by simp), (((Below.refl _ w).alloc (Nat.le_refl _) _).trans (hB.mono (by simp))).alloc (Nat.le_of_lt hs1) _⟩
theorem fit_right_76 (op a b : Int) (p : Option Addr) (n cap : Nat) (h0 : -9223372036854775808 ≤ op ∧ op ≤ 9223372036854775807) (r : Rw) (h : byCode op = some r) (hs : r.shape = 7) (hr : r.results = ⟨#[126]⟩) (hb : b = 0) (hn : n = 0) (w : World) (hL : Spaces w) :
    Calls Tryz.prog 51 #[.agg #[.int .i64 op, .int .i64 a, .int .i64 b, .slice p n cap]] w fun e w' => e = .returned (.bool (true)) ∧ Below w.heap.size w w' := by
  have c := fit_some h0 h
  have hbd := byCode_bd h
  clear h
  obtain ⟨rc, rn, s, rp, rr⟩ := r
  simp only at c hbd hs hr
  subst hb
  subst hn
  subst hs
  subst hr
  go_enter Tryz.func51, Tryz.ntmps51
  go_wp2_with (first | (go_at_call 68; (with_reducible refine (c _ (hL.alloc _)).mono ?_); rintro e w1 ⟨rfl, hB⟩; have ⟨r0, r1, r2, r3⟩ := box_cells hB; have hs1 : w.heap.size < w1.heap.size := Nat.lt_of_lt_of_le (by simp) hB.size; have a0 := fun o => (World.cell?_alloc_lt w1 o (⟨w.heap.size, 0, none⟩ : Addr) hs1).trans r0; have a1 := fun o => (World.cell?_alloc_lt w1 o (⟨w.heap.size, 1, none⟩ : Addr) hs1).trans r1; have a2 := fun o => (World.cell?_alloc_lt w1 o (⟨w.heap.size, 2, none⟩ : Addr) hs1).trans r2; have a3 := fun o => (World.cell?_alloc_lt w1 o (⟨w.heap.size, 3, none⟩ : Addr) hs1).trans r3))
  all_goals go_ret
  all_goals exact ⟨by first | rfl | exact ret_bl (by simp), (((Below.refl _ w).alloc (Nat.le_refl _) _).trans (hB.mono (by simp))).alloc (Nat.le_of_lt hs1) _⟩
theorem fit_right_77 (op a b : Int) (p : Option Addr) (n cap : Nat) (h0 : -9223372036854775808 ≤ op ∧ op ≤ 9223372036854775807) (r : Rw) (h : byCode op = some r) (hs : r.shape = 7) (hr : r.results = ⟨#[127]⟩) (hb : b = 0) (hn : n = 0) (w : World) (hL : Spaces w) :
    Calls Tryz.prog 51 #[.agg #[.int .i64 op, .int .i64 a, .int .i64 b, .slice p n cap]] w fun e w' => e = .returned (.bool (decide (-2147483648 ≤ a ∧ a < 2147483648))) ∧ Below w.heap.size w w' := by
  have c := fit_some h0 h
  have hbd := byCode_bd h
  clear h
  obtain ⟨rc, rn, s, rp, rr⟩ := r
  simp only at c hbd hs hr
  subst hb
  subst hn
  subst hs
  subst hr
  go_enter Tryz.func51, Tryz.ntmps51
  go_wp2_with (first | (go_at_call 68; (with_reducible refine (c _ (hL.alloc _)).mono ?_); rintro e w1 ⟨rfl, hB⟩; have ⟨r0, r1, r2, r3⟩ := box_cells hB; have hs1 : w.heap.size < w1.heap.size := Nat.lt_of_lt_of_le (by simp) hB.size; have a0 := fun o => (World.cell?_alloc_lt w1 o (⟨w.heap.size, 0, none⟩ : Addr) hs1).trans r0; have a1 := fun o => (World.cell?_alloc_lt w1 o (⟨w.heap.size, 1, none⟩ : Addr) hs1).trans r1; have a2 := fun o => (World.cell?_alloc_lt w1 o (⟨w.heap.size, 2, none⟩ : Addr) hs1).trans r2; have a3 := fun o => (World.cell?_alloc_lt w1 o (⟨w.heap.size, 3, none⟩ : Addr) hs1).trans r3))
  all_goals go_ret
  all_goals exact ⟨ret_bl (by rw [Bool.eq_iff_iff]; simp only [beq_iff_eq, decide_eq_true_eq]; exact w32_iff a), (((Below.refl _ w).alloc (Nat.le_refl _) _).trans (hB.mono (by simp))).alloc (Nat.le_of_lt hs1) _⟩
theorem fit_right_3 (op a : Int) (p : Option Addr) (n cap : Nat) (ls : List Int) (h0 : -9223372036854775808 ≤ op ∧ op ≤ 9223372036854775807) (r : Rw) (h : byCode op = some r) (hs : r.shape = 3) (hn : n = ls.length) (hmx : n ≤ 17592186044416) (w : World) (hL : Spaces w) (hls : IntsAt w p ls) :
    Calls Tryz.prog 51 #[.agg #[.int .i64 op, .int .i64 a, .int .i64 0, .slice p n cap]] w fun e w' => e = .returned (.bool (ls.all word && decide (n ≤ 4096) && word a)) ∧ Below w.heap.size w w' := by
  have c := fit_some h0 h
  have hbd := byCode_bd h
  clear h
  obtain ⟨rc, rn, s, rp, rr⟩ := r
  simp only at c hbd hs
  subst hs
  have cw := op_word a
  have cl := fun w' (hb : Below w.heap.size w w') => op_words p n cap ls hn hmx w' (hls.below hb (Nat.le_refl _))
  rw [show (ls.all word && decide (n ≤ 4096) && word a) = (word a && (decide (n ≤ 4096) && ls.all word)) by rw [Bool.and_comm, Bool.and_comm (ls.all word)]]
  generalize (decide (n ≤ 4096) && ls.all word) = y at cl ⊢
  generalize word a = x at cw ⊢
  clear hn hls
  cases x
  all_goals
    go_enter Tryz.func51, Tryz.ntmps51
    go_wp2_with (first | (go_at_call 68; (with_reducible refine (c _ (hL.alloc _)).mono ?_); rintro e w1 ⟨rfl, hB⟩; have ⟨r0, r1, r2, r3⟩ := box_cells hB; have hs1 : w.heap.size < w1.heap.size := Nat.lt_of_lt_of_le (by simp) hB.size; have hBw := (((Below.refl _ w).alloc (Nat.le_refl _) (.cells #[.int .i64 op, .int .i64 a, .int .i64 0, .slice p n cap] 38)).trans (hB.mono (by simp))); have a0 := fun o => (World.cell?_alloc_lt w1 o (⟨w.heap.size, 0, none⟩ : Addr) hs1).trans r0; have a1 := fun o => (World.cell?_alloc_lt w1 o (⟨w.heap.size, 1, none⟩ : Addr) hs1).trans r1; have a2 := fun o => (World.cell?_alloc_lt w1 o (⟨w.heap.size, 2, none⟩ : Addr) hs1).trans r2; have a3 := fun o => (World.cell?_alloc_lt w1 o (⟨w.heap.size, 3, none⟩ : Addr) hs1).trans r3) | (go_at_call 69; (with_reducible refine (cw _).mono ?_); rintro e w' ⟨rfl, rfl⟩) | (go_at_call 70; (with_reducible refine (cl _ (hBw.alloc (Nat.le_of_lt hs1) _)).mono ?_); rintro e w' ⟨rfl, hC⟩))
    all_goals go_ret
    all_goals first
      | exact ⟨by first | rfl | exact ret_bl (by simp), (hBw.alloc (Nat.le_of_lt hs1) _).trans (hC.mono (by simp; omega))⟩
      | exact ⟨by first | rfl | exact ret_bl (by simp), hBw.alloc (Nat.le_of_lt hs1) _⟩
theorem op_right (op a b : Int) (p : Option Addr) (n cap : Nat) (ls : List Int) (h0 : -9223372036854775808 ≤ op) (h1 : op ≤ 9223372036854775807) (hn : n = ls.length) (hmx : n ≤ 17592186044416) (w : World) (hL : Spaces w) (hls : IntsAt w p ls) :
    Calls Tryz.prog 51 #[.agg #[.int .i64 op, .int .i64 a, .int .i64 b, .slice p n cap]] w fun e w' => e = .returned (.bool (rightOf (byCode op) op a b ls)) ∧ Below w.heap.size w w' := by
  cases h : byCode op with
  | none => exact fit_right_none op a b p n cap ⟨h0, h1⟩ h w hL
  | some r =>
    have hbd := byCode_bd h
    have hs : r.shape = 0 ∨ r.shape = 1 ∨ r.shape = 2 ∨ r.shape = 3 ∨ r.shape = 4 ∨ r.shape = 5 ∨ r.shape = 6 ∨ r.shape = 7 := by omega
    by_cases h3 : r.shape = 3
    · by_cases hb : b = 0
      · subst hb
        have g := fit_right_3 op a p n cap ls ⟨h0, h1⟩ r h h3 hn hmx w hL hls
        simpa [rightOf, h3, hn] using g
      · have g := fit_right_b op a b p n cap ⟨h0, h1⟩ r h (by omega) hb (.inr h3) w hL
        simpa [rightOf, h3, hb] using g
    · by_cases h0' : n = 0
      · have hl : ls = [] := List.eq_nil_of_length_eq_zero (by omega)
        subst hl
        by_cases h5 : r.shape = 5
        · by_cases hb : b = 0
          · subst hb
            have g := fit_right_50 op a 0 p n cap ⟨h0, h1⟩ r h h5 rfl h0' w hL
            simpa [rightOf, h5] using g
          · have g := fit_right_5b op a b p n cap ⟨h0, h1⟩ r h h5 hb h0' w hL
            simpa [rightOf, h5] using g
        · by_cases hb : b = 0
          · subst hb
            rcases hs with hs | hs | hs | hs | hs | hs | hs | hs
            · have g := fit_right_0 op a 0 p n cap ⟨h0, h1⟩ r h hs rfl h0' w hL; simpa [rightOf, hs] using g
            · have g := fit_right_1 op a 0 p n cap ⟨h0, h1⟩ r h hs rfl h0' w hL; simpa [rightOf, hs] using g
            · have g := fit_right_2 op a 0 p n cap ⟨h0, h1⟩ r h hs rfl h0' w hL; simpa [rightOf, hs] using g
            · exact absurd hs h3
            · have g := fit_right_4 op a 0 p n cap ⟨h0, h1⟩ r h hs rfl h0' w hL; simpa [rightOf, hs] using g
            · exact absurd hs h5
            · have g := fit_right_6 op a 0 p n cap ⟨h0, h1⟩ r h hs rfl h0' w hL; simpa [rightOf, hs] using g
            · rcases const_of h hs with ⟨ho, hr⟩ | ⟨ho, hr⟩
              · have g := fit_right_76 op a 0 p n cap ⟨h0, h1⟩ r h hs hr rfl h0' w hL; simpa [rightOf, hs, ho] using g
              · have g := fit_right_77 op a 0 p n cap ⟨h0, h1⟩ r h hs hr rfl h0' w hL; simpa [rightOf, hs, ho] using g
          · have g := fit_right_b op a b p n cap ⟨h0, h1⟩ r h h5 hb (.inl h0') w hL
            simpa [rightOf, h5, hb] using g
      · have hl : ls ≠ [] := fun e => h0' (by rw [hn, e]; rfl)
        have g := fit_right_l op a b p n cap ⟨h0, h1⟩ r h h3 h0' w hL
        by_cases hb : b = 0 <;> by_cases h5 : r.shape = 5 <;> simpa [rightOf, h3, hl, hb, h5] using g
end Go.Proofs.YtomffpibdinkaaaGreatDoor
