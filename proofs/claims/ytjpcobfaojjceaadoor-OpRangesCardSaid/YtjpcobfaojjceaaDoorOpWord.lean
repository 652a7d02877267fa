/-
  Package op's small tests of numbers, and which codes have to do with floats: walked. Contracts that the proofs call; no statement is proved here.
-/
import Derived.Test.YtjpcobfaojjceaaDoorOpShelf
import Derived.Test.YtjpcobfaojjceaaDoorOpRefRight
namespace Go.Proofs.YtjpcobfaojjceaaDoor
open Go.RowKit

set_option maxHeartbeats 400000 in
theorem op_word (n : Int) (w : World) : Calls Tryd.prog 25 #[.int .i64 n] w fun e w' => e = .returned (.bool (word n)) ∧ w = w' := by
  have e1 : IntKind.u32.wrap n = n % 4294967296 := IntKind.wrap_u32 n
  have e2 : IntKind.i64.wrap (n % 4294967296) = n % 4294967296 := by rw [IntKind.wrap_i64]; omega
  by_cases h : 0 ≤ n ∧ n < 4294967296
  · have e : word n = true := by simp [word]; omega
    rw [e]
    have e3 : n % 4294967296 = n := by omega
    rw [e3] at e1 e2
    go_enter Tryd.func25, Tryd.ntmps25
    go_wp2
    go_ret
    exact ⟨by first | rfl | exact ret_bl (by simp; try omega), rfl⟩
  · have e : word n = false := by simp [word]; omega
    rw [e]
    have e3 : (n == n % 4294967296) = false := beq_eq_false_iff_ne.2 (by omega)
    go_enter Tryd.func25, Tryd.ntmps25
    go_wp2
    go_ret
    exact ⟨by first | rfl | exact ret_bl (by simp; try omega), rfl⟩

set_option maxHeartbeats 400000 in
theorem op_unword (n : Int) (w : World) : Calls Tryd.prog 39 #[.int .i64 n] w fun e w' => e = .returned (.bool (!word n)) ∧ w = w' := by
  have c := op_word n
  generalize word n = x at c ⊢
  go_enter Tryd.func39, Tryd.ntmps39
  go_wp2_with (go_at_call 25; (with_reducible refine (c _).mono ?_); rintro e w' ⟨rfl, rfl⟩)
  go_ret
  exact ⟨rfl, rfl⟩

theorem any_unword (ls : List Int) : (!ls.any fun n => !word n) = ls.all word := by
  induction ls with
  | nil => rfl
  | cons x ls ih => simp only [List.any_cons, List.all_cons, Bool.not_or, Bool.not_not, ih]

set_option maxHeartbeats 1000000 in
theorem op_words (p : Option Addr) (n cap : Nat) (ls : List Int) (hn : n = ls.length) (hmx : n ≤ 17592186044416) (w : World) (hls : IntsAt w p ls) :
    Calls Tryd.prog 26 #[.slice p n cap] w fun e w' => e = .returned (.bool (decide (n ≤ 4096) && ls.all word)) ∧ Below w.heap.size w w' := by
  have eg : ∀ args w, (callFunc 39 args).run Tryd.prog w = .ok (.enter 39 args) w := enters_of Tryd.func39 (by kernel_rfl) rfl
  have hp : PredAt Tryd.prog 39 #[] (fun x : Int => .int .i64 x) (fun x => !word x) w := fun W x _ => (op_unword x W).mono fun e w' ⟨he, hw⟩ => ⟨he, 0, hw.symm⟩
  by_cases h4 : n ≤ 4096
  · have h4' : (n : Int) ≤ 4096 := by omega
    have hd : (decide (n ≤ 4096) && ls.all word) = ls.all word := by simp [h4]
    rw [hd]
    have cs : Calls Tryd.prog 38 #[.slice p n cap, .func (.func 39) #[] #[]] w fun e w' => e = .returned (.bool (ls.any fun n => !word n)) ∧ ∃ q, w' = w.drewN q := by
      cases n with
      | zero =>
        obtain rfl : ls = [] := List.eq_nil_of_length_eq_zero (by omega)
        exact (lib_some_none p cap _ w).mono fun e w' ⟨he, hw⟩ => ⟨he, 0, hw⟩
      | succ n =>
        obtain ⟨b, o, rfl, hb, _⟩ := hls 0 (by omega)
        have c := lib_some (fun x => !word x) 39 #[] eg b o (n + 1) cap ls w hp (by omega) (by omega) (fun j hj => by
          obtain ⟨b', o', e, _, hc⟩ := hls j hj
          injection e with e; injection e with e1 e2; subst e1; subst e2
          rw [hc]; simp [hj])
        rwa [show ls.take (n + 1) = ls by rw [hn, List.take_length]] at c
    rw [← any_unword]
    generalize (ls.any fun n => !word n) = x at cs ⊢
    clear hls hp eg hd hn
    go_enter Tryd.func26, Tryd.ntmps26
    go_wp2_with (go_at_call 38; (with_reducible refine cs.mono ?_); rintro e w' ⟨rfl, q, rfl⟩)
    go_ret
    exact ⟨by first | rfl | exact ret_bl (by simp), below_drewN' (Below.refl _ w) q⟩
  · have h4' : ¬ (n : Int) ≤ 4096 := by omega
    have hd : (decide (n ≤ 4096) && ls.all word) = false := by simp [h4]
    rw [hd]
    clear hls hp eg hd hn
    go_enter Tryd.func26, Tryd.ntmps26
    go_wp2
    go_ret
    exact ⟨by first | rfl | exact ret_bl (by simp), Below.refl _ w⟩

set_option maxRecDepth 100000 in
set_option maxHeartbeats 4000000 in
theorem op_float (c : Int) (_ : -9223372036854775808 ≤ c) (_ : c ≤ 9223372036854775807) (w : World) : Calls Tryd.prog 13 #[.int .i64 c] w fun e w' => e = .returned (.bool (isFloat c)) ∧ Below w.heap.size w w' := by
  rcases (show c < 42 ∨ c = 42 ∨ c = 43 ∨ (43 < c ∧ c < 56) ∨ c = 56 ∨ c = 57 ∨ (57 < c ∧ c < 67) ∨ c = 67 ∨ c = 68 ∨ (68 < c ∧ c < 91) ∨ (91 ≤ c ∧ c ≤ 102) ∨ (102 < c ∧ c < 139) ∨ (139 ≤ c ∧ c ≤ 166) ∨ c = 167 ∨ (168 ≤ c ∧ c ≤ 171) ∨ (171 < c ∧ c < 174) ∨ (174 ≤ c ∧ c ≤ 191) ∨ 191 < c by omega) with h | rfl | rfl | h | rfl | rfl | h | rfl | rfl | h | h | h | h | rfl | h | h | h | h
  all_goals
    first
      | (have e : isFloat c = true := by simp only [isFloat, decide_eq_true_eq]; omega
         rw [e])
      | (have e : isFloat c = false := by simp only [isFloat, decide_eq_false_iff_not]; omega
         rw [e])
      | skip
    go_enter Tryd.func13, Tryd.ntmps13
    go_wp2
    go_ret
    exact ⟨by first | rfl | exact ret_bl (by simp; omega), Below.refl _ w⟩
end Go.Proofs.YtjpcobfaojjceaaDoor
