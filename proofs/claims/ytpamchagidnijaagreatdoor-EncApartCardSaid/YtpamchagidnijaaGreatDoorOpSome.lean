/-
  The library's function that package op calls on labels, by its contract off the shelf: is there one in a list? No statement is proved here.
-/
import Derived.Shelf.Slices.Turned
import Derived.Shelf.SlicesE.IndexFunc
import Derived.Test.YtpamchagidnijaaGreatDoorOpFields
import Derived.Test.YtpamchagidnijaaGreatDoorOpRefFind
namespace Go.Proofs.YtpamchagidnijaaGreatDoor
open Go.Shelf Go.RowKit Go.Lib

def laysH8_ren : Go.Shelf.Ren := ⟨fun | 8 => 235 | 6 => 267 | n => n, fun | 22 => 39 | 23 => 3 | 25 => 157 | 4 => 4 | 3 => 3 | 0 => 0 | n => n, fun | n => n⟩
theorem laysH8 : Go.Proofs.SlLaysH.n8 Tryz.prog laysH8_ren := {
  mixed := by kernel_rfl,
  f6 := ⟨Tryz.f267.name, by decide, Tryz.func267.trans (congrArg some (by kernel_rfl))⟩,
  f8 := ⟨Tryz.f235.name, by decide, Tryz.func235.trans (congrArg some (by kernel_rfl))⟩,
  t0 := Tryz.underlying0,
  a0 := Tryz.isAgg0,
  z0 := Tryz.sizeOf0,
  v0 := Tryz.zeroValue0,
  t3 := Tryz.underlying3,
  a3 := Tryz.isAgg3,
  z3 := Tryz.sizeOf3,
  v3 := Tryz.zeroValue3,
  t4 := Tryz.underlying4,
  a4 := Tryz.isAgg4,
  z4 := Tryz.sizeOf4,
  v4 := Tryz.zeroValue4,
  t22 := Tryz.underlying39,
  a22 := Tryz.isAgg39,
  z22 := Tryz.sizeOf39,
  v22 := Tryz.zeroValue39,
  a23 := Tryz.isAgg3,
  z23 := Tryz.sizeOf3,
  t25 := Tryz.underlying157,
  a25 := Tryz.isAgg157,
  z25 := Tryz.sizeOf157,
  v25 := Tryz.zeroValue157 }

theorem lib_some (p : Int → Bool) (g : Nat) (lb : Array Value) (eg : ∀ args w, (callFunc g args).run Tryz.prog w = .ok (.enter g args) w) (b off n c : Nat) (zs : List Int) (w : World)
    (hp : PredAt Tryz.prog g lb (fun x : Int => .int .i64 x) p w) (hz : n ≤ zs.length) (hbig : n ≤ 9223372036854775807) (hc : ∀ j, j < zs.length → w.cell? ⟨b, off + j, none⟩ = some (.int .i64 zs[j]!)) :
    Calls Tryz.prog 235 #[.slice (some ⟨b, off, none⟩) n c, .func (.func g) #[] lb] w fun e w' => e = .returned (.bool ((zs.take n).any p)) ∧ ∃ q, w' = w.drewN q :=
  AnyE.slices_ContainsFunc laysH8 (fun x : Int => .int .i64 x) p g lb eg b off n c zs w hp hz hbig hc
theorem lib_some_none (a : Option Addr) (c : Nat) (fv : Value) (w : World) :
    Calls Tryz.prog 235 #[.slice a 0 c, fv] w fun e w' => e = .returned (.bool false) ∧ w' = w :=
  AnyE.slices_ContainsFunc_empty laysH8 a c fv w
end Go.Proofs.YtpamchagidnijaaGreatDoor

namespace Go.Proofs.YtpamchagidnijaaGreatDoor
open Go.RowKit

set_option maxHeartbeats 400000 in
theorem op_word (n : Int) (w : World) : Calls Tryz.prog 174 #[.int .i64 n] w fun e w' => e = .returned (.bool (word n)) ∧ w = w' := by
  have e1 : IntKind.u32.wrap n = n % 4294967296 := IntKind.wrap_u32 n
  have e2 : IntKind.i64.wrap (n % 4294967296) = n % 4294967296 := by rw [IntKind.wrap_i64]; omega
  by_cases h : 0 ≤ n ∧ n < 4294967296
  · have e : word n = true := by simp [word]; omega
    rw [e]
    have e3 : n % 4294967296 = n := by omega
    rw [e3] at e1 e2
    go_enter Tryz.func174, Tryz.ntmps174
    go_wp2
    go_ret
    exact ⟨by first | rfl | exact ret_bl (by simp; try omega), rfl⟩
  · have e : word n = false := by simp [word]; omega
    rw [e]
    have e3 : (n == n % 4294967296) = false := beq_eq_false_iff_ne.2 (by omega)
    go_enter Tryz.func174, Tryz.ntmps174
    go_wp2
    go_ret
    exact ⟨by first | rfl | exact ret_bl (by simp; try omega), rfl⟩

set_option maxHeartbeats 400000 in
theorem op_unword (n : Int) (w : World) : Calls Tryz.prog 236 #[.int .i64 n] w fun e w' => e = .returned (.bool (!word n)) ∧ w = w' := by
  have c := op_word n
  generalize word n = x at c ⊢
  go_enter Tryz.func236, Tryz.ntmps236
  go_wp2_with (go_at_call 174; (with_reducible refine (c _).mono ?_); rintro e w' ⟨rfl, rfl⟩)
  go_ret
  exact ⟨rfl, rfl⟩

theorem any_unword (ls : List Int) : (!ls.any fun n => !word n) = ls.all word := by
  induction ls with
  | nil => rfl
  | cons x ls ih => simp only [List.any_cons, List.all_cons, Bool.not_or, Bool.not_not, ih]

set_option maxHeartbeats 1000000 in
theorem op_words (p : Option Addr) (n cap : Nat) (ls : List Int) (hn : n = ls.length) (hmx : n ≤ 17592186044416) (w : World) (hls : IntsAt w p ls) :
    Calls Tryz.prog 175 #[.slice p n cap] w fun e w' => e = .returned (.bool (decide (n ≤ 4096) && ls.all word)) ∧ Below w.heap.size w w' := by
  have eg : ∀ args w, (callFunc 236 args).run Tryz.prog w = .ok (.enter 236 args) w := enters_of Tryz.func236 (by kernel_rfl) rfl
  have hp : PredAt Tryz.prog 236 #[] (fun x : Int => .int .i64 x) (fun x => !word x) w := fun W x _ => (op_unword x W).mono fun e w' ⟨he, hw⟩ => ⟨he, 0, hw.symm⟩
  by_cases h4 : n ≤ 4096
  · have h4' : (n : Int) ≤ 4096 := by omega
    have hd : (decide (n ≤ 4096) && ls.all word) = ls.all word := by simp [h4]
    rw [hd]
    have cs : Calls Tryz.prog 235 #[.slice p n cap, .func (.func 236) #[] #[]] w fun e w' => e = .returned (.bool (ls.any fun n => !word n)) ∧ ∃ q, w' = w.drewN q := by
      cases n with
      | zero =>
        obtain rfl : ls = [] := List.eq_nil_of_length_eq_zero (by omega)
        exact (lib_some_none p cap _ w).mono fun e w' ⟨he, hw⟩ => ⟨he, 0, hw⟩
      | succ n =>
        obtain ⟨b, o, rfl, hb, _⟩ := hls 0 (by omega)
        have c := lib_some (fun x => !word x) 236 #[] eg b o (n + 1) cap ls w hp (by omega) (by omega) (fun j hj => by
          obtain ⟨b', o', e, _, hc⟩ := hls j hj
          injection e with e; injection e with e1 e2; subst e1; subst e2
          rw [hc]; simp [hj])
        rwa [show ls.take (n + 1) = ls by rw [hn, List.take_length]] at c
    rw [← any_unword]
    generalize (ls.any fun n => !word n) = x at cs ⊢
    clear hls hp eg hd hn
    go_enter Tryz.func175, Tryz.ntmps175
    go_wp2_with (go_at_call 235; (with_reducible refine cs.mono ?_); rintro e w' ⟨rfl, q, rfl⟩)
    go_ret
    exact ⟨by first | rfl | exact ret_bl (by simp), below_drewN' (Below.refl _ w) q⟩
  · have h4' : ¬ (n : Int) ≤ 4096 := by omega
    have hd : (decide (n ≤ 4096) && ls.all word) = false := by simp [h4]
    rw [hd]
    clear hls hp eg hd hn
    go_enter Tryz.func175, Tryz.ntmps175
    go_wp2
    go_ret
    exact ⟨by first | rfl | exact ret_bl (by simp), Below.refl _ w⟩

end Go.Proofs.YtpamchagidnijaaGreatDoor
