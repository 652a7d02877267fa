/-
  Package mem: how many pages there are, whether there are so many bytes, where a byte stands. Contracts that the proofs call; no statement is proved here.
-/
import Derived.Test.YtaihmcengecmiaaMemAt
import Derived.RegionTactic
import Derived.ChangeAlike
import Derived.IntWalk
namespace Go.Proofs.Ytaihmcengecmiaa
open Go.RowKit Go.Maps
set_option linter.unusedVariables false
set_option linter.unusedSimpArgs false
variable {O O' : Nat → Prop} {B b n most : Nat} {f : Nat → UInt8} {v : Value} {mb : Nat} {ps : List Nat} {w w' w'' : World}

set_option maxRecDepth 100000 in
set_option maxHeartbeats 1000000 in
theorem pages_is (h : MemAt O B b n most f w) : Calls Try.prog 12 #[.pointer (some ⟨b, 0, none⟩)] w fun e w' => e = .returned (.int .i64 n) ∧ w = w' := by
  obtain ⟨v, mb, ps, h⟩ := h
  obtain ⟨c0, c1, c2⟩ := h.cells
  obtain ⟨a, cap, rfl, hcap, _⟩ := h.slice
  have hle := h.le
  have htop := h.top
  clear h
  go_enter Try.func12, Try.ntmps12
  go_wp2
  go_ret
  exact ⟨rfl, rfl⟩
set_option maxRecDepth 100000 in
set_option maxHeartbeats 1000000 in
theorem has_is (h : MemAt O B b n most f w) (at' : Nat) (hat : at' < 18446744073709551616) (size : Int) (h1 : -9223372036854775808 ≤ size) (h2 : size ≤ 9223372036854775807) :
    Calls Try.prog 26 #[.pointer (some ⟨b, 0, none⟩), .int .u64 at', .int .i64 size] w fun e w' => e = .returned (.bool (inN n at' size)) ∧ w = w' := by
  obtain ⟨v, mb, ps, h⟩ := h
  obtain ⟨c0, c1, c2⟩ := h.cells
  obtain ⟨a, cap, rfl, hcap, _⟩ := h.slice
  have hle := h.le
  have htop := h.top
  clear h
  have hn : (n : Int) ≤ 256 := by omega
  unfold inN
  by_cases g1 : 0 ≤ size
  · by_cases g2 : (at' : Int) ≤ n * 65536
    · by_cases g3 : size ≤ n * 65536 - at'
      · rw [decide_eq_true ⟨g1, g2, g3⟩]
        go_enter Try.func26, Try.ntmps26
        go_wp2
        go_ret
        exact ⟨rfl, rfl⟩
      · rw [decide_eq_false (fun e => g3 e.2.2)]
        go_enter Try.func26, Try.ntmps26
        go_wp2
        go_ret
        exact ⟨rfl, rfl⟩
    · rw [decide_eq_false (fun e => g2 e.2.1)]
      go_enter Try.func26, Try.ntmps26
      go_wp2
      go_ret
      exact ⟨rfl, rfl⟩
  · rw [decide_eq_false (fun e => g1 e.1)]
    go_enter Try.func26, Try.ntmps26
    go_wp2
    go_ret
    exact ⟨rfl, rfl⟩
set_option maxRecDepth 100000 in
set_option maxHeartbeats 1000000 in
/-- Where a byte stands: in which page, where in it. -/
theorem cell_is (h : MemIs O B b n most f v mb ps w) (a : Nat) (ha : a < n * 65536) (p : Nat) (hp : ps[a / 65536]? = some p) :
    Calls Try.prog 28 #[.pointer (some ⟨b, 0, none⟩), .int .u64 a] w fun e w' => e = .returned (.pointer (some ⟨p, a % 65536, none⟩)) ∧ w = w' := by
  obtain ⟨c0, c1, c2⟩ := h.cells
  obtain ⟨q, cap, rfl, hcap, hps⟩ := h.slice
  obtain ⟨g, rfl, hg⟩ := hps _ _ hp
  have hle := h.le
  have htop := h.top
  clear h hps hp
  have k1 : a / 65536 < n := by omega
  unfold pgV at hg
  have e1 : ((a : Int) / 65536).toNat = a / 65536 := by omega
  have e2 : ((a : Int) % 65536).toNat = a % 65536 := by omega
  go_enter Try.func28, Try.ntmps28
  go_wp2
  go_ret
  exact ⟨rfl, rfl⟩
end Go.Proofs.Ytaihmcengecmiaa
