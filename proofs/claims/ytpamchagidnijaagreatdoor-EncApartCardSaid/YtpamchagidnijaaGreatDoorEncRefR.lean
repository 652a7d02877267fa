/-
  The document's own answer to chapter 5, walked: the runs of locals. A contract that the proofs call; no statement is proved here.
-/
import Derived.Test.YtpamchagidnijaaGreatDoorEncRefA
import Derived.Test.YtpamchagidnijaaGreatDoorModRefName
import Derived.Deep.RegionWith
namespace Go.Proofs.YtpamchagidnijaaGreatDoor
open Go.RowKit
set_option linter.unusedVariables false

def run5 (x : UInt8 × Nat) : List UInt8 := putU x.2 ++ [x.1]
theorem runs5_eq (s : List UInt8) : runs5 s = putU (grp s).length ++ (grp s).flatMap run5 := rfl
theorem grp_step {l : List UInt8} {p q z : Nat} {b : UInt8} (hz : 0 < z) (h : l.drop p = List.replicate z b ++ l.drop q) (hh : ∀ c, (l.drop q).head? = some c → b ≠ c) : grp (l.drop p) = (b, z) :: grp (l.drop q) := by
  obtain ⟨k, rfl⟩ : ∃ k, z = k + 1 := ⟨z - 1, by omega⟩
  rw [h]
  exact grp_run b _ hh k
theorem extract_one (s : ByteArray) (p : Nat) (h : p < s.size) : s.extract p (p + 1) = bs [s[p]] := by
  apply ByteArray.ext
  rw [ByteArray.data_extract]
  apply Array.ext'
  have hp : p < s.data.toList.length := by rw [bs_len]; exact h
  rw [Array.toList_extract, List.extract_eq_take_drop, show p + 1 - p = 1 by omega, List.drop_eq_getElem_cons hp]
  rfl
set_option maxRecDepth 100000 in
set_option maxHeartbeats 8000000 in
theorem ref5_runs (s : ByteArray) (hs : s.size ≤ 1125899906842624) (w : World) :
    Calls Tryz.prog 38 #[.string s] w fun e w' => e = .returned (.string (bs (runs5 s.data.toList))) ∧ Below w.heap.size w w' := by
  obtain ⟨l, hl⟩ : ∃ l, l = s.data.toList := ⟨_, rfl⟩
  rw [← hl]
  have HL := Lib.hid hl
  clear hl
  go_enter Tryz.func38, Tryz.ntmps38
  go_wp2
  go_loopw [3, 4, 5] (fun o m i wr => ∃ (p j : Nat) (d : List UInt8) (done : List (UInt8 × Nat)), p ≤ s.size ∧ i = .int .i64 p ∧ m = .int .i64 j ∧ o = .string (bs d) ∧ Hid (grp l = done ++ grp (l.drop p) ∧ j = done.length ∧ d = done.flatMap run5) ∧ j ≤ p ∧ d.length ≤ 11 * p ∧ Below w.heap.size w wr) (fun _ _ i _ => s.size - (intOf i).toNat)
  case atStart => exact ⟨0, 0, [], [], by omega, rfl, rfl, rfl, Lib.hid ⟨by simp, rfl, rfl⟩, by omega, by simp, Below.refl _ _⟩
  case round =>
    obtain ⟨p, j, d, done, hp, rfl, rfl, rfl, HD, hj, hd, hB⟩ := hrel
    by_cases hlt : p < s.size
    · have hbp : s[p].toNat < 256 := UInt8.toNat_lt _
      go_wp2
      go_loopw [6] (fun k wr2 => ∃ q : Nat, p ≤ q ∧ q ≤ s.size ∧ k = .int .i64 q ∧ Hid (l.drop p = List.replicate (q - p) s[p] ++ l.drop q) ∧ Below w.heap.size w wr2) (fun k _ => s.size - (intOf k).toNat)
      case atStart => exact ⟨p, by omega, hp, rfl, Lib.hid (by simp), hB⟩
      case round =>
        clear hB
        obtain ⟨q, hpq, hq, rfl, HR, hB⟩ := hrel
        have hBd := hB.drew
        by_cases hlq : q < s.size
        · have hq1 : s[q].toNat < 256 := UInt8.toNat_lt _
          have HC : Hid (l.drop q = s[q] :: l.drop (q + 1)) := Lib.hid (by rw [HL.out]; exact byte_at s q hlq)
          by_cases he : s[q] = s[p]
          · have hee : ((s[q].toNat : Int) == (s[p].toNat : Int)) = true := by rw [he]; exact beq_self_eq_true _
            have hee2 : s[q].toNat = s[p].toNat := by rw [he]
            have HE := Lib.hid he
            clear he
            have HR2 : Hid (l.drop p = List.replicate (q + 1 - p) s[p] ++ l.drop (q + 1)) := Lib.hid (by
              rw [HR.out, HC.out, HE.out, show q + 1 - p = (q - p) + 1 by omega, List.replicate_succ', List.append_assoc]; rfl)
            clear HR HC HE
            go_wp2
            go_region
            go_wp2
            go_roundw
            case rel => exact ⟨q + 1, by omega, by omega, by simp, HR2, hBd⟩
            case measure => simp [intOf]; omega
          · have hne : ((s[q].toNat : Int) == (s[p].toNat : Int)) = false := by rw [beq_eq_false_iff_ne]; intro h; exact he (UInt8.toNat_inj.1 (by omega))
            have HN : Hid (s[q] ≠ s[p]) := Lib.hid he
            have hqp : p < q := by
              by_cases h : p < q
              · exact h
              · exfalso
                obtain rfl : q = p := by omega
                exact he rfl
            clear he
            go_wp2
            go_region
            go_wp2
            obtain ⟨z, hz⟩ : ∃ z : Nat, p + z = q := ⟨q - p, by omega⟩
            have hz1 : 0 < z := by omega
            have hw1 : IntKind.i64.wrap ((q : Int) - p) = (z : Int) := by rw [IntKind.wrap_i64]; omega
            have hw2 : IntKind.i64.wrap ((p : Int) + 1) = (p : Int) + 1 := by rw [IntKind.wrap_i64]; omega
            have hA1 : 0 ≤ (p : Int) + 1 ∧ (p : Int) + 1 ≤ s.size := by omega
            have hA2 : (p : Int) ≤ (p : Int) + 1 := by omega
            have c := fun W => ref5_num (z : Int) (by omega) (by omega) W
            have hl1 := putU_len10 (n := (z : Int)) (by omega) (by omega)
            have s1 : ¬ 9223372036854775807 < (bs d).size + (bs (putU z)).size := by rw [bs_size, bs_size]; omega
            have s2 : ¬ 9223372036854775807 < (bs d).size + (bs (putU z)).size + (min (p + 1) s.size - p) := by rw [bs_size, bs_size]; omega
            have HS : Hid (bs d ++ bs (putU z) ++ s.extract p (p + 1) = bs (d ++ putU z ++ [s[p]])) := Lib.hid (by rw [extract_one s p hlt, bs_app, bs_app])
            have HG : Hid (grp (l.drop p) = (s[p], z) :: grp (l.drop q)) := Lib.hid (grp_step hz1 (by rw [HR.out, show q - p = z by omega]) (fun c hc => by rw [HC.out] at hc; injection hc with hc; rw [← hc]; exact fun h => HN.out h.symm))
            have hdz : (d ++ putU z ++ [s[p]]).length ≤ 11 * q := by rw [List.length_append, List.length_append, List.length_singleton]; omega
            have hjq : j + 1 ≤ q := by omega
            have HD2 : Hid (grp l = done ++ [(s[p], z)] ++ grp (l.drop q) ∧ j + 1 = (done ++ [(s[p], z)]).length ∧ d ++ putU z ++ [s[p]] = (done ++ [(s[p], z)]).flatMap run5) := Lib.hid ⟨by rw [HD.out.1, HG.out, List.append_assoc]; rfl, by rw [List.length_append, ← HD.out.2.1]; rfl, by rw [List.flatMap_append, ← HD.out.2.2]; simp [run5]⟩
            have HQ := Lib.hid hq
            clear hz HR HG HD hd hj
            go_region_with (go_at_call 36; refine (c _).mono ?_; rintro e w5 ⟨rfl, hb5⟩; have hB5 := hBd.drew.trans (hb5.mono hBd.drew.size))
            all_goals
              go_wp2
              go_roundw
              case rel => exact ⟨q, j + 1, d ++ putU z ++ [s[p]], done ++ [(s[p], z)], HQ.out, by first | rfl | simp, by first | rfl | simp, congrArg Value.string HS.out, HD2, hjq, hdz, hB5⟩
              case measure => have := HQ.out; simp [intOf]; omega
        · obtain rfl : q = s.size := by omega
          have HC : Hid (l.drop s.size = []) := Lib.hid (by rw [HL.out]; exact List.drop_eq_nil_of_le (by rw [bs_len]; exact Nat.le_refl _))
          go_wp2
          go_region
          go_wp2
          obtain ⟨z, hz⟩ : ∃ z : Nat, p + z = s.size := ⟨s.size - p, by omega⟩
          have hz1 : 0 < z := by omega
          have hw1 : IntKind.i64.wrap ((s.size : Int) - p) = (z : Int) := by rw [IntKind.wrap_i64]; omega
          have hw2 : IntKind.i64.wrap ((p : Int) + 1) = (p : Int) + 1 := by rw [IntKind.wrap_i64]; omega
          have hA1 : 0 ≤ (p : Int) + 1 ∧ (p : Int) + 1 ≤ s.size := by omega
          have hA2 : (p : Int) ≤ (p : Int) + 1 := by omega
          have c := fun W => ref5_num (z : Int) (by omega) (by omega) W
          have hl1 := putU_len10 (n := (z : Int)) (by omega) (by omega)
          have s1 : ¬ 9223372036854775807 < (bs d).size + (bs (putU z)).size := by rw [bs_size, bs_size]; omega
          have s2 : ¬ 9223372036854775807 < (bs d).size + (bs (putU z)).size + (min (p + 1) s.size - p) := by rw [bs_size, bs_size]; omega
          have HS : Hid (bs d ++ bs (putU z) ++ s.extract p (p + 1) = bs (d ++ putU z ++ [s[p]])) := Lib.hid (by rw [extract_one s p hlt, bs_app, bs_app])
          have HG : Hid (grp (l.drop p) = (s[p], z) :: grp (l.drop s.size)) := Lib.hid (grp_step hz1 (by rw [HR.out, show s.size - p = z by omega]) (fun c hc => by rw [HC.out] at hc; cases hc))
          have hdz : (d ++ putU z ++ [s[p]]).length ≤ 11 * s.size := by rw [List.length_append, List.length_append, List.length_singleton]; omega
          have hjq : j + 1 ≤ s.size := by omega
          have HD2 : Hid (grp l = done ++ [(s[p], z)] ++ grp (l.drop s.size) ∧ j + 1 = (done ++ [(s[p], z)]).length ∧ d ++ putU z ++ [s[p]] = (done ++ [(s[p], z)]).flatMap run5) := Lib.hid ⟨by rw [HD.out.1, HG.out, List.append_assoc]; rfl, by rw [List.length_append, ← HD.out.2.1]; rfl, by rw [List.flatMap_append, ← HD.out.2.2]; simp [run5]⟩
          have HQ := Lib.hid hq
          clear hz HR HG HD hd hj
          go_region_with (go_at_call 36; refine (c _).mono ?_; rintro e w5 ⟨rfl, hb5⟩; have hB5 := hBd.drew.trans (hb5.mono hBd.drew.size))
          all_goals
            go_wp2
            go_roundw
            case rel => exact ⟨s.size, j + 1, d ++ putU z ++ [s[p]], done ++ [(s[p], z)], HQ.out, by first | rfl | simp, by first | rfl | simp, congrArg Value.string HS.out, HD2, hjq, hdz, hB5⟩
            case measure => have := HQ.out; simp [intOf]; omega
    · obtain rfl : p = s.size := by omega
      have hjm : (j : Int) ≤ 9223372036854775807 := by omega
      have c := fun W => ref5_num (j : Int) (by omega) hjm W
      have hl1 := putU_len10 (n := (j : Int)) (by omega) (by omega)
      have s1 : ¬ 9223372036854775807 < (bs (putU j)).size + (bs d).size := by rw [bs_size, bs_size]; omega
      have he : bs (putU j) ++ bs d = bs (runs5 l) := by
        have h1 := HD.out.1
        rw [List.drop_eq_nil_of_le (by rw [HL.out, bs_len]; exact Nat.le_refl _)] at h1
        rw [bs_app, runs5_eq, h1, HD.out.2.2, HD.out.2.1]
        simp [grp]
      clear HD
      go_wp2_with (go_at_call 36; refine (c _).mono ?_; rintro e w5 ⟨rfl, hb5⟩)
      go_ret
      exact ⟨by rw [← he]; rfl, hB.trans (hb5.mono hB.size)⟩
end Go.Proofs.YtpamchagidnijaaGreatDoor
