/-
  The document's own answer to what is written, walked: the same bytes. These are contracts that the proofs call; no statement is proved here.
-/
import Derived.Test.YtpamchagidnijaaGreatDoorLebPutA
import Derived.Test.YtpamchagidnijaaGreatDoorLebOwn
namespace Go.Proofs.YtpamchagidnijaaGreatDoor
open Go.RowKit

theorem put_u_room {n x : Int} {d : List UInt8} (hlen : (putU n).length ≤ 10) (hd : putU n = d ++ putU x) : d.length + 1 ≤ 1000000 := by
  have h := congrArg List.length hd
  rw [List.length_append] at h
  omega
theorem put_s_room2 {n x : Int} {d : List UInt8} (hlen : (putS n).length ≤ 10) (hd : putS n = d ++ putS x) : d.length + 1 ≤ 1000000 := by
  have h := congrArg List.length hd
  rw [List.length_append] at h
  omega

set_option maxRecDepth 100000 in
set_option maxHeartbeats 1000000 in
theorem ref_put_u (n : Int) (h0 : 0 ≤ n) (h1 : n ≤ 18446744073709551615) (w : World) :
    Calls Tryz.prog 123 #[.int .u64 n] w fun e w' => e = .returned (.string ⟨(putU n).toArray⟩) ∧ Below w.heap.size w w' := by
  obtain ⟨i0, hi, hz0, hz1, hz2⟩ := info_parts Tryz.info5
  have hlen := putU_len10 h0 h1
  go_enter Tryz.func123, Tryz.ntmps123
  go_wp2
  go_loopw [0, 3] (fun m v wr => ∃ (d : List UInt8) (x : Int), m = .int .u64 x ∧ Own wr w.heap.size 5 v d ∧ 0 ≤ x ∧ x ≤ 18446744073709551615 ∧ Hid (putU n = d ++ putU x) ∧ Below w.heap.size w wr)
    (fun m _ _ => (intOf m).toNat)
  case atStart => exact ⟨[], n, rfl, Own.nil _ _ _, h0, h1, Lib.hid rfl, Below.refl _ _⟩
  case round =>
    obtain ⟨d, x, rfl, hown, hx0, hx1, hd, hb⟩ := hrel
    have hdl := put_u_room hlen hd.out
    have hsz := hb.size
    by_cases hx : x < 128
    · have hb8 := byte_of hx0 (by omega)
      have hx8 : x % 256 = x := by omega
      go_wp2_with (at_builtin; refine wpList_append_byte _ rfl (.tmp 15) (.tmp 18) 46 rfl 5 i0 Tryz.underlying46 hi hz0 hz1 hz2 w.heap.size _ d rfl (hown.alloc _) ⟨wr.heap.size, 0, none⟩ 1 (UInt8.ofNat x.toNat) rfl ?c1 hdl ?c2 ?_)
      case c1 => rw [hb8]; exact cell_new _ _ _
      case c2 => first | omega | (simp; omega)
      intro v2 w2 hr2 hg2
      have hcv := own_string (P := Tryz.prog) w2 46 9 5 w.heap.size _ v2 _ Tryz.underlying46 Tryz.underlying5 Tryz.underlying9 hr2
      go_wp2
      go_ret
      have hv : putU n = d ++ [UInt8.ofNat x.toNat] := by rw [hd.out, putU_last hx]
      exact ⟨by rw [hv]; rfl, (hb.alloc hsz _).grown hg2 (by simp; omega) hown.ge⟩
    · have hb8 := byte_of (x := x % 128 + 128) (by omega) (by omega)
      go_wp2_with (at_builtin; refine wpList_append_byte _ rfl (.tmp 6) (.tmp 11) 46 rfl 5 i0 Tryz.underlying46 hi hz0 hz1 hz2 w.heap.size _ d rfl (hown.alloc _) ⟨wr.heap.size, 0, none⟩ 1 (UInt8.ofNat (x % 128 + 128).toNat) rfl ?c3 hdl ?c4 ?_)
      case c3 => first | omega | (rw [hb8]; exact cell_new _ _ _)
      case c4 => first | omega | (simp; omega)
      intro v2 w2 hr2 hg2
      go_wp2
      go_roundw
      case rel => exact ⟨d ++ [UInt8.ofNat (x % 128 + 128).toNat], x / 128, rfl, hr2, by omega, by omega, Lib.hid (by rw [hd.out, putU_more (by omega)]; simp), (hb.alloc hsz _).grown hg2 (by simp; omega) hown.ge⟩
      case measure => simp [intOf]; omega

set_option maxRecDepth 100000 in
set_option maxHeartbeats 2000000 in
theorem ref_put_s (n : Int) (h0 : -9223372036854775808 ≤ n) (h1 : n ≤ 9223372036854775807) (w : World) :
    Calls Tryz.prog 126 #[.int .i64 n] w fun e w' => e = .returned (.string ⟨(putS n).toArray⟩) ∧ Below w.heap.size w w' := by
  obtain ⟨i0, hi, hz0, hz1, hz2⟩ := info_parts Tryz.info5
  have hlen := putS_len10 h0 h1
  go_enter Tryz.func126, Tryz.ntmps126
  go_wp2
  go_loopw [0, 3, 4] (fun m v _ wr => ∃ (d : List UInt8) (x : Int), m = .int .i64 x ∧ Own wr w.heap.size 5 v d ∧ -9223372036854775808 ≤ x ∧ x ≤ 9223372036854775807 ∧ Hid (putS n = d ++ putS x) ∧ Below w.heap.size w wr)
    (fun m _ _ _ => (intOf m).natAbs)
  case atStart => exact ⟨[], n, rfl, Own.nil _ _ _, h0, h1, Lib.hid rfl, Below.refl _ _⟩
  case round =>
    obtain ⟨d, x, rfl, hown, hx0, hx1, hd, hb⟩ := hrel
    have hdl := put_s_room2 hlen hd.out
    have hsz := hb.size
    have hm := i64_and127 x
    have hm2 : 0 ≤ x % 128 ∧ x % 128 < 128 := by omega
    by_cases hx : -64 ≤ x ∧ x < 64
    · have HV : Hid (putS n = d ++ [UInt8.ofNat (x % 128).toNat]) := Lib.hid (by rw [hd.out, putS_last (last_s hx.1 hx.2)])
      by_cases hs : 0 ≤ x
      · have h64 : x % 128 < 64 := by omega
        go_wp2_with (at_builtin; refine wpList_append_byte _ rfl (.tmp 24) (.tmp 26) 46 rfl 5 i0 Tryz.underlying46 hi hz0 hz1 hz2 w.heap.size _ d rfl (hown.alloc _) ⟨wr.heap.size, 0, none⟩ 1 (UInt8.ofNat (x % 128).toNat) rfl ?c1 hdl ?c2 ?_)
        case c1 => first | omega | (rw [byte_of (by omega) (by omega)]; exact cell_new _ _ _)
        case c2 => first | omega | (simp; omega)
        intro v2 w2 hr2 hg2
        have hcv := own_string (P := Tryz.prog) w2 46 9 5 w.heap.size _ v2 _ Tryz.underlying46 Tryz.underlying5 Tryz.underlying9 hr2
        go_wp2
        go_ret
        exact ⟨by rw [HV.out]; rfl, (hb.alloc hsz _).grown hg2 (by simp; omega) hown.ge⟩
      · have h64 : 64 ≤ x % 128 := by omega
        go_wp2_with (at_builtin; refine wpList_append_byte _ rfl (.tmp 24) (.tmp 26) 46 rfl 5 i0 Tryz.underlying46 hi hz0 hz1 hz2 w.heap.size _ d rfl (hown.alloc _) ⟨wr.heap.size, 0, none⟩ 1 (UInt8.ofNat (x % 128).toNat) rfl ?c3 hdl ?c4 ?_)
        case c3 => first | omega | (rw [byte_of (by omega) (by omega)]; exact cell_new _ _ _)
        case c4 => first | omega | (simp; omega)
        intro v2 w2 hr2 hg2
        have hcv := own_string (P := Tryz.prog) w2 46 9 5 w.heap.size _ v2 _ Tryz.underlying46 Tryz.underlying5 Tryz.underlying9 hr2
        go_wp2
        go_ret
        exact ⟨by rw [HV.out]; rfl, (hb.alloc hsz _).grown hg2 (by simp; omega) hown.ge⟩
    · have HV : Hid (putS n = (d ++ [UInt8.ofNat (x % 128 + 128).toNat]) ++ putS (x / 128)) := Lib.hid (by rw [hd.out, putS_more (more_s (by omega))]; simp)
      rcases (show (64 ≤ x ∧ x < 128) ∨ (-128 ≤ x ∧ x < -64) ∨ x < -128 ∨ 128 ≤ x by omega) with hx | hx | hx | hx
      · have h64 : 64 ≤ x % 128 := by omega
        go_wp2_with (at_builtin; refine wpList_append_byte _ rfl (.tmp 29) (.tmp 32) 46 rfl 5 i0 Tryz.underlying46 hi hz0 hz1 hz2 w.heap.size _ d rfl (hown.alloc _) ⟨wr.heap.size, 0, none⟩ 1 (UInt8.ofNat (x % 128 + 128).toNat) rfl ?d1 hdl ?d2 ?_)
        case d1 => first | omega | (rw [byte_of (by omega) (by omega)]; exact cell_new _ _ _)
        case d2 => first | omega | (simp; omega)
        intro v2 w2 hr2 hg2
        go_wp2
        go_roundw
        case rel => exact ⟨_, 0, rfl, hr2, by omega, by omega, Lib.hid (by rw [HV.out, show x / 128 = 0 by omega]), (hb.alloc hsz _).grown hg2 (by simp; omega) hown.ge⟩
        case measure => simp [intOf]; omega
      · have h64 : x % 128 < 64 := by omega
        go_wp2_with (at_builtin; refine wpList_append_byte _ rfl (.tmp 29) (.tmp 32) 46 rfl 5 i0 Tryz.underlying46 hi hz0 hz1 hz2 w.heap.size _ d rfl (hown.alloc _) ⟨wr.heap.size, 0, none⟩ 1 (UInt8.ofNat (x % 128 + 128).toNat) rfl ?d3 hdl ?d4 ?_)
        case d3 => first | omega | (rw [byte_of (by omega) (by omega)]; exact cell_new _ _ _)
        case d4 => first | omega | (simp; omega)
        intro v2 w2 hr2 hg2
        go_wp2
        go_roundw
        case rel => exact ⟨_, -1, rfl, hr2, by omega, by omega, Lib.hid (by rw [HV.out, show x / 128 = -1 by omega]), (hb.alloc hsz _).grown hg2 (by simp; omega) hown.ge⟩
        case measure => simp [intOf]; omega
      · by_cases h64 : 64 ≤ x % 128
        · go_wp2_with (at_builtin; refine wpList_append_byte _ rfl (.tmp 29) (.tmp 32) 46 rfl 5 i0 Tryz.underlying46 hi hz0 hz1 hz2 w.heap.size _ d rfl (hown.alloc _) ⟨wr.heap.size, 0, none⟩ 1 (UInt8.ofNat (x % 128 + 128).toNat) rfl ?d5 hdl ?d6 ?_)
          case d5 => first | omega | (rw [byte_of (by omega) (by omega)]; exact cell_new _ _ _)
          case d6 => first | omega | (simp; omega)
          intro v2 w2 hr2 hg2
          go_wp2
          go_roundw
          case rel => exact ⟨_, x / 128, rfl, hr2, by omega, by omega, HV, (hb.alloc hsz _).grown hg2 (by simp; omega) hown.ge⟩
          case measure => simp [intOf]; omega
        · go_wp2_with (at_builtin; refine wpList_append_byte _ rfl (.tmp 29) (.tmp 32) 46 rfl 5 i0 Tryz.underlying46 hi hz0 hz1 hz2 w.heap.size _ d rfl (hown.alloc _) ⟨wr.heap.size, 0, none⟩ 1 (UInt8.ofNat (x % 128 + 128).toNat) rfl ?d7 hdl ?d8 ?_)
          case d7 => first | omega | (rw [byte_of (by omega) (by omega)]; exact cell_new _ _ _)
          case d8 => first | omega | (simp; omega)
          intro v2 w2 hr2 hg2
          go_wp2
          go_roundw
          case rel => exact ⟨_, x / 128, rfl, hr2, by omega, by omega, HV, (hb.alloc hsz _).grown hg2 (by simp; omega) hown.ge⟩
          case measure => simp [intOf]; omega
      · by_cases h64 : 64 ≤ x % 128
        · go_wp2_with (at_builtin; refine wpList_append_byte _ rfl (.tmp 29) (.tmp 32) 46 rfl 5 i0 Tryz.underlying46 hi hz0 hz1 hz2 w.heap.size _ d rfl (hown.alloc _) ⟨wr.heap.size, 0, none⟩ 1 (UInt8.ofNat (x % 128 + 128).toNat) rfl ?d9 hdl ?d10 ?_)
          case d9 => first | omega | (rw [byte_of (by omega) (by omega)]; exact cell_new _ _ _)
          case d10 => first | omega | (simp; omega)
          intro v2 w2 hr2 hg2
          go_wp2
          go_roundw
          case rel => exact ⟨_, x / 128, rfl, hr2, by omega, by omega, HV, (hb.alloc hsz _).grown hg2 (by simp; omega) hown.ge⟩
          case measure => simp [intOf]; omega
        · go_wp2_with (at_builtin; refine wpList_append_byte _ rfl (.tmp 29) (.tmp 32) 46 rfl 5 i0 Tryz.underlying46 hi hz0 hz1 hz2 w.heap.size _ d rfl (hown.alloc _) ⟨wr.heap.size, 0, none⟩ 1 (UInt8.ofNat (x % 128 + 128).toNat) rfl ?d11 hdl ?d12 ?_)
          case d11 => first | omega | (rw [byte_of (by omega) (by omega)]; exact cell_new _ _ _)
          case d12 => first | omega | (simp; omega)
          intro v2 w2 hr2 hg2
          go_wp2
          go_roundw
          case rel => exact ⟨_, x / 128, rfl, hr2, by omega, by omega, HV, (hb.alloc hsz _).grown hg2 (by simp; omega) hown.ge⟩
          case measure => simp [intOf]; omega
end Go.Proofs.YtpamchagidnijaaGreatDoor
