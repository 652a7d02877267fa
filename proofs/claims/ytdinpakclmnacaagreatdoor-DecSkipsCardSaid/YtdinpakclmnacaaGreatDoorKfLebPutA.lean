/-
  Facts and contracts that the proof calls.
-/
import Derived.Test.YtdinpakclmnacaaGreatDoorKfLebRow
import Derived.Test.YtdinpakclmnacaaGreatDoorKfLebBits
namespace Go.Proofs.YtdinpakclmnacaaGreatDoor
set_option maxRecDepth 100000
set_option maxHeartbeats 16000000
open Go.RowKit
theorem Tryz.info5 : (Tryz.prog.info? 5).map (fun i => (i.zero, i.size, i.bytes)) = some (some (.int .u8 0), 1, 1) := by kernel_rfl
theorem or128 (n : Int) : bits .or .u8 (n % 256) 128 = n % 128 + 128 := by
  have h : ∀ x : Fin 256, bits .or .u8 (x.val : Int) 128 = (x.val : Int) % 128 + 128 := by decide +kernel
  have h2 := h ⟨(n % 256).toNat, by omega⟩
  simp only [Int.toNat_of_nonneg (show 0 ≤ n % 256 by omega)] at h2
  omega
theorem cell_new (w : World) (v : Value) (t : TypeId) : (w.alloc (.cells #[v] t)).cell? ⟨w.heap.size, 0, none⟩ = some v := by
  rw [World.cell?_alloc_at _ _ _ _ rfl]; rfl
theorem row_start (w : World) (vs : Array Value) (eb : Nat) : Row (w.alloc (.cells vs eb)) w.heap.size eb vs.size [] :=
  ⟨vs, heap_alloc_new w _, rfl, by simp, by simp⟩
theorem last_s {x : Int} (h0 : -64 ≤ x) (h1 : x < 64) : (x / 128 = 0 ∧ x % 128 < 64) ∨ (x / 128 = -1 ∧ 64 ≤ x % 128) := by omega
theorem more_s {x : Int} (h : x < -64 ∨ 64 ≤ x) : ¬ ((x / 128 = 0 ∧ x % 128 < 64) ∨ (x / 128 = -1 ∧ 64 ≤ x % 128)) := by omega
theorem put_s_room {n x : Int} {d : List UInt8} (hlen : (putS n).length ≤ 10) (hd : putS n = d ++ putS x) : d.length + 1 ≤ 10 := by
  have h := congrArg List.length hd
  have : 1 ≤ (putS x).length := by have := putS_ne x; cases hp : putS x <;> simp_all
  rw [List.length_append] at h
  omega
theorem put_u (n : Int) (h0 : 0 ≤ n) (h1 : n ≤ 18446744073709551615) (w : World) :
    Calls Tryz.prog 22 #[.int .u64 n] w fun e w' => e = .returned (.string ⟨(putU n).toArray⟩) ∧ Below w.heap.size w w' := by
  obtain ⟨i0, hi, hz0, hz1, hz2⟩ := info_parts Tryz.info5
  have hlen := putU_len10 h0 h1
  obtain ⟨B, hB⟩ : ∃ B, B = w.heap.size := ⟨_, rfl⟩
  go_enter Tryz.func22, Tryz.ntmps22
  go_wp2
  rw [← hB]
  have HB := Lib.hid hB
  clear hB
  go_loopw [0, 4] (fun m v wr => ∃ (d : List UInt8) (x : Int), m = .int .u64 x ∧ v = .slice (some ⟨B, 0, none⟩) d.length 10 ∧ Row wr B 154 10 d ∧ 0 ≤ x ∧ x ≤ 18446744073709551615 ∧ Hid (putU n = d ++ putU x) ∧ Below B w wr)
    (fun m _ _ => (intOf m).toNat)
  case atStart => exact ⟨[], n, rfl, rfl, by rw [HB.out]; exact row_start w _ _, h0, h1, Lib.hid rfl, (Below.refl _ _).alloc (Nat.le_of_eq HB.out) _⟩
  case round =>
    obtain ⟨d, x, rfl, rfl, hrow, hx0, hx1, hd, hb⟩ := hrel
    have hdl : d.length + 1 ≤ 10 := by
      have h := congrArg List.length hd.out
      have : 1 ≤ (putU x).length := by have := putU_ne x; cases hp : putU x <;> simp_all
      rw [List.length_append] at h
      omega
    have hBs := hrow.lt
    have HB2 := HB.out
    have hBw : w.heap.size ≤ B := by omega
    clear HB2
    by_cases hx : x < 128
    · have hb8 := byte_of hx0 (by omega)
      have hx8 : x % 256 = x := by omega
      go_wp2_with (at_builtin; refine wpList_append_row _ rfl (.tmp 16) (.tmp 19) 24 rfl 5 i0 Tryz.underlying24 hi hz1 B 154 10 d rfl (hrow.alloc _) ⟨wr.heap.size, 0, none⟩ 1 (UInt8.ofNat x.toNat) rfl ?c1 hdl ?_)
      case c1 => rw [hb8]; exact cell_new _ _ _
      intro w2 hr2 hg2
      have hcv := row_string (P := Tryz.prog) w2 24 9 5 B 154 10 _ Tryz.underlying24 Tryz.underlying5 Tryz.underlying9 hr2
      rw [List.length_append, List.length_cons, List.length_nil, Nat.zero_add] at hcv
      go_wp2
      go_ret
      have hv : putU n = d ++ [UInt8.ofNat x.toNat] := by rw [hd.out, putU_last hx]
      exact ⟨by rw [hv]; rfl, ((hb.alloc (by omega) _).grown hg2 (by simp; omega) (fun k hk => by simp at hk; omega)).mono hBw⟩
    · have ho := or128 x
      have hb8 := byte_of (x := x % 128 + 128) (by omega) (by omega)
      go_wp2_with (at_builtin; refine wpList_append_row _ rfl (.tmp 8) (.tmp 12) 24 rfl 5 i0 Tryz.underlying24 hi hz1 B 154 10 d rfl (hrow.alloc _) ⟨wr.heap.size, 0, none⟩ 1 (UInt8.ofNat (x % 128 + 128).toNat) rfl ?c2 hdl ?_)
      case c2 => first | omega | (rw [hb8]; exact cell_new _ _ _)
      intro w2 hr2 hg2
      clear ho
      go_wp2
      go_roundw
      case rel => exact ⟨d ++ [UInt8.ofNat (x % 128 + 128).toNat], x / 128, rfl, by simp, hr2, by omega, by omega, Lib.hid (by rw [hd.out, putU_more (by omega)]; simp), (hb.alloc (by omega) _).grown hg2 (by simp; omega) (fun k hk => by simp at hk; omega)⟩
      case measure => simp [intOf]; omega
theorem put_s (n : Int) (h0 : -9223372036854775808 ≤ n) (h1 : n ≤ 9223372036854775807) (w : World) :
    Calls Tryz.prog 166 #[.int .i64 n] w fun e w' => e = .returned (.string ⟨(putS n).toArray⟩) ∧ Below w.heap.size w w' := by
  obtain ⟨i0, hi, hz0, hz1, hz2⟩ := info_parts Tryz.info5
  have hlen := putS_len10 h0 h1
  obtain ⟨B, hB⟩ : ∃ B, B = w.heap.size := ⟨_, rfl⟩
  go_enter Tryz.func166, Tryz.ntmps166
  go_wp2
  rw [← hB]
  have HB := Lib.hid hB
  clear hB
  go_loopw [0, 4, 5] (fun m v low wr => ∃ (d : List UInt8) (x : Int), m = .int .i64 x ∧ v = .slice (some ⟨B, 0, none⟩) d.length 10 ∧ Row wr B 154 10 d ∧ -9223372036854775808 ≤ x ∧ x ≤ 9223372036854775807 ∧ Hid (putS n = d ++ putS x) ∧ Below B w wr)
    (fun m _ _ _ => (intOf m).natAbs)
  case atStart => exact ⟨[], n, rfl, rfl, by rw [HB.out]; exact row_start w _ _, h0, h1, Lib.hid rfl, (Below.refl _ _).alloc (Nat.le_of_eq HB.out) _⟩
  case round =>
    obtain ⟨d, x, rfl, rfl, hrow, hx0, hx1, hd, hb⟩ := hrel
    have hdl := put_s_room hlen hd.out
    have hBs := hrow.lt
    have HB2 := HB.out
    have hBw : w.heap.size ≤ B := by omega
    clear HB2
    have hm := i64_and127 x
    have hm2 : 0 ≤ x % 128 ∧ x % 128 < 128 := by omega
    by_cases hx : -64 ≤ x ∧ x < 64
    · have hv : putS n = d ++ [UInt8.ofNat (x % 128).toNat] := by rw [hd.out, putS_last (last_s hx.1 hx.2)]
      have HV := Lib.hid hv
      clear hv
      by_cases hs : 0 ≤ x
      · have h64 : bits .and .u8 (x % 128) 64 = 0 := by rw [mask64 (by omega) (by omega), if_neg (by omega)]
        go_wp2_with (at_builtin; refine wpList_append_row _ rfl (.tmp 28) (.tmp 30) 24 rfl 5 i0 Tryz.underlying24 hi hz1 B 154 10 d rfl (hrow.alloc _) ⟨wr.heap.size, 0, none⟩ 1 (UInt8.ofNat (x % 128).toNat) rfl ?c1 hdl ?_)
        case c1 => first | omega | (rw [byte_of (by omega) (by omega)]; exact cell_new _ _ _)
        intro w2 hr2 hg2
        have hcv := row_string (P := Tryz.prog) w2 24 9 5 B 154 10 _ Tryz.underlying24 Tryz.underlying5 Tryz.underlying9 hr2
        rw [List.length_append, List.length_cons, List.length_nil, Nat.zero_add] at hcv
        go_wp2
        go_ret
        exact ⟨by rw [HV.out]; rfl, ((hb.alloc (by omega) _).grown hg2 (by simp; omega) (fun k hk => by simp at hk; omega)).mono hBw⟩
      · have h64 : bits .and .u8 (x % 128) 64 = 64 := by rw [mask64 (by omega) (by omega), if_pos (by omega)]
        go_wp2_with (at_builtin; refine wpList_append_row _ rfl (.tmp 28) (.tmp 30) 24 rfl 5 i0 Tryz.underlying24 hi hz1 B 154 10 d rfl (hrow.alloc _) ⟨wr.heap.size, 0, none⟩ 1 (UInt8.ofNat (x % 128).toNat) rfl ?c2 hdl ?_)
        case c2 => first | omega | (rw [byte_of (by omega) (by omega)]; exact cell_new _ _ _)
        intro w2 hr2 hg2
        have hcv := row_string (P := Tryz.prog) w2 24 9 5 B 154 10 _ Tryz.underlying24 Tryz.underlying5 Tryz.underlying9 hr2
        rw [List.length_append, List.length_cons, List.length_nil, Nat.zero_add] at hcv
        go_wp2
        go_ret
        exact ⟨by rw [HV.out]; rfl, ((hb.alloc (by omega) _).grown hg2 (by simp; omega) (fun k hk => by simp at hk; omega)).mono hBw⟩
    · have HV : Hid (putS n = (d ++ [UInt8.ofNat (x % 128 + 128).toNat]) ++ putS (x / 128)) := Lib.hid (by rw [hd.out, putS_more (more_s (by omega))]; simp)
      have ho : bits .or .u8 (x % 128) 128 = x % 128 + 128 := u8_or128_right _ (by omega) (by omega)
      have h64 : bits .and .u8 (x % 128) 64 = if 64 ≤ x % 128 then 64 else 0 := by rw [mask64 (by omega) (by omega), show x % 128 % 128 = x % 128 by omega]
      rcases (show (64 ≤ x ∧ x < 128) ∨ (-128 ≤ x ∧ x < -64) ∨ x < -128 ∨ 128 ≤ x by omega) with hx | hx | hx | hx
      · rw [if_pos (by omega)] at h64
        go_wp2_with (at_builtin; refine wpList_append_row _ rfl (.tmp 33) (.tmp 36) 24 rfl 5 i0 Tryz.underlying24 hi hz1 B 154 10 d rfl (hrow.alloc _) ⟨wr.heap.size, 0, none⟩ 1 (UInt8.ofNat (x % 128 + 128).toNat) rfl ?c3 hdl ?_)
        case c3 => first | omega | (rw [byte_of (by omega) (by omega)]; exact cell_new _ _ _)
        intro w2 hr2 hg2
        clear ho h64 hm
        go_wp2
        go_roundw
        case rel => exact ⟨_, 0, rfl, by simp, hr2, by omega, by omega, Lib.hid (by rw [HV.out, show x / 128 = 0 by omega]), (hb.alloc (by omega) _).grown hg2 (by simp; omega) (fun k hk => by simp at hk; omega)⟩
        case measure => simp [intOf]; omega
      · rw [if_neg (by omega)] at h64
        go_wp2_with (at_builtin; refine wpList_append_row _ rfl (.tmp 33) (.tmp 36) 24 rfl 5 i0 Tryz.underlying24 hi hz1 B 154 10 d rfl (hrow.alloc _) ⟨wr.heap.size, 0, none⟩ 1 (UInt8.ofNat (x % 128 + 128).toNat) rfl ?c4 hdl ?_)
        case c4 => first | omega | (rw [byte_of (by omega) (by omega)]; exact cell_new _ _ _)
        intro w2 hr2 hg2
        clear ho h64 hm
        go_wp2
        go_roundw
        case rel => exact ⟨_, -1, rfl, by simp, hr2, by omega, by omega, Lib.hid (by rw [HV.out, show x / 128 = -1 by omega]), (hb.alloc (by omega) _).grown hg2 (by simp; omega) (fun k hk => by simp at hk; omega)⟩
        case measure => simp [intOf]; omega
      · by_cases h6 : 64 ≤ x % 128
        · rw [if_pos h6] at h64
          go_wp2_with (at_builtin; refine wpList_append_row _ rfl (.tmp 33) (.tmp 36) 24 rfl 5 i0 Tryz.underlying24 hi hz1 B 154 10 d rfl (hrow.alloc _) ⟨wr.heap.size, 0, none⟩ 1 (UInt8.ofNat (x % 128 + 128).toNat) rfl ?c5 hdl ?_)
          case c5 => first | omega | (rw [byte_of (by omega) (by omega)]; exact cell_new _ _ _)
          intro w2 hr2 hg2
          clear ho h64 hm
          go_wp2
          go_roundw
          case rel => exact ⟨_, x / 128, rfl, by simp, hr2, by omega, by omega, HV, (hb.alloc (by omega) _).grown hg2 (by simp; omega) (fun k hk => by simp at hk; omega)⟩
          case measure => simp [intOf]; omega
        · rw [if_neg h6] at h64
          go_wp2_with (at_builtin; refine wpList_append_row _ rfl (.tmp 33) (.tmp 36) 24 rfl 5 i0 Tryz.underlying24 hi hz1 B 154 10 d rfl (hrow.alloc _) ⟨wr.heap.size, 0, none⟩ 1 (UInt8.ofNat (x % 128 + 128).toNat) rfl ?c6 hdl ?_)
          case c6 => first | omega | (rw [byte_of (by omega) (by omega)]; exact cell_new _ _ _)
          intro w2 hr2 hg2
          clear ho h64 hm
          go_wp2
          go_roundw
          case rel => exact ⟨_, x / 128, rfl, by simp, hr2, by omega, by omega, HV, (hb.alloc (by omega) _).grown hg2 (by simp; omega) (fun k hk => by simp at hk; omega)⟩
          case measure => simp [intOf]; omega
      · by_cases h6 : 64 ≤ x % 128
        · rw [if_pos h6] at h64
          go_wp2_with (at_builtin; refine wpList_append_row _ rfl (.tmp 33) (.tmp 36) 24 rfl 5 i0 Tryz.underlying24 hi hz1 B 154 10 d rfl (hrow.alloc _) ⟨wr.heap.size, 0, none⟩ 1 (UInt8.ofNat (x % 128 + 128).toNat) rfl ?c7 hdl ?_)
          case c7 => first | omega | (rw [byte_of (by omega) (by omega)]; exact cell_new _ _ _)
          intro w2 hr2 hg2
          clear ho h64 hm
          go_wp2
          go_roundw
          case rel => exact ⟨_, x / 128, rfl, by simp, hr2, by omega, by omega, HV, (hb.alloc (by omega) _).grown hg2 (by simp; omega) (fun k hk => by simp at hk; omega)⟩
          case measure => simp [intOf]; omega
        · rw [if_neg h6] at h64
          go_wp2_with (at_builtin; refine wpList_append_row _ rfl (.tmp 33) (.tmp 36) 24 rfl 5 i0 Tryz.underlying24 hi hz1 B 154 10 d rfl (hrow.alloc _) ⟨wr.heap.size, 0, none⟩ 1 (UInt8.ofNat (x % 128 + 128).toNat) rfl ?c8 hdl ?_)
          case c8 => first | omega | (rw [byte_of (by omega) (by omega)]; exact cell_new _ _ _)
          intro w2 hr2 hg2
          clear ho h64 hm
          go_wp2
          go_roundw
          case rel => exact ⟨_, x / 128, rfl, by simp, hr2, by omega, by omega, HV, (hb.alloc (by omega) _).grown hg2 (by simp; omega) (fun k hk => by simp at hk; omega)⟩
          case measure => simp [intOf]; omega
end Go.Proofs.YtdinpakclmnacaaGreatDoor
