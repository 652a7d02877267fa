/-
  Facts and contracts that the proof calls.
-/
import Derived.Test.YtdinpakclmnacaaGreatDoorKfModOpen
import Derived.Test.YtdinpakclmnacaaGreatDoorKfDecRd
namespace Go.Proofs.YtdinpakclmnacaaGreatDoor
set_option maxRecDepth 100000
set_option maxHeartbeats 16000000
open Go.RowKit
set_option linter.unusedVariables false
structure BroAt (w0 : World) (g n : Nat) (W : World) : Prop where
  below : Below w0.heap.size w0 W
  hg : w0.heap.size ≤ g
  cells : ∃ ns : List UInt8, ns.length = n ∧ ∀ j (h : j < ns.length), W.cell? ⟨g, j, none⟩ = some (.int .u8 (ns[j].toNat : Int))
  free : ∀ j, j < n → W.frozen? ⟨g, j, none⟩ = false
theorem BroAt.start (w : World) (s : ByteArray) : BroAt w w.heap.size s.size (Lib.bytesWorld w 5 s) where
  below := ⟨rfl, rfl, rfl, by rw [Lib.bytesWorld_size]; omega, fun k hk => Lib.bytesWorld_at_old w _ s k hk⟩
  hg := Nat.le_refl _
  cells := ⟨s.data.toList, Array.length_toList, fun j h => by
    have h' : j < s.size := by rw [Array.length_toList] at h; exact h
    rw [Lib.bytesWorld_cell w _ s j h']
    rw [show s.data.toList.getD j 0 = s.data.toList[j] from by rw [List.getD, List.getElem?_eq_getElem h]; rfl]⟩
  free := fun j hj => by
    have h2 : j < (Lib.bytesCells w 5 s).size := by
      simp [Lib.bytesCells]
      show j < s.size + _
      omega
    simp [World.frozen?, Lib.bytesWorld_at_new]
    omega
theorem BroAt.set {w0 : World} {g n : Nat} {W : World} (h : BroAt w0 g n W) (k : Nat) (hk : k < n) (b : Int) (hb : 0 ≤ b ∧ b < 256) : BroAt w0 g n (W.setCell ⟨g, k, none⟩ (.int .u8 b)) := by
  obtain ⟨ns, hl, hc⟩ := h.cells
  have e : ((UInt8.ofNat b.toNat).toNat : Int) = b := by have := hb.1; have := hb.2; simp; omega
  have hck := hc k (by omega)
  refine ⟨h.below.setCell h.hg _, h.hg, ⟨ns.set k (UInt8.ofNat b.toNat), by simp [hl], fun j hj => ?_⟩, fun j hj => ?_⟩
  · have hj' : j < ns.length := by rwa [List.length_set] at hj
    by_cases hjk : j = k
    · subst hjk
      rw [World.cell?_setCell_same _ _ _ (hc j hj')]
      simp only [List.getElem_set_self]
      rw [e]
    · rw [World.cell?_setCell_other _ _ _ _ (by intro h; injection h with _ h2 _; exact hjk h2.symm), hc j hj']
      rw [List.getElem_set_ne (by omega)]
  · rw [World.frozen?_setCell]
    exact h.free j hj
theorem BroAt.drew {w0 : World} {g n : Nat} {W : World} (h : BroAt w0 g n W) : BroAt w0 g n W.drew := ⟨h.below.drew, h.hg, h.cells, h.free⟩
theorem bro_string {w0 : World} {g n : Nat} {W : World} (h : BroAt w0 g n W) (cap : Nat) : ∃ s : ByteArray, s.size = n ∧ (convert 24 9 (.slice (some ⟨g, 0, none⟩) n cap)).run Tryz.prog W = .ok (.string s) W := by
  obtain ⟨ns, hl, hc⟩ := h.cells
  subst hl
  refine ⟨⟨ns.toArray⟩, by simp [ByteArray.size], run_convert_bytes_back W 24 9 5 ⟨g, 0, none⟩ cap ns Tryz.underlying24 Tryz.underlying5 Tryz.underlying9 fun j hj => ?_⟩
  rw [Go.WideShapes.add_plain, Nat.zero_add]
  exact hc j hj
theorem broken_of (s : ByteArray) (hs : s.size ≤ 140737488355328) (ap : Option Addr) (ac : Nat) (al : List Int) (bp : Option Addr) (bc : Nat) (bl : List Int) (w : World) (hA : IntsAt w ap al) (hAi : ∀ n ∈ al, inI64 n) (hAl : al.length ≤ 17592186044416) (hB : BytesAt w bp bl) :
    Calls Tryz.prog 12 #[.string s, .slice ap al.length ac, .slice bp bl.length bc] w fun e w' => ∃ s', e = .returned (.string s') ∧ s'.size = s.size ∧ Below w.heap.size w w' := by
  obtain ⟨n, hn⟩ : ∃ n, s.size = n := ⟨_, rfl⟩
  have h0 := BroAt.start w s
  rw [hn] at h0
  have cv := Lib.run_convert_string_bytes (P := Tryz.prog) w 9 24 5 s Tryz.underlying9 Tryz.underlying24 Tryz.underlying5
  rw [hn] at cv
  have HN := Lib.hid hn
  have hBl := hB.most
  unfold mostThings at hBl
  generalize hcap : grownCap w n 0 5 = cap at *
  generalize hWb : Lib.bytesWorld w 5 s = Wb at *
  go_enter Tryz.func12, Tryz.ntmps12
  go_wp2
  clear cv hcap hWb
  have hn64 : n ≤ 140737488355328 := by rw [← HN.out]; exact hs
  go_loopw [8] (fun i wr => ∃ k : Nat, k ≤ 4 ∧ i = .int .i64 k ∧ BroAt w w.heap.size n wr) (fun i _ => 4 - (intOf i).toNat)
  case atStart => exact ⟨0, by omega, rfl, h0⟩
  case round =>
    obtain ⟨k, hk4, rfl, hW⟩ := hrel
    obtain ⟨s', hs', hcs⟩ := bro_string hW cap
    by_cases h1 : k < al.length
    · by_cases h2 : k < bl.length
      · by_cases h3 : k < 4
        · by_cases h4 : 0 < n
          · have hAw := hA.below hW.below (Nat.le_refl _)
            have hBw := hB.rows.below hW.below (Nat.le_refl _)
            obtain ⟨ab, ao, rfl, hab, hac⟩ := hAw k h1
            obtain ⟨bb, bo, hbp, hbb, hbc⟩ := hBw k h2 0 _ rfl
            subst hbp
            simp only [Nat.mul_one, Nat.add_zero] at hbc
            have hn0 : n ≠ 0 := by omega
            have hai := hAi al[k] (List.getElem_mem h1)
            have hbi := hB.within bl[k] (List.getElem_mem h2)
            generalize al[k] = x at *
            generalize bl[k] = y at *
            unfold inI64 at hai
            have q1 : (k : Int) < (al.length : Int) := by omega
            have q2 : (k : Int) < (bl.length : Int) := by omega
            have q3 : (k : Int) < 4 := by omega
            have q4 : (0 : Int) < (n : Int) := by omega
            have hnz : (n : Int) ≠ 0 := by omega
            have hnq : ((n : Int) == 0) = false := beq_eq_false_iff_ne.2 hnz
            obtain ⟨y0, y1⟩ := hbi
            by_cases hx : x < 0
            · have w1 : wrap64 (x + 1) = x + 1 := by unfold wrap64; omega
              obtain ⟨m, hm, hml⟩ : ∃ m : Nat, (-(x + 1)) % (n : Int) = m ∧ m < n := ⟨((-(x + 1)) % (n : Int)).toNat, (by have := Int.emod_nonneg (-(x + 1)) hnz; omega), (by have := Int.emod_lt_of_pos (-(x + 1)) q4; omega)⟩
              have hmt : (-(x + 1)).tmod (n : Int) = m := by rw [Int.tmod_eq_emod_of_nonneg (by omega)]; exact hm
              obtain ⟨ns, hnl, hnc⟩ := hW.cells
              have cm := hnc m (by omega)
              have fm := hW.free m hml
              have m0 : (0 : Int) ≤ (m : Int) := by omega
              have m1 : (m : Int) < (n : Int) := by omega
              clear hnc hAw hBw hA hB hcs h0 hn
              go_wp2
              go_region
              all_goals
                go_wp2
                go_roundw
                case rel => exact ⟨k + 1, by omega, by go_num, hW.drew.set m hml y ⟨y0, y1⟩⟩
                case measure => simp [intOf]; omega
            · obtain ⟨m, hm, hml⟩ : ∃ m : Nat, (x) % (n : Int) = m ∧ m < n := ⟨((x) % (n : Int)).toNat, (by have := Int.emod_nonneg (x) hnz; omega), (by have := Int.emod_lt_of_pos (x) q4; omega)⟩
              have hmt : (x).tmod (n : Int) = m := by rw [Int.tmod_eq_emod_of_nonneg (by omega)]; exact hm
              obtain ⟨ns, hnl, hnc⟩ := hW.cells
              have cm := hnc m (by omega)
              have fm := hW.free m hml
              have m0 : (0 : Int) ≤ (m : Int) := by omega
              have m1 : (m : Int) < (n : Int) := by omega
              clear hnc hAw hBw hA hB hcs h0 hn
              go_wp2
              go_region
              all_goals
                go_wp2
                go_roundw
                case rel => exact ⟨k + 1, by omega, by go_num, hW.drew.set m hml y ⟨y0, y1⟩⟩
                case measure => simp [intOf]; omega
          · have q4 : ¬ (0 : Int) < (n : Int) := by omega
            have q1 : (k : Int) < (al.length : Int) := by omega
            have q2 : (k : Int) < (bl.length : Int) := by omega
            have q3 : (k : Int) < 4 := by omega
            clear h0 hn
            go_wp2
            go_ret
            exact ⟨s', rfl, hs'.trans HN.out.symm, hW.below⟩
        · have q3 : ¬ (k : Int) < 4 := by omega
          have q1 : (k : Int) < (al.length : Int) := by omega
          have q2 : (k : Int) < (bl.length : Int) := by omega
          clear h0 hn
          go_wp2
          go_ret
          exact ⟨s', rfl, hs'.trans HN.out.symm, hW.below⟩
      · have q2 : ¬ (k : Int) < (bl.length : Int) := by omega
        have q1 : (k : Int) < (al.length : Int) := by omega
        clear h0 hn
        go_wp2
        go_ret
        exact ⟨s', rfl, hs'.trans HN.out.symm, hW.below⟩
    · have q1 : ¬ (k : Int) < (al.length : Int) := by omega
      clear h0 hn
      go_wp2
      go_ret
      exact ⟨s', rfl, hs'.trans HN.out.symm, hW.below⟩
end Go.Proofs.YtdinpakclmnacaaGreatDoor
