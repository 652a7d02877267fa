/-
  What lies in the memory that package value reads; how a value is told: walked. Contracts that the proofs call; no statement is proved here.
-/
import Derived.Lib.LaidTab
import Derived.Test.YtfjoobopfjahcaaDoorVuRepl
import Derived.Test.YtfjoobopfjahcaaDoorVuFits
import Derived.Test.YtfjoobopfjahcaaDoorVuSpelt
namespace Go.Proofs.YtfjoobopfjahcaaDoor
open Go.RowKit

/-- What the walks read of the program's and the library's variables. -/
structure Laid (w : World) : Prop where
  tru : Tru w
  tens : Tens w
  most : ∃ m : Int, w.cell? ⟨1, 0, none⟩ = some (.int .i64 m)
theorem Laid.below {w w' : World} (h : Laid w) (hb : Below w.heap.size w w') : Laid w' := by
  obtain ⟨m, hm⟩ := h.most
  exact ⟨h.tru.below hb (Nat.le_refl _), Lib.tabBelow_of_tabIs h.tens w' hb, m, (hb.cell (p := ⟨1, 0, none⟩) (World.block_lt_of_cell? w _ hm)).trans hm⟩
theorem Laid.alloc {w : World} (h : Laid w) (o : Obj) : Laid (w.alloc o) := h.below ((Below.refl _ w).alloc (Nat.le_refl _) o)

theorem val_replace (s : ByteArray) (hs : s.size ≤ 200) (w : World) (hL : Laid w) :
    Calls Tryd.prog 42 #[.string s, .string ⟨#[39]⟩, .string ⟨#[39, 39]⟩] w fun e w' => e = .returned (.string ⟨(twice s.data.toList).toArray⟩) ∧ Below w.heap.size w w' := by
  obtain ⟨m, hm⟩ := hL.most
  have hc := Lib.countB_mul_le ⟨#[39]⟩ (by decide) s.size s (Nat.le_refl _)
  have hsz : (⟨#[39]⟩ : ByteArray).size = 1 := rfl
  have hsz2 : (⟨#[39, 39]⟩ : ByteArray).size = 2 := rfl
  rw [hsz] at hc
  have h := sh_strings_ReplaceAll s ⟨#[39]⟩ ⟨#[39, 39]⟩ m w (by omega) hm (by decide) (by rw [hsz2]; omega)
  rw [show (⟨#[39]⟩ : ByteArray).data.toList = [39] from rfl, show (⟨#[39, 39]⟩ : ByteArray).data.toList = [39, 39] from rfl, replaceAll_twice] at h
  exact h

theorem fit_size {k s : Int} {null u : Bool} {n : Int} {z : ByteArray} (h : fitV k s null u n z = true) : u = false → k = 3 → z.size ≤ 200 := by
  rintro rfl rfl
  unfold fitV at h
  simp at h
  exact h.2.2
theorem fit_places {k s : Int} {null u : Bool} {n : Int} {z : ByteArray} (h : fitV k s null u n z = true) : 0 ≤ s ∧ s ≤ 9 := by
  unfold fitV at h
  simp only [Bool.and_eq_true] at h
  have := tyR_true.1 h.1
  omega

set_option maxRecDepth 100000 in
set_option maxHeartbeats 8000000 in
theorem val_text (u : Bool) (n : Int) (z : ByteArray) (k s : Int) (hn : -9223372036854775808 ≤ n ∧ n ≤ 9223372036854775807) (hz : z.size ≤ maxLen) (w : World) (hL : Laid w) :
    Calls Tryd.prog 27 #[.agg #[.bool u, .int .i64 n, .string z], .agg #[.int .i64 k, .int .i64 s]] w fun e w' => e = .returned (.tuple #[.string (txtV u n z k s).1, .bool (txtV u n z k s).2]) ∧ Below w.heap.size w w' := by
  have cf := fun w hT => val_fits k s true u n z hz w hT
  have hT2 : ∀ A B, Tru ((w.alloc A).alloc B) := fun A B => ((hL.alloc A).alloc B).tru
  cases hf : fitV k s true u n z
  · rw [hf] at cf
    have e : txtV u n z k s = (⟨#[]⟩, false) := by unfold txtV; rw [if_pos hf]
    rw [e]
    go_enter Tryd.func27, Tryd.ntmps27
    go_wp2_with (go_at_call 17; (with_reducible refine (cf _ (hT2 _ _)).mono ?_); rintro e w1 ⟨rfl, hb1⟩; have hB := bt b2 hb1)
    go_ret2
    exact ⟨rfl, hB⟩
  · rw [hf] at cf
    have hsz := fit_size hf
    have hp := fit_places hf
    cases u
    · by_cases h3 : k = 3
      · have hz2 := hsz rfl h3
        subst h3
        have e : txtV false n z 3 s = (⟨(quoted z.data.toList).toArray⟩, true) := by unfold txtV; rw [if_neg (by rw [hf]; simp), if_neg (by simp), if_pos rfl]
        have hq : ∀ x : ByteArray, x.data.toList = twice z.data.toList → ((⟨#[39]⟩ : ByteArray) ++ x ++ ⟨#[39]⟩) = ⟨(quoted z.data.toList).toArray⟩ := fun x hx => str_eq (by rw [ByteArray.data_append, ByteArray.data_append, Array.toList_append, Array.toList_append, hx]; unfold quoted twice; simp)
        obtain ⟨X, hX⟩ : ∃ X : ByteArray, X = ⟨(twice z.data.toList).toArray⟩ := ⟨_, rfl⟩
        have hQ := Lib.hid (hq X (by rw [hX]))
        have cr := fun w hL => val_replace z hz2 w hL
        rw [← hX] at cr
        have hXs : X.size ≤ 400 := by
          have := twice_len z.data.toList
          have e1 : z.data.toList.length = z.size := Array.length_toList
          rw [hX]; show (twice z.data.toList).toArray.size ≤ 400
          rw [List.size_toArray]; omega
        clear hX
        rw [e]
        clear e hq hsz hp
        go_enter Tryd.func27, Tryd.ntmps27
        go_wp2_with (first
          | (go_at_call 17; (with_reducible refine (cf _ (hT2 _ _)).mono ?_); rintro e w1 ⟨rfl, hb1⟩; have hB := bt b2 hb1; have hL1 := hL.below hB; obtain ⟨hc, hx⟩ := bcell hb1)
          | (go_at_call 42; (with_reducible refine (cr _ hL1).mono ?_); rintro e w2 ⟨rfl, hb2⟩; have hB2 := bt hB hb2))
        go_ret2
        exact ⟨congrArg (fun x => Ending.returned (.tuple #[.string x, .bool true])) hQ.out, hB2⟩
      · have h3b : (k == 3) = false := by simpa using h3
        by_cases h4 : k = 4
        · subst h4
          by_cases h0 : n = 0
          all_goals
            first
              | (have e : txtV false n z 4 s = (⟨#[70, 65, 76, 83, 69]⟩, true) := by unfold txtV; rw [if_neg (by rw [hf]; simp), if_neg (by simp), if_neg h3, if_pos rfl, if_pos h0]
                 subst h0)
              | (have e : txtV false n z 4 s = (⟨#[84, 82, 85, 69]⟩, true) := by unfold txtV; rw [if_neg (by rw [hf]; simp), if_neg (by simp), if_neg h3, if_pos rfl, if_neg h0]
                 have h0b : (n == 0) = false := by simpa using h0
                 clear h0)
            rw [e]
            clear e hsz hp
            go_enter Tryd.func27, Tryd.ntmps27
            go_wp2_with (go_at_call 17; (with_reducible refine (cf _ (hT2 _ _)).mono ?_); rintro e w1 ⟨rfl, hb1⟩; have hB := bt b2 hb1; have hL1 := hL.below hB; obtain ⟨hc, hx⟩ := bcell hb1)
            go_ret2
            exact ⟨rfl, hB⟩
        · have h4b : (k == 4) = false := by simpa using h4
          have e : txtV false n z k s = (⟨(spellN n s.toNat).toArray⟩, true) := by unfold txtV; rw [if_neg (by rw [hf]; simp), if_neg (by simp), if_neg h3, if_neg h4]
          rw [e]
          obtain ⟨p, rfl⟩ : ∃ p : Nat, s = p := ⟨s.toNat, by omega⟩
          have cs := fun w hT => val_spelt n hn p (by omega) w hT
          rw [show ((p : Int)).toNat = p by omega]
          generalize (⟨(spellN n p).toArray⟩ : ByteArray) = R at *
          clear e hsz hp
          go_enter Tryd.func27, Tryd.ntmps27
          go_wp2_with (first
            | (go_at_call 17; (with_reducible refine (cf _ (hT2 _ _)).mono ?_); rintro e w1 ⟨rfl, hb1⟩; have hB := bt b2 hb1; have hL1 := hL.below hB; obtain ⟨hc, hx⟩ := bcell hb1)
            | (go_at_call 43; (with_reducible refine (cs _ hL1.tens).mono ?_); rintro e w2 ⟨rfl, hb2⟩; have hB2 := bt hB hb2))
          go_ret2
          exact ⟨rfl, hB2⟩
    · have e : txtV true n z k s = (⟨#[78, 85, 76, 76]⟩, true) := by unfold txtV; rw [if_neg (by rw [hf]; simp), if_pos rfl]
      rw [e]
      go_enter Tryd.func27, Tryd.ntmps27
      go_wp2_with (go_at_call 17; (with_reducible refine (cf _ (hT2 _ _)).mono ?_); rintro e w1 ⟨rfl, hb1⟩; have hB := bt b2 hb1; obtain ⟨hc, hx⟩ := bcell hb1)
      go_ret2
      exact ⟨rfl, hB⟩
end Go.Proofs.YtfjoobopfjahcaaDoor
