/-
  The library's functions that package module calls, by their contracts off the shelf: Trim, ValidString; and which of the library's tables lie in the memory that the walks start in. No statement is proved here.
-/
import Derived.Shelf.Strings.SlTrimAscii
import Derived.Shelf.Unicode.ValidAny
import Derived.Test.YtpamchagidnijaaGreatDoorOpFields
import Derived.Test.YtpamchagidnijaaGreatDoorNameValid
import Derived.Test.YtpamchagidnijaaGreatDoorModRefName
import Derived.Lib.AppendIntMem
namespace Go.Proofs.YtpamchagidnijaaGreatDoor
open Go.Shelf Go.RowKit Go.Lib

def lays160_ren : Go.Shelf.Ren := ⟨fun | 160 => 166 | 232 => 227 | 231 => 226 | 227 => 228 | 234 => 230 | 233 => 229 | 236 => 232 | 235 => 231 | 228 => 259 | 271 => 262 | 151 => 261 | 197 => 260 | 120 => 280 | 152 => 279 | 260 => 278 | 137 => 290 | 119 => 291 | 224 => 292 | 225 => 293 | 217 => 300 | 266 => 303 | n => n, fun | 9 => 9 | 4 => 4 | 3 => 3 | 5 => 5 | 117 => 273 | 116 => 272 | 0 => 0 | 124 => 276 | 21 => 21 | 105 => 295 | 46 => 167 | 119 => 214 | 139 => 217 | 138 => 216 | n => n, fun | 3 => 0 | 4 => 1 | n => n⟩
theorem lays160 : Go.Proofs.Lays.n160 Tryz.prog lays160_ren := {
  mixed := by kernel_rfl,
  f119 := Tryz.func291.trans (congrArg some (by kernel_rfl)),
  f120 := Tryz.func280.trans (congrArg some (by kernel_rfl)),
  f137 := Tryz.func290.trans (congrArg some (by kernel_rfl)),
  f151 := Tryz.func261.trans (congrArg some (by kernel_rfl)),
  f152 := Tryz.func279.trans (congrArg some (by kernel_rfl)),
  f160 := Tryz.func166.trans (congrArg some (by kernel_rfl)),
  f197 := Tryz.func260.trans (congrArg some (by kernel_rfl)),
  f217 := Tryz.func300.trans (congrArg some (by kernel_rfl)),
  f224 := Tryz.func292.trans (congrArg some (by kernel_rfl)),
  f225 := Tryz.func293.trans (congrArg some (by kernel_rfl)),
  f227 := Tryz.func228.trans (congrArg some (by kernel_rfl)),
  f228 := Tryz.func259.trans (congrArg some (by kernel_rfl)),
  f231 := Tryz.func226.trans (congrArg some (by kernel_rfl)),
  f232 := Tryz.func227.trans (congrArg some (by kernel_rfl)),
  f233 := Tryz.func229.trans (congrArg some (by kernel_rfl)),
  f234 := Tryz.func230.trans (congrArg some (by kernel_rfl)),
  f235 := Tryz.func231.trans (congrArg some (by kernel_rfl)),
  f236 := Tryz.func232.trans (congrArg some (by kernel_rfl)),
  f260 := Tryz.func278.trans (congrArg some (by kernel_rfl)),
  f266 := Tryz.func303.trans (congrArg some (by kernel_rfl)),
  f271 := Tryz.func262.trans (congrArg some (by kernel_rfl)),
  t0 := Tryz.underlying0,
  a0 := Tryz.isAgg0,
  z0 := Tryz.sizeOf0,
  v0 := Tryz.zeroValue0,
  t3 := Tryz.underlying3,
  a3 := Tryz.isAgg3,
  z3 := Tryz.sizeOf3,
  v3 := Tryz.zeroValue3,
  t4 := Tryz.underlying4,
  a4 := Tryz.isAgg4,
  z4 := Tryz.sizeOf4,
  v4 := Tryz.zeroValue4,
  t5 := Tryz.underlying5,
  a5 := Tryz.isAgg5,
  z5 := Tryz.sizeOf5,
  v5 := Tryz.zeroValue5,
  t9 := Tryz.underlying9,
  a9 := Tryz.isAgg9,
  z9 := Tryz.sizeOf9,
  v9 := Tryz.zeroValue9,
  t21 := Tryz.underlying21,
  a21 := Tryz.isAgg21,
  z21 := Tryz.sizeOf21,
  v21 := Tryz.zeroValue21,
  t46 := Tryz.underlying167,
  a46 := Tryz.isAgg167,
  z46 := Tryz.sizeOf167,
  v46 := Tryz.zeroValue167,
  t105 := Tryz.underlying295,
  a105 := Tryz.isAgg295,
  z105 := Tryz.sizeOf295,
  v105 := Tryz.zeroValue295,
  t116 := Tryz.underlying272,
  a116 := Tryz.isAgg272,
  z116 := Tryz.sizeOf272,
  t117 := Tryz.underlying273,
  a117 := Tryz.isAgg273,
  z117 := Tryz.sizeOf273,
  v117 := Tryz.zeroValue273,
  t119 := Tryz.underlying214,
  a119 := Tryz.isAgg214,
  z119 := Tryz.sizeOf214,
  t124 := Tryz.underlying276,
  a124 := Tryz.isAgg276,
  z124 := Tryz.sizeOf276,
  v124 := Tryz.zeroValue276,
  t138 := Tryz.underlying216,
  a138 := Tryz.isAgg216,
  z138 := Tryz.sizeOf216,
  v138 := Tryz.zeroValue216,
  t139 := Tryz.underlying217,
  a139 := Tryz.isAgg217,
  z139 := Tryz.sizeOf217,
  v139 := Tryz.zeroValue217,
  g3 := by kernel_rfl,
  g4 := by kernel_rfl }
def lays196_ren : Go.Shelf.Ren := ⟨fun | 196 => 94 | 259 => 176 | n => n, fun | 9 => 9 | 4 => 4 | 3 => 3 | 5 => 5 | 12 => 12 | 119 => 214 | 0 => 0 | 46 => 167 | 139 => 217 | 138 => 216 | 53 => 68 | n => n, fun | 3 => 0 | 4 => 1 | n => n⟩
theorem lays196 : Go.Proofs.Lays.n196 Tryz.prog lays196_ren := {
  mixed := by kernel_rfl,
  f196 := Tryz.func94.trans (congrArg some (by kernel_rfl)),
  f259 := Tryz.func176.trans (congrArg some (by kernel_rfl)),
  t0 := Tryz.underlying0,
  a0 := Tryz.isAgg0,
  z0 := Tryz.sizeOf0,
  v0 := Tryz.zeroValue0,
  t3 := Tryz.underlying3,
  a3 := Tryz.isAgg3,
  z3 := Tryz.sizeOf3,
  v3 := Tryz.zeroValue3,
  t4 := Tryz.underlying4,
  a4 := Tryz.isAgg4,
  z4 := Tryz.sizeOf4,
  v4 := Tryz.zeroValue4,
  t5 := Tryz.underlying5,
  a5 := Tryz.isAgg5,
  z5 := Tryz.sizeOf5,
  v5 := Tryz.zeroValue5,
  t9 := Tryz.underlying9,
  a9 := Tryz.isAgg9,
  z9 := Tryz.sizeOf9,
  v9 := Tryz.zeroValue9,
  t12 := Tryz.underlying12,
  a12 := Tryz.isAgg12,
  z12 := Tryz.sizeOf12,
  v12 := Tryz.zeroValue12,
  t46 := Tryz.underlying167,
  a46 := Tryz.isAgg167,
  z46 := Tryz.sizeOf167,
  v46 := Tryz.zeroValue167,
  t53 := Tryz.underlying68,
  a53 := Tryz.isAgg68,
  z53 := Tryz.sizeOf68,
  v53 := Tryz.zeroValue68,
  t119 := Tryz.underlying214,
  a119 := Tryz.isAgg214,
  z119 := Tryz.sizeOf214,
  t138 := Tryz.underlying216,
  a138 := Tryz.isAgg216,
  z138 := Tryz.sizeOf216,
  v138 := Tryz.zeroValue216,
  t139 := Tryz.underlying217,
  a139 := Tryz.isAgg217,
  z139 := Tryz.sizeOf217,
  v139 := Tryz.zeroValue217,
  g3 := by kernel_rfl,
  g4 := by kernel_rfl }
/-- The library's tables of spaces, of UTF-8's first bytes lie. -/
structure Laid (w : World) : Prop where
  spaces : Spaces w
  utf8 : Lib.Utf8Tabs 0 1 w
theorem Laid.below {w w' : World} (h : Laid w) (hb : Below w.heap.size w w') : Laid w' := ⟨h.spaces.below hb, Utf8Tabs_below h.utf8 hb⟩
theorem Laid.alloc {w : World} (h : Laid w) (o : Obj) : Laid (w.alloc o) := h.below ((Below.refl _ w).alloc (Nat.le_refl _) o)
theorem Laid.drew {w : World} (h : Laid w) : Laid w.drew := h.below (Below.refl _ w).drew

theorem dropWhile_nil (p : UInt8 → Bool) : ∀ l : List UInt8, l.dropWhile p = [] ↔ ∀ x ∈ l, p x = true
  | [] => by simp
  | a :: l => by
    rw [List.dropWhile_cons]
    by_cases h : p a = true
    · rw [if_pos h, dropWhile_nil p l]; simp [h]
    · rw [if_neg h]; simp [h]
theorem trim_all (l cs : List UInt8) : trimS l cs = [] ↔ ∀ x ∈ l, cs.contains x = true := by
  unfold trimS trimLeftS trimRightS
  rw [dropWhile_nil]
  constructor
  · intro h x hx
    by_cases hh : cs.contains x = true
    · exact hh
    · refine h x ?_
      rw [List.mem_reverse]
      have : ∀ (m : List UInt8), x ∈ m → x ∈ m.dropWhile (cs.contains ·) := by
        intro m
        induction m with
        | nil => intro q; cases q
        | cons a m ih =>
          intro q
          rw [List.dropWhile_cons]
          split
          · rename_i ha
            rcases List.mem_cons.1 q with rfl | q
            · exact absurd ha hh
            · exact ih q
          · exact q
      exact this _ (List.mem_reverse.2 hx)
  · intro h x hx
    rw [List.mem_reverse] at hx
    exact h x (List.mem_reverse.1 ((List.dropWhile_sublist _).subset hx))
theorem trim_types (l : List UInt8) : (trimS l [126, 127]).isEmpty = l.all vtype := by
  rw [Bool.eq_iff_iff, List.isEmpty_iff, trim_all, List.all_eq_true]
  refine forall_congr' fun x => forall_congr' fun _ => ?_
  simp only [vtype, List.contains_cons, List.contains_nil, Bool.or_false, Bool.or_eq_true, beq_iff_eq, decide_eq_true_eq]
  rw [← UInt8.toNat_inj, ← UInt8.toNat_inj]
  simp only [show (126 : UInt8).toNat = 126 from rfl, show (127 : UInt8).toNat = 127 from rfl]
  omega

theorem lib_trim (s : ByteArray) (w : World) (hs : s.size ≤ maxLen) :
    Calls Tryz.prog 166 #[.string s, .string ⟨#[126, 127]⟩] w fun e w' => (∃ r : ByteArray, e = .returned (.string r) ∧ r.toList.isEmpty = s.data.toList.all vtype) ∧ Below w.heap.size w w' :=
  (Any.strings_Trim_laid lays160 (by kernel_rfl) s ⟨#[126, 127]⟩ w (by unfold maxLen at hs; omega) (by decide) (ascii_of_all (by decide))).mono fun _ _ ⟨h1, h2⟩ => ⟨⟨_, h1, by rw [Lib.toList_data]; exact trim_types _⟩, h2⟩
theorem lib_valid (s : ByteArray) (w : World) (hL : Laid w) (hs : s.size ≤ maxLen) :
    Calls Tryz.prog 94 #[.string s] w fun e w' => e = .returned (.bool (isName s.data.toList)) ∧ Below w.heap.size w w' := by
  rw [← valid_name]
  exact Any.utf8_ValidString lays196 s w (by unfold maxLen at hs; omega) hL.utf8
end Go.Proofs.YtpamchagidnijaaGreatDoor
