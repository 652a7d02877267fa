/-
  The library's functions that package module calls, by their contracts off the shelf: Trim, ValidString; and which of the library's tables lie in the memory that the walks start in. No statement is proved here.
-/
import Derived.Shelf.Strings.SlTrimAscii
import Derived.Shelf.Unicode.ValidAny
import Derived.Test.YtieogmalgmgkeaaGreatDoorOpFields
import Derived.Test.YtieogmalgmgkeaaGreatDoorNameValid
import Derived.Test.YtieogmalgmgkeaaGreatDoorModRefName
import Derived.Lib.AppendIntMem
namespace Go.Proofs.YtieogmalgmgkeaaGreatDoor
open Go.Shelf Go.RowKit Go.Lib

def lays160_ren : Go.Shelf.Ren := ⟨fun | 160 => 89 | 232 => 125 | 231 => 124 | 227 => 126 | 234 => 128 | 233 => 127 | 236 => 130 | 235 => 129 | 228 => 144 | 271 => 147 | 151 => 146 | 197 => 145 | 120 => 154 | 152 => 153 | 260 => 152 | 137 => 157 | 119 => 158 | 224 => 159 | 225 => 160 | 217 => 161 | 266 => 162 | n => n, fun | 9 => 9 | 4 => 4 | 3 => 3 | 5 => 5 | 117 => 172 | 116 => 171 | 0 => 0 | 124 => 175 | 21 => 21 | 105 => 187 | 46 => 141 | 119 => 177 | 139 => 180 | 138 => 179 | n => n, fun | 3 => 0 | 4 => 1 | n => n⟩
theorem lays160 : Go.Proofs.Lays.n160 Tryz.prog lays160_ren := {
  mixed := by kernel_rfl,
  f119 := Tryz.func158.trans (congrArg some (by kernel_rfl)),
  f120 := Tryz.func154.trans (congrArg some (by kernel_rfl)),
  f137 := Tryz.func157.trans (congrArg some (by kernel_rfl)),
  f151 := Tryz.func146.trans (congrArg some (by kernel_rfl)),
  f152 := Tryz.func153.trans (congrArg some (by kernel_rfl)),
  f160 := Tryz.func89.trans (congrArg some (by kernel_rfl)),
  f197 := Tryz.func145.trans (congrArg some (by kernel_rfl)),
  f217 := Tryz.func161.trans (congrArg some (by kernel_rfl)),
  f224 := Tryz.func159.trans (congrArg some (by kernel_rfl)),
  f225 := Tryz.func160.trans (congrArg some (by kernel_rfl)),
  f227 := Tryz.func126.trans (congrArg some (by kernel_rfl)),
  f228 := Tryz.func144.trans (congrArg some (by kernel_rfl)),
  f231 := Tryz.func124.trans (congrArg some (by kernel_rfl)),
  f232 := Tryz.func125.trans (congrArg some (by kernel_rfl)),
  f233 := Tryz.func127.trans (congrArg some (by kernel_rfl)),
  f234 := Tryz.func128.trans (congrArg some (by kernel_rfl)),
  f235 := Tryz.func129.trans (congrArg some (by kernel_rfl)),
  f236 := Tryz.func130.trans (congrArg some (by kernel_rfl)),
  f260 := Tryz.func152.trans (congrArg some (by kernel_rfl)),
  f266 := Tryz.func162.trans (congrArg some (by kernel_rfl)),
  f271 := Tryz.func147.trans (congrArg some (by kernel_rfl)),
  t0 := Tryz.underlying0,
  a0 := Tryz.isAgg0,
  z0 := Tryz.sizeOf0,
  v0 := Tryz.zeroValue0,
  t3 := Tryz.underlying3,
  a3 := Tryz.isAgg3,
  z3 := Tryz.sizeOf3,
  v3 := Tryz.zeroValue3,
  t4 := Tryz.underlying4,
  a4 := Tryz.isAgg4,
  z4 := Tryz.sizeOf4,
  v4 := Tryz.zeroValue4,
  t5 := Tryz.underlying5,
  a5 := Tryz.isAgg5,
  z5 := Tryz.sizeOf5,
  v5 := Tryz.zeroValue5,
  t9 := Tryz.underlying9,
  a9 := Tryz.isAgg9,
  z9 := Tryz.sizeOf9,
  v9 := Tryz.zeroValue9,
  t21 := Tryz.underlying21,
  a21 := Tryz.isAgg21,
  z21 := Tryz.sizeOf21,
  v21 := Tryz.zeroValue21,
  t46 := Tryz.underlying141,
  a46 := Tryz.isAgg141,
  z46 := Tryz.sizeOf141,
  v46 := Tryz.zeroValue141,
  t105 := Tryz.underlying187,
  a105 := Tryz.isAgg187,
  z105 := Tryz.sizeOf187,
  v105 := Tryz.zeroValue187,
  t116 := Tryz.underlying171,
  a116 := Tryz.isAgg171,
  z116 := Tryz.sizeOf171,
  t117 := Tryz.underlying172,
  a117 := Tryz.isAgg172,
  z117 := Tryz.sizeOf172,
  v117 := Tryz.zeroValue172,
  t119 := Tryz.underlying177,
  a119 := Tryz.isAgg177,
  z119 := Tryz.sizeOf177,
  t124 := Tryz.underlying175,
  a124 := Tryz.isAgg175,
  z124 := Tryz.sizeOf175,
  v124 := Tryz.zeroValue175,
  t138 := Tryz.underlying179,
  a138 := Tryz.isAgg179,
  z138 := Tryz.sizeOf179,
  v138 := Tryz.zeroValue179,
  t139 := Tryz.underlying180,
  a139 := Tryz.isAgg180,
  z139 := Tryz.sizeOf180,
  v139 := Tryz.zeroValue180,
  g3 := by kernel_rfl,
  g4 := by kernel_rfl }
def lays196_ren : Go.Shelf.Ren := ⟨fun | 196 => 94 | 259 => 131 | n => n, fun | 9 => 9 | 4 => 4 | 3 => 3 | 5 => 5 | 12 => 12 | 119 => 177 | 0 => 0 | 46 => 141 | 139 => 180 | 138 => 179 | 53 => 130 | n => n, fun | 3 => 0 | 4 => 1 | n => n⟩
theorem lays196 : Go.Proofs.Lays.n196 Tryz.prog lays196_ren := {
  mixed := by kernel_rfl,
  f196 := Tryz.func94.trans (congrArg some (by kernel_rfl)),
  f259 := Tryz.func131.trans (congrArg some (by kernel_rfl)),
  t0 := Tryz.underlying0,
  a0 := Tryz.isAgg0,
  z0 := Tryz.sizeOf0,
  v0 := Tryz.zeroValue0,
  t3 := Tryz.underlying3,
  a3 := Tryz.isAgg3,
  z3 := Tryz.sizeOf3,
  v3 := Tryz.zeroValue3,
  t4 := Tryz.underlying4,
  a4 := Tryz.isAgg4,
  z4 := Tryz.sizeOf4,
  v4 := Tryz.zeroValue4,
  t5 := Tryz.underlying5,
  a5 := Tryz.isAgg5,
  z5 := Tryz.sizeOf5,
  v5 := Tryz.zeroValue5,
  t9 := Tryz.underlying9,
  a9 := Tryz.isAgg9,
  z9 := Tryz.sizeOf9,
  v9 := Tryz.zeroValue9,
  t12 := Tryz.underlying12,
  a12 := Tryz.isAgg12,
  z12 := Tryz.sizeOf12,
  v12 := Tryz.zeroValue12,
  t46 := Tryz.underlying141,
  a46 := Tryz.isAgg141,
  z46 := Tryz.sizeOf141,
  v46 := Tryz.zeroValue141,
  t53 := Tryz.underlying130,
  a53 := Tryz.isAgg130,
  z53 := Tryz.sizeOf130,
  v53 := Tryz.zeroValue130,
  t119 := Tryz.underlying177,
  a119 := Tryz.isAgg177,
  z119 := Tryz.sizeOf177,
  t138 := Tryz.underlying179,
  a138 := Tryz.isAgg179,
  z138 := Tryz.sizeOf179,
  v138 := Tryz.zeroValue179,
  t139 := Tryz.underlying180,
  a139 := Tryz.isAgg180,
  z139 := Tryz.sizeOf180,
  v139 := Tryz.zeroValue180,
  g3 := by kernel_rfl,
  g4 := by kernel_rfl }
/-- The library's tables of spaces, of UTF-8's first bytes lie. -/
structure Laid (w : World) : Prop where
  spaces : Spaces w
  utf8 : Lib.Utf8Tabs 0 1 w
theorem Laid.below {w w' : World} (h : Laid w) (hb : Below w.heap.size w w') : Laid w' := ⟨h.spaces.below hb, Utf8Tabs_below h.utf8 hb⟩
theorem Laid.alloc {w : World} (h : Laid w) (o : Obj) : Laid (w.alloc o) := h.below ((Below.refl _ w).alloc (Nat.le_refl _) o)
theorem Laid.drew {w : World} (h : Laid w) : Laid w.drew := h.below (Below.refl _ w).drew

theorem dropWhile_nil (p : UInt8 → Bool) : ∀ l : List UInt8, l.dropWhile p = [] ↔ ∀ x ∈ l, p x = true
  | [] => by simp
  | a :: l => by
    rw [List.dropWhile_cons]
    by_cases h : p a = true
    · rw [if_pos h, dropWhile_nil p l]; simp [h]
    · rw [if_neg h]; simp [h]
theorem trim_all (l cs : List UInt8) : trimS l cs = [] ↔ ∀ x ∈ l, cs.contains x = true := by
  unfold trimS trimLeftS trimRightS
  rw [dropWhile_nil]
  constructor
  · intro h x hx
    by_cases hh : cs.contains x = true
    · exact hh
    · refine h x ?_
      rw [List.mem_reverse]
      have : ∀ (m : List UInt8), x ∈ m → x ∈ m.dropWhile (cs.contains ·) := by
        intro m
        induction m with
        | nil => intro q; cases q
        | cons a m ih =>
          intro q
          rw [List.dropWhile_cons]
          split
          · rename_i ha
            rcases List.mem_cons.1 q with rfl | q
            · exact absurd ha hh
            · exact ih q
          · exact q
      exact this _ (List.mem_reverse.2 hx)
  · intro h x hx
    rw [List.mem_reverse] at hx
    exact h x (List.mem_reverse.1 ((List.dropWhile_sublist _).subset hx))
theorem trim_types (l : List UInt8) : (trimS l [126, 127]).isEmpty = l.all vtype := by
  rw [Bool.eq_iff_iff, List.isEmpty_iff, trim_all, List.all_eq_true]
  refine forall_congr' fun x => forall_congr' fun _ => ?_
  simp only [vtype, List.contains_cons, List.contains_nil, Bool.or_false, Bool.or_eq_true, beq_iff_eq, decide_eq_true_eq]
  rw [← UInt8.toNat_inj, ← UInt8.toNat_inj]
  simp only [show (126 : UInt8).toNat = 126 from rfl, show (127 : UInt8).toNat = 127 from rfl]
  omega

theorem lib_trim (s : ByteArray) (w : World) (hs : s.size ≤ maxLen) :
    Calls Tryz.prog 89 #[.string s, .string ⟨#[126, 127]⟩] w fun e w' => (∃ r : ByteArray, e = .returned (.string r) ∧ r.toList.isEmpty = s.data.toList.all vtype) ∧ Below w.heap.size w w' :=
  (Any.strings_Trim_laid lays160 (by kernel_rfl) s ⟨#[126, 127]⟩ w (by unfold maxLen at hs; omega) (by decide) (ascii_of_all (by decide))).mono fun _ _ ⟨h1, h2⟩ => ⟨⟨_, h1, by rw [Lib.toList_data]; exact trim_types _⟩, h2⟩
theorem lib_valid (s : ByteArray) (w : World) (hL : Laid w) (hs : s.size ≤ maxLen) :
    Calls Tryz.prog 94 #[.string s] w fun e w' => e = .returned (.bool (isName s.data.toList)) ∧ Below w.heap.size w w' := by
  rw [← valid_name]
  exact Any.utf8_ValidString lays196 s w (by unfold maxLen at hs; omega) hL.utf8
end Go.Proofs.YtieogmalgmgkeaaGreatDoor
