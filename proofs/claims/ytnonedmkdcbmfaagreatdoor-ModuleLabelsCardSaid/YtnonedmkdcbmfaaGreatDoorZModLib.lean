/-
  The library's functions that package module calls, by their contracts off the shelf: Trim, ValidString, FormatInt, Clone, Join; and which of the library's tables lie in the memory that the walks start in. No statement is proved here.
-/
import Derived.Test.YtnonedmkdcbmfaaGreatDoorZModRefName
import Derived.Test.YtnonedmkdcbmfaaGreatDoorZOpFields
import Derived.Test.YtnonedmkdcbmfaaGreatDoorZNameValid
import Derived.Shelf.Strings.SlTrimAscii
import Derived.Shelf.Unicode.ValidAny
import Derived.Shelf.Strconv.Itoa4
import Derived.Shelf.Strconv.Clone
import Derived.Shelf.Strings.OnBuilder
import Derived.Lib.AppendIntMem
namespace Go.Proofs.YtnonedmkdcbmfaaGreatDoor
open Go.Shelf Go.RowKit Go.Lib

def lays160_ren : Go.Shelf.Ren := ⟨fun | 160 => 89 | 232 => 121 | 231 => 120 | 227 => 122 | 234 => 124 | 233 => 123 | 236 => 126 | 235 => 125 | 228 => 141 | 271 => 144 | 151 => 143 | 197 => 142 | 120 => 159 | 152 => 158 | 260 => 157 | 137 => 164 | 119 => 165 | 224 => 166 | 225 => 167 | 217 => 168 | 266 => 169 | n => n, fun | 9 => 9 | 4 => 4 | 3 => 3 | 5 => 5 | 117 => 176 | 116 => 175 | 0 => 0 | 124 => 179 | 21 => 21 | 105 => 196 | 46 => 146 | 119 => 142 | 139 => 145 | 138 => 144 | n => n, fun | 3 => 0 | 4 => 1 | n => n⟩
theorem lays160 : Go.Proofs.Lays.n160 Tryz.prog lays160_ren := {
  mixed := by kernel_rfl,
  f119 := Tryz.func165.trans (congrArg some (by kernel_rfl)),
  f120 := Tryz.func159.trans (congrArg some (by kernel_rfl)),
  f137 := Tryz.func164.trans (congrArg some (by kernel_rfl)),
  f151 := Tryz.func143.trans (congrArg some (by kernel_rfl)),
  f152 := Tryz.func158.trans (congrArg some (by kernel_rfl)),
  f160 := Tryz.func89.trans (congrArg some (by kernel_rfl)),
  f197 := Tryz.func142.trans (congrArg some (by kernel_rfl)),
  f217 := Tryz.func168.trans (congrArg some (by kernel_rfl)),
  f224 := Tryz.func166.trans (congrArg some (by kernel_rfl)),
  f225 := Tryz.func167.trans (congrArg some (by kernel_rfl)),
  f227 := Tryz.func122.trans (congrArg some (by kernel_rfl)),
  f228 := Tryz.func141.trans (congrArg some (by kernel_rfl)),
  f231 := Tryz.func120.trans (congrArg some (by kernel_rfl)),
  f232 := Tryz.func121.trans (congrArg some (by kernel_rfl)),
  f233 := Tryz.func123.trans (congrArg some (by kernel_rfl)),
  f234 := Tryz.func124.trans (congrArg some (by kernel_rfl)),
  f235 := Tryz.func125.trans (congrArg some (by kernel_rfl)),
  f236 := Tryz.func126.trans (congrArg some (by kernel_rfl)),
  f260 := Tryz.func157.trans (congrArg some (by kernel_rfl)),
  f266 := Tryz.func169.trans (congrArg some (by kernel_rfl)),
  f271 := Tryz.func144.trans (congrArg some (by kernel_rfl)),
  t0 := Tryz.underlying0,
  a0 := Tryz.isAgg0,
  z0 := Tryz.sizeOf0,
  v0 := Tryz.zeroValue0,
  t3 := Tryz.underlying3,
  a3 := Tryz.isAgg3,
  z3 := Tryz.sizeOf3,
  v3 := Tryz.zeroValue3,
  t4 := Tryz.underlying4,
  a4 := Tryz.isAgg4,
  z4 := Tryz.sizeOf4,
  v4 := Tryz.zeroValue4,
  t5 := Tryz.underlying5,
  a5 := Tryz.isAgg5,
  z5 := Tryz.sizeOf5,
  v5 := Tryz.zeroValue5,
  t9 := Tryz.underlying9,
  a9 := Tryz.isAgg9,
  z9 := Tryz.sizeOf9,
  v9 := Tryz.zeroValue9,
  t21 := Tryz.underlying21,
  a21 := Tryz.isAgg21,
  z21 := Tryz.sizeOf21,
  v21 := Tryz.zeroValue21,
  t46 := Tryz.underlying146,
  a46 := Tryz.isAgg146,
  z46 := Tryz.sizeOf146,
  v46 := Tryz.zeroValue146,
  t105 := Tryz.underlying196,
  a105 := Tryz.isAgg196,
  z105 := Tryz.sizeOf196,
  v105 := Tryz.zeroValue196,
  t116 := Tryz.underlying175,
  a116 := Tryz.isAgg175,
  z116 := Tryz.sizeOf175,
  t117 := Tryz.underlying176,
  a117 := Tryz.isAgg176,
  z117 := Tryz.sizeOf176,
  v117 := Tryz.zeroValue176,
  t119 := Tryz.underlying142,
  a119 := Tryz.isAgg142,
  z119 := Tryz.sizeOf142,
  t124 := Tryz.underlying179,
  a124 := Tryz.isAgg179,
  z124 := Tryz.sizeOf179,
  v124 := Tryz.zeroValue179,
  t138 := Tryz.underlying144,
  a138 := Tryz.isAgg144,
  z138 := Tryz.sizeOf144,
  v138 := Tryz.zeroValue144,
  t139 := Tryz.underlying145,
  a139 := Tryz.isAgg145,
  z139 := Tryz.sizeOf145,
  v139 := Tryz.zeroValue145,
  g3 := by kernel_rfl,
  g4 := by kernel_rfl }
def lays196_ren : Go.Shelf.Ren := ⟨fun | 196 => 44 | 259 => 98 | n => n, fun | 9 => 9 | 4 => 4 | 3 => 3 | 5 => 5 | 12 => 12 | 119 => 142 | 0 => 0 | 46 => 146 | 139 => 145 | 138 => 144 | 53 => 63 | n => n, fun | 3 => 0 | 4 => 1 | n => n⟩
theorem lays196 : Go.Proofs.Lays.n196 Tryz.prog lays196_ren := {
  mixed := by kernel_rfl,
  f196 := Tryz.func44.trans (congrArg some (by kernel_rfl)),
  f259 := Tryz.func98.trans (congrArg some (by kernel_rfl)),
  t0 := Tryz.underlying0,
  a0 := Tryz.isAgg0,
  z0 := Tryz.sizeOf0,
  v0 := Tryz.zeroValue0,
  t3 := Tryz.underlying3,
  a3 := Tryz.isAgg3,
  z3 := Tryz.sizeOf3,
  v3 := Tryz.zeroValue3,
  t4 := Tryz.underlying4,
  a4 := Tryz.isAgg4,
  z4 := Tryz.sizeOf4,
  v4 := Tryz.zeroValue4,
  t5 := Tryz.underlying5,
  a5 := Tryz.isAgg5,
  z5 := Tryz.sizeOf5,
  v5 := Tryz.zeroValue5,
  t9 := Tryz.underlying9,
  a9 := Tryz.isAgg9,
  z9 := Tryz.sizeOf9,
  v9 := Tryz.zeroValue9,
  t12 := Tryz.underlying12,
  a12 := Tryz.isAgg12,
  z12 := Tryz.sizeOf12,
  v12 := Tryz.zeroValue12,
  t46 := Tryz.underlying146,
  a46 := Tryz.isAgg146,
  z46 := Tryz.sizeOf146,
  v46 := Tryz.zeroValue146,
  t53 := Tryz.underlying63,
  a53 := Tryz.isAgg63,
  z53 := Tryz.sizeOf63,
  v53 := Tryz.zeroValue63,
  t119 := Tryz.underlying142,
  a119 := Tryz.isAgg142,
  z119 := Tryz.sizeOf142,
  t138 := Tryz.underlying144,
  a138 := Tryz.isAgg144,
  z138 := Tryz.sizeOf144,
  v138 := Tryz.zeroValue144,
  t139 := Tryz.underlying145,
  a139 := Tryz.isAgg145,
  z139 := Tryz.sizeOf145,
  v139 := Tryz.zeroValue145,
  g3 := by kernel_rfl,
  g4 := by kernel_rfl }
def lays173_ren : Go.Shelf.Ren := ⟨fun | 173 => 47 | 246 => 101 | 283 => 133 | 284 => 134 | 285 => 135 | 286 => 136 | 129 => 151 | 317 => 150 | 318 => 152 | 319 => 153 | 320 => 154 | 337 => 162 | 338 => 163 | n => n, fun | 2 => 2 | 3 => 3 | 9 => 9 | 4 => 4 | 171 => 187 | 0 => 0 | 53 => 63 | 37 => 54 | 5 => 5 | 173 => 190 | 212 => 208 | 51 => 180 | 20 => 20 | 213 => 209 | 46 => 146 | 232 => 230 | 233 => 231 | n => n, fun | 17 => 4 | 18 => 6 | 19 => 7 | n => n⟩
theorem lays173 : Go.Proofs.LaysM.n173 Tryz.prog lays173_ren := {
  mixed := by kernel_rfl,
  f129 := Tryz.func151.trans (congrArg some (by kernel_rfl)),
  f173 := Tryz.func47.trans (congrArg some (by kernel_rfl)),
  f246 := Tryz.func101.trans (congrArg some (by kernel_rfl)),
  f283 := Tryz.func133.trans (congrArg some (by kernel_rfl)),
  f284 := Tryz.func134.trans (congrArg some (by kernel_rfl)),
  f285 := Tryz.func135.trans (congrArg some (by kernel_rfl)),
  f286 := Tryz.func136.trans (congrArg some (by kernel_rfl)),
  f317 := Tryz.func150.trans (congrArg some (by kernel_rfl)),
  f318 := Tryz.func152.trans (congrArg some (by kernel_rfl)),
  f319 := Tryz.func153.trans (congrArg some (by kernel_rfl)),
  f320 := Tryz.func154.trans (congrArg some (by kernel_rfl)),
  f337 := Tryz.func162.trans (congrArg some (by kernel_rfl)),
  f338 := Tryz.func163.trans (congrArg some (by kernel_rfl)),
  t0 := Tryz.underlying0,
  a0 := Tryz.isAgg0,
  z0 := Tryz.sizeOf0,
  v0 := Tryz.zeroValue0,
  t2 := Tryz.underlying2,
  a2 := Tryz.isAgg2,
  z2 := Tryz.sizeOf2,
  v2 := Tryz.zeroValue2,
  t3 := Tryz.underlying3,
  a3 := Tryz.isAgg3,
  z3 := Tryz.sizeOf3,
  v3 := Tryz.zeroValue3,
  t4 := Tryz.underlying4,
  a4 := Tryz.isAgg4,
  z4 := Tryz.sizeOf4,
  v4 := Tryz.zeroValue4,
  t5 := Tryz.underlying5,
  a5 := Tryz.isAgg5,
  z5 := Tryz.sizeOf5,
  v5 := Tryz.zeroValue5,
  t9 := Tryz.underlying9,
  a9 := Tryz.isAgg9,
  z9 := Tryz.sizeOf9,
  v9 := Tryz.zeroValue9,
  t20 := Tryz.underlying20,
  a20 := Tryz.isAgg20,
  z20 := Tryz.sizeOf20,
  v20 := Tryz.zeroValue20,
  t37 := Tryz.underlying54,
  a37 := Tryz.isAgg54,
  z37 := Tryz.sizeOf54,
  v37 := Tryz.zeroValue54,
  t46 := Tryz.underlying146,
  a46 := Tryz.isAgg146,
  z46 := Tryz.sizeOf146,
  v46 := Tryz.zeroValue146,
  t51 := Tryz.underlying180,
  a51 := Tryz.isAgg180,
  z51 := Tryz.sizeOf180,
  v51 := Tryz.zeroValue180,
  t53 := Tryz.underlying63,
  a53 := Tryz.isAgg63,
  z53 := Tryz.sizeOf63,
  v53 := Tryz.zeroValue63,
  t171 := Tryz.underlying187,
  a171 := Tryz.isAgg187,
  z171 := Tryz.sizeOf187,
  v171 := Tryz.zeroValue187,
  t173 := Tryz.underlying190,
  a173 := Tryz.isAgg190,
  z173 := Tryz.sizeOf190,
  v173 := Tryz.zeroValue190,
  t212 := Tryz.underlying208,
  a212 := Tryz.isAgg208,
  z212 := Tryz.sizeOf208,
  v212 := Tryz.zeroValue208,
  t213 := Tryz.underlying209,
  a213 := Tryz.isAgg209,
  z213 := Tryz.sizeOf209,
  t232 := Tryz.underlying230,
  a232 := Tryz.isAgg230,
  z232 := Tryz.sizeOf230,
  v232 := Tryz.zeroValue230,
  t233 := Tryz.underlying231,
  a233 := Tryz.isAgg231,
  z233 := Tryz.sizeOf231,
  v233 := Tryz.zeroValue231,
  g17 := by kernel_rfl,
  g18 := by kernel_rfl,
  g19 := by kernel_rfl,
  i0 := by kernel_rfl,
  i2 := by kernel_rfl,
  i3 := by kernel_rfl,
  i4 := by kernel_rfl,
  i5 := by kernel_rfl,
  i9 := by kernel_rfl,
  i20 := by kernel_rfl,
  i37 := by kernel_rfl,
  i46 := by kernel_rfl,
  i51 := by kernel_rfl,
  i53 := by kernel_rfl,
  i171 := by kernel_rfl,
  i173 := by kernel_rfl,
  i212 := by kernel_rfl,
  i232 := by kernel_rfl,
  i233 := by kernel_rfl,
  m17 := by kernel_rfl,
  m18 := by kernel_rfl,
  m19 := by kernel_rfl }
def lays316_ren : Go.Shelf.Ren := ⟨fun | 316 => 117 | n => n, fun | 9 => 9 | 3 => 3 | 4 => 4 | 37 => 54 | 0 => 0 | 127 => 192 | 5 => 5 | n => n, fun | n => n⟩
theorem lays316 : Go.Proofs.LaysM.n316 Tryz.prog lays316_ren := {
  mixed := by kernel_rfl,
  f316 := Tryz.func117.trans (congrArg some (by kernel_rfl)),
  t0 := Tryz.underlying0,
  a0 := Tryz.isAgg0,
  z0 := Tryz.sizeOf0,
  v0 := Tryz.zeroValue0,
  t3 := Tryz.underlying3,
  a3 := Tryz.isAgg3,
  z3 := Tryz.sizeOf3,
  v3 := Tryz.zeroValue3,
  t4 := Tryz.underlying4,
  a4 := Tryz.isAgg4,
  z4 := Tryz.sizeOf4,
  v4 := Tryz.zeroValue4,
  t9 := Tryz.underlying9,
  a9 := Tryz.isAgg9,
  z9 := Tryz.sizeOf9,
  v9 := Tryz.zeroValue9,
  t37 := Tryz.underlying54,
  a37 := Tryz.isAgg54,
  z37 := Tryz.sizeOf54,
  v37 := Tryz.zeroValue54,
  t127 := Tryz.underlying192,
  a127 := Tryz.isAgg192,
  z127 := Tryz.sizeOf192,
  v127 := Tryz.zeroValue192,
  t5 := Tryz.underlying5,
  a5 := Tryz.isAgg5,
  z5 := Tryz.sizeOf5,
  v5 := Tryz.zeroValue5,
  i0 := by kernel_rfl,
  i3 := by kernel_rfl,
  i4 := by kernel_rfl,
  i5 := by kernel_rfl,
  i9 := by kernel_rfl,
  i37 := by kernel_rfl,
  i127 := by kernel_rfl }
def lays156_ren : Go.Shelf.Ren := ⟨fun | 156 => 49 | 165 => 102 | 166 => 103 | 169 => 104 | 240 => 137 | 241 => 138 | 276 => 155 | 277 => 156 | n => n, fun | 31 => 90 | 9 => 9 | 3 => 3 | 4 => 4 | 0 => 0 | 20 => 20 | 72 => 154 | 76 => 158 | 70 => 152 | 37 => 54 | 75 => 157 | 127 => 192 | 164 => 211 | 5 => 5 | 80 => 160 | n => n, fun | n => n⟩
theorem lays156 : Go.Proofs.Lays.n156 Tryz.prog lays156_ren := {
  mixed := by kernel_rfl,
  f156 := Tryz.func49.trans (congrArg some (by kernel_rfl)),
  f165 := Tryz.func102.trans (congrArg some (by kernel_rfl)),
  f166 := Tryz.func103.trans (congrArg some (by kernel_rfl)),
  f169 := Tryz.func104.trans (congrArg some (by kernel_rfl)),
  f240 := Tryz.func137.trans (congrArg some (by kernel_rfl)),
  f241 := Tryz.func138.trans (congrArg some (by kernel_rfl)),
  f276 := Tryz.func155.trans (congrArg some (by kernel_rfl)),
  f277 := Tryz.func156.trans (congrArg some (by kernel_rfl)),
  t0 := Tryz.underlying0,
  a0 := Tryz.isAgg0,
  z0 := Tryz.sizeOf0,
  v0 := Tryz.zeroValue0,
  t3 := Tryz.underlying3,
  a3 := Tryz.isAgg3,
  z3 := Tryz.sizeOf3,
  v3 := Tryz.zeroValue3,
  t4 := Tryz.underlying4,
  a4 := Tryz.isAgg4,
  z4 := Tryz.sizeOf4,
  v4 := Tryz.zeroValue4,
  t9 := Tryz.underlying9,
  a9 := Tryz.isAgg9,
  z9 := Tryz.sizeOf9,
  v9 := Tryz.zeroValue9,
  t20 := Tryz.underlying20,
  a20 := Tryz.isAgg20,
  z20 := Tryz.sizeOf20,
  v20 := Tryz.zeroValue20,
  t31 := Tryz.underlying90,
  a31 := Tryz.isAgg90,
  z31 := Tryz.sizeOf90,
  v31 := Tryz.zeroValue90,
  t37 := Tryz.underlying54,
  a37 := Tryz.isAgg54,
  z37 := Tryz.sizeOf54,
  v37 := Tryz.zeroValue54,
  t70 := Tryz.underlying152,
  a70 := Tryz.isAgg152,
  z70 := Tryz.sizeOf152,
  v70 := Tryz.zeroValue152,
  t72 := Tryz.underlying154,
  a72 := Tryz.isAgg154,
  z72 := Tryz.sizeOf154,
  v72 := Tryz.zeroValue154,
  t75 := Tryz.underlying157,
  a75 := Tryz.isAgg157,
  z75 := Tryz.sizeOf157,
  v75 := Tryz.zeroValue157,
  t76 := Tryz.underlying158,
  a76 := Tryz.isAgg158,
  z76 := Tryz.sizeOf158,
  v76 := Tryz.zeroValue158,
  t127 := Tryz.underlying192,
  a127 := Tryz.isAgg192,
  z127 := Tryz.sizeOf192,
  v127 := Tryz.zeroValue192,
  t164 := Tryz.underlying211,
  a164 := Tryz.isAgg211,
  z164 := Tryz.sizeOf211,
  v164 := Tryz.zeroValue211 }

theorem extra156 : Builder.Extra Tryz.prog lays156_ren := {
  sizeBuilder := by kernel_rfl,
  liesBuilder := by kernel_rfl,
  t5 := Tryz.underlying5,
  a5 := Tryz.isAgg5,
  z5 := Tryz.sizeOf5,
  v5 := Tryz.zeroValue5,
  infoByte := by kernel_rfl,
  cellsByte := by kernel_rfl,
  sizeByte := by kernel_rfl,
  neB5 := by decide }

/-- The library's tables of spaces, of powers of ten, of UTF-8's first bytes lie. -/
structure Laid (w : World) : Prop where
  spaces : Spaces w
  tens : Lib.TabIs Tryz.prog w "internal/strconv.uint64pow10" .u64 Lib.pow10Tab
  utf8 : Lib.Utf8Tabs 0 1 w
theorem Laid.below {w w' : World} (h : Laid w) (hb : Below w.heap.size w w') : Laid w' := ⟨h.spaces.below hb, Lib.tabBelow_of_tabIs h.tens w' hb, Utf8Tabs_below h.utf8 hb⟩
theorem Laid.alloc {w : World} (h : Laid w) (o : Obj) : Laid (w.alloc o) := h.below ((Below.refl _ w).alloc (Nat.le_refl _) o)
theorem Laid.drew {w : World} (h : Laid w) : Laid w.drew := h.below (Below.refl _ w).drew

theorem dropWhile_nil (p : UInt8 → Bool) : ∀ l : List UInt8, l.dropWhile p = [] ↔ ∀ x ∈ l, p x = true
  | [] => by simp
  | a :: l => by
    rw [List.dropWhile_cons]
    by_cases h : p a = true
    · rw [if_pos h, dropWhile_nil p l]; simp [h]
    · rw [if_neg h]; simp [h]
theorem trim_all (l cs : List UInt8) : trimS l cs = [] ↔ ∀ x ∈ l, cs.contains x = true := by
  unfold trimS trimLeftS trimRightS
  rw [dropWhile_nil]
  constructor
  · intro h x hx
    by_cases hh : cs.contains x = true
    · exact hh
    · refine h x ?_
      rw [List.mem_reverse]
      have : ∀ (m : List UInt8), x ∈ m → x ∈ m.dropWhile (cs.contains ·) := by
        intro m
        induction m with
        | nil => intro q; cases q
        | cons a m ih =>
          intro q
          rw [List.dropWhile_cons]
          split
          · rename_i ha
            rcases List.mem_cons.1 q with rfl | q
            · exact absurd ha hh
            · exact ih q
          · exact q
      exact this _ (List.mem_reverse.2 hx)
  · intro h x hx
    rw [List.mem_reverse] at hx
    exact h x (List.mem_reverse.1 ((List.dropWhile_sublist _).subset hx))
theorem trim_types (l : List UInt8) : (trimS l [126, 127]).isEmpty = l.all vtype := by
  rw [Bool.eq_iff_iff, List.isEmpty_iff, trim_all, List.all_eq_true]
  refine forall_congr' fun x => forall_congr' fun _ => ?_
  simp only [vtype, List.contains_cons, List.contains_nil, Bool.or_false, Bool.or_eq_true, beq_iff_eq, decide_eq_true_eq]
  rw [← UInt8.toNat_inj, ← UInt8.toNat_inj]
  simp only [show (126 : UInt8).toNat = 126 from rfl, show (127 : UInt8).toNat = 127 from rfl]
  omega

theorem lib_trim (s : ByteArray) (w : World) (hs : s.size ≤ maxLen) :
    Calls Tryz.prog 89 #[.string s, .string ⟨#[126, 127]⟩] w fun e w' => (∃ r : ByteArray, e = .returned (.string r) ∧ r.toList.isEmpty = s.data.toList.all vtype) ∧ Below w.heap.size w w' :=
  (Any.strings_Trim_laid lays160 (by kernel_rfl) s ⟨#[126, 127]⟩ w (by unfold maxLen at hs; omega) (by decide) (ascii_of_all (by decide))).mono fun _ _ ⟨h1, h2⟩ => ⟨⟨_, h1, by rw [Lib.toList_data]; exact trim_types _⟩, h2⟩
theorem lib_valid (s : ByteArray) (w : World) (hL : Laid w) (hs : s.size ≤ maxLen) :
    Calls Tryz.prog 44 #[.string s] w fun e w' => e = .returned (.bool (isName s.data.toList)) ∧ Below w.heap.size w w' := by
  rw [← valid_name]
  exact Any.utf8_ValidString lays196 s w (by unfold maxLen at hs; omega) hL.utf8
theorem lib_format (n : Int) (h0 : -9223372036854775808 ≤ n) (h1 : n ≤ 9223372036854775807) (w : World) (hL : Laid w) :
    Calls Tryz.prog 47 #[.int .i64 n, .int .i64 10] w fun e w' => e = .returned (.string ⟨(Lib.itoa n).toArray⟩) ∧ Below w.heap.size w w' :=
  (Any.strconv_FormatInt_10 lays173 n h0 h1 w hL.tens).mono fun _ _ ⟨he, k, os, hw⟩ => ⟨he, hw ▸ below_grow _ w (Nat.le_refl _) k os⟩
theorem lib_join (bk o c : Nat) (xs : List ByteArray) (sep : ByteArray) (w : World)
    (hcells : ∀ (j : Nat) x, xs[j]? = some x → w.cell? ⟨bk, o + j, none⟩ = some (.string x))
    (hbk : bk < w.heap.size) (hN : xs.length ≤ 140737488355328) (hcap : xs.length ≤ c)
    (hlen : (Lib.join (xs.map (·.data.toList)) sep.data.toList).length ≤ 140737488355328) :
    Calls Tryz.prog 49 #[.slice (some ⟨bk, o, none⟩) xs.length c, .string sep] w fun e w' => e = .returned (.string ⟨(Lib.join (xs.map (·.data.toList)) sep.data.toList).toArray⟩) ∧ Below w.heap.size w w' :=
  Any.strings_Join lays156 extra156 bk o c xs sep w hcells hbk hN hcap hlen
set_option maxHeartbeats 400000 in
theorem lib_clone (s : ByteArray) (w : World) (hs : s.size ≤ 281474976710656) :
    Calls Tryz.prog 74 #[.string s] w fun e w' => e = .returned (.string s) ∧ Below w.heap.size w w' := by
  have c := fun w => Any.stringslite_Clone lays316 s w hs
  go_enter Tryz.func74, Tryz.ntmps74
  go_wp2_with (go_at_call 117; refine (c _).mono ?_; rintro e w' ⟨rfl, hb⟩)
  go_ret
  exact ⟨rfl, hb⟩
end Go.Proofs.YtnonedmkdcbmfaaGreatDoor
