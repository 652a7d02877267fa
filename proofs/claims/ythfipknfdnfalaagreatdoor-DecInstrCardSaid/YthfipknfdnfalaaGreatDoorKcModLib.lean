/-
  The library's functions that package module calls, by their contracts off the shelf: Trim, ValidString; and which of the library's tables lie in the memory that the walks start in. No statement is proved here.
-/
import Derived.Shelf.Strings.SlTrimAscii
import Derived.Shelf.Unicode.ValidAny
import Derived.Test.YthfipknfdnfalaaGreatDoorKcOpFields
import Derived.Test.YthfipknfdnfalaaGreatDoorKcNameValid
import Derived.Lib.AppendIntMem
namespace Go.Proofs.YthfipknfdnfalaaGreatDoor
set_option maxRecDepth 100000
set_option maxHeartbeats 16000000
open Go.Shelf Go.RowKit Go.Lib
def lays196_ren : Go.Shelf.Ren := ⟨fun | 196 => 98 | 259 => 186 | n => n, fun | 9 => 9 | 4 => 4 | 3 => 3 | 5 => 5 | 12 => 12 | 119 => 225 | 0 => 0 | 46 => 168 | 139 => 228 | 138 => 227 | 53 => 60 | n => n, fun | 3 => 0 | 4 => 1 | n => n⟩
theorem lays196 : Go.Proofs.Lays.n196 Tryz.prog lays196_ren := {
  mixed := by kernel_rfl,
  f196 := Tryz.func98.trans (congrArg some (by kernel_rfl)),
  f259 := Tryz.func186.trans (congrArg some (by kernel_rfl)),
  t0 := Tryz.underlying0,
  a0 := Tryz.isAgg0,
  z0 := Tryz.sizeOf0,
  v0 := Tryz.zeroValue0,
  t3 := Tryz.underlying3,
  a3 := Tryz.isAgg3,
  z3 := Tryz.sizeOf3,
  v3 := Tryz.zeroValue3,
  t4 := Tryz.underlying4,
  a4 := Tryz.isAgg4,
  z4 := Tryz.sizeOf4,
  v4 := Tryz.zeroValue4,
  t5 := Tryz.underlying5,
  a5 := Tryz.isAgg5,
  z5 := Tryz.sizeOf5,
  v5 := Tryz.zeroValue5,
  t9 := Tryz.underlying9,
  a9 := Tryz.isAgg9,
  z9 := Tryz.sizeOf9,
  v9 := Tryz.zeroValue9,
  t12 := Tryz.underlying12,
  a12 := Tryz.isAgg12,
  z12 := Tryz.sizeOf12,
  v12 := Tryz.zeroValue12,
  t46 := Tryz.underlying168,
  a46 := Tryz.isAgg168,
  z46 := Tryz.sizeOf168,
  v46 := Tryz.zeroValue168,
  t53 := Tryz.underlying60,
  a53 := Tryz.isAgg60,
  z53 := Tryz.sizeOf60,
  v53 := Tryz.zeroValue60,
  t119 := Tryz.underlying225,
  a119 := Tryz.isAgg225,
  z119 := Tryz.sizeOf225,
  t138 := Tryz.underlying227,
  a138 := Tryz.isAgg227,
  z138 := Tryz.sizeOf227,
  v138 := Tryz.zeroValue227,
  t139 := Tryz.underlying228,
  a139 := Tryz.isAgg228,
  z139 := Tryz.sizeOf228,
  v139 := Tryz.zeroValue228,
  g3 := by kernel_rfl,
  g4 := by kernel_rfl }
structure Laid (w : World) : Prop where
  spaces : Spaces w
  utf8 : Lib.Utf8Tabs 0 1 w
theorem Laid.below {w w' : World} (h : Laid w) (hb : Below w.heap.size w w') : Laid w' := ⟨h.spaces.below hb, Utf8Tabs_below h.utf8 hb⟩
theorem Laid.alloc {w : World} (h : Laid w) (o : Obj) : Laid (w.alloc o) := h.below ((Below.refl _ w).alloc (Nat.le_refl _) o)
theorem Laid.drew {w : World} (h : Laid w) : Laid w.drew := h.below (Below.refl _ w).drew
theorem lib_valid (s : ByteArray) (w : World) (hL : Laid w) (hs : s.size ≤ maxLen) :
    Calls Tryz.prog 98 #[.string s] w fun e w' => e = .returned (.bool (isName s.data.toList)) ∧ Below w.heap.size w w' := by
  rw [← valid_name]
  exact Any.utf8_ValidString lays196 s w (by unfold maxLen at hs; omega) hL.utf8
end Go.Proofs.YthfipknfdnfalaaGreatDoor
namespace Go.Proofs.YthfipknfdnfalaaGreatDoor
set_option maxRecDepth 100000
set_option maxHeartbeats 16000000
open Go.RowKit
def Says {α : Type} (g : Nat) (lb : Array Value) (val : α → Value) (ok : World → α → Prop) (p : α → Bool) (w0 : World) : Prop :=
  ∀ (x : α) (w : World), Below w0.heap.size w0 w → ok w x → Calls Tryz.prog g (#[val x] ++ lb) w fun e w' => e = .returned (.bool (p x)) ∧ Below w.heap.size w w'
theorem Says.later {α : Type} {g : Nat} {lb : Array Value} {val : α → Value} {ok : World → α → Prop} {p : α → Bool} {w0 w1 : World} (h : Says g lb val ok p w0) (hb : Below w0.heap.size w0 w1) : Says g lb val ok p w1 :=
  fun x w hw hx => h x w (hb.trans (hw.mono hb.size)) hx
end Go.Proofs.YthfipknfdnfalaaGreatDoor
namespace Go.Proofs.YthfipknfdnfalaaGreatDoor
set_option maxRecDepth 100000
set_option maxHeartbeats 16000000
open Go.RowKit
def TyV.val (x : TyV) : Value := .agg #[.string x.params, .string x.results]
def MemV.val (x : MemV) : Value := .agg #[.int .i64 x.min, .int .i64 x.max]
def GlobV.val (x : GlobV) : Value := .agg #[.int .i64 x.type, .bool x.may, .int .i64 x.init]
def ExpV.val (x : ExpV) : Value := .agg #[.string x.name, .int .i64 x.kind, .int .i64 x.index]
def DatV.val (x : DatV) : Value := .agg #[.int .i64 x.offset, .string x.bytes]
end Go.Proofs.YthfipknfdnfalaaGreatDoor
namespace Go.Proofs.YthfipknfdnfalaaGreatDoor
set_option maxRecDepth 100000
set_option maxHeartbeats 16000000
open Go.RowKit
end Go.Proofs.YthfipknfdnfalaaGreatDoor
namespace Go.Proofs.YthfipknfdnfalaaGreatDoor
set_option maxRecDepth 100000
set_option maxHeartbeats 16000000
open Go.RowKit
theorem mod_name (s : ByteArray) (hs : s.size ≤ maxLen) (w : World) (hL : Laid w) :
    Calls Tryz.prog 29 #[.string s] w fun e w' => e = .returned (.bool (isName s.data.toList)) ∧ Below w.heap.size w w' := by
  have c := lib_valid s w hL hs
  generalize isName s.data.toList = V at c ⊢
  go_enter Tryz.func29, Tryz.ntmps29
  go_wp2_with (go_at_call 98; refine c.mono ?_; rintro e w' ⟨rfl, hb⟩)
  go_ret
  exact ⟨rfl, hb⟩
end Go.Proofs.YthfipknfdnfalaaGreatDoor
