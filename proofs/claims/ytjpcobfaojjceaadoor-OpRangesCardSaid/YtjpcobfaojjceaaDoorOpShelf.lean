/-
  The library's functions that package op calls, by their contracts off the shelf: fields of a text, a text within a text, a prefix cut off, a text's place in a list. No statement is proved here.
-/
import Derived.Shelf.Strings.Fields
import Derived.Shelf.Strings.Search3
import Derived.Shelf.Small.Wraps
import Derived.Shelf.Slices.Turned
import Derived.Shelf.SlicesE.IndexFunc
import Derived.Test.YtjpcobfaojjceaaDoorOpLists
import Derived.WalkKit
import Derived.Below
namespace Go.Proofs.YtjpcobfaojjceaaDoor
open Go.Shelf Go.RowKit Go.Lib

def lays157_ren : Go.Shelf.Ren := ⟨fun | 157 => 18 | 229 => 29 | 199 => 30 | 261 => 40 | 311 => 44 | 312 => 45 | n => n, fun | 9 => 9 | 31 => 44 | 3 => 3 | 5 => 5 | 4 => 4 | 119 => 59 | 0 => 0 | 40 => 61 | 152 => 69 | 21 => 21 | 154 => 71 | 51 => 67 | 141 => 73 | 196 => 78 | 193 => 75 | 198 => 81 | 49 => 79 | 194 => 76 | 201 => 84 | 226 => 89 | 46 => 88 | 227 => 90 | n => n, fun | 0 => 0 | 6 => 1 | n => n⟩
theorem lays157 : Go.Proofs.Lays.n157 Tryd.prog lays157_ren := {
  mixed := by kernel_rfl,
  f157 := Tryd.func18.trans (congrArg some (by kernel_rfl)),
  f199 := Tryd.func30.trans (congrArg some (by kernel_rfl)),
  f229 := Tryd.func29.trans (congrArg some (by kernel_rfl)),
  f261 := Tryd.func40.trans (congrArg some (by kernel_rfl)),
  f311 := Tryd.func44.trans (congrArg some (by kernel_rfl)),
  f312 := Tryd.func45.trans (congrArg some (by kernel_rfl)),
  t0 := Tryd.underlying0,
  a0 := Tryd.isAgg0,
  z0 := Tryd.sizeOf0,
  v0 := Tryd.zeroValue0,
  t3 := Tryd.underlying3,
  a3 := Tryd.isAgg3,
  z3 := Tryd.sizeOf3,
  v3 := Tryd.zeroValue3,
  t4 := Tryd.underlying4,
  a4 := Tryd.isAgg4,
  z4 := Tryd.sizeOf4,
  v4 := Tryd.zeroValue4,
  t5 := Tryd.underlying5,
  a5 := Tryd.isAgg5,
  z5 := Tryd.sizeOf5,
  v5 := Tryd.zeroValue5,
  t9 := Tryd.underlying9,
  a9 := Tryd.isAgg9,
  z9 := Tryd.sizeOf9,
  v9 := Tryd.zeroValue9,
  t21 := Tryd.underlying21,
  a21 := Tryd.isAgg21,
  z21 := Tryd.sizeOf21,
  v21 := Tryd.zeroValue21,
  t31 := Tryd.underlying44,
  a31 := Tryd.isAgg44,
  z31 := Tryd.sizeOf44,
  v31 := Tryd.zeroValue44,
  t40 := Tryd.underlying61,
  a40 := Tryd.isAgg61,
  z40 := Tryd.sizeOf61,
  v40 := Tryd.zeroValue61,
  t46 := Tryd.underlying88,
  a46 := Tryd.isAgg88,
  z46 := Tryd.sizeOf88,
  v46 := Tryd.zeroValue88,
  t49 := Tryd.underlying79,
  a49 := Tryd.isAgg79,
  z49 := Tryd.sizeOf79,
  v49 := Tryd.zeroValue79,
  t51 := Tryd.underlying67,
  a51 := Tryd.isAgg67,
  z51 := Tryd.sizeOf67,
  v51 := Tryd.zeroValue67,
  t119 := Tryd.underlying59,
  a119 := Tryd.isAgg59,
  z119 := Tryd.sizeOf59,
  t141 := Tryd.underlying73,
  a141 := Tryd.isAgg73,
  z141 := Tryd.sizeOf73,
  v141 := Tryd.zeroValue73,
  t152 := Tryd.underlying69,
  a152 := Tryd.isAgg69,
  z152 := Tryd.sizeOf69,
  v152 := Tryd.zeroValue69,
  t154 := Tryd.underlying71,
  a154 := Tryd.isAgg71,
  z154 := Tryd.sizeOf71,
  v154 := Tryd.zeroValue71,
  t193 := Tryd.underlying75,
  a193 := Tryd.isAgg75,
  z193 := Tryd.sizeOf75,
  v193 := Tryd.zeroValue75,
  t194 := Tryd.underlying76,
  a194 := Tryd.isAgg76,
  z194 := Tryd.sizeOf76,
  v194 := Tryd.zeroValue76,
  t196 := Tryd.underlying78,
  a196 := Tryd.isAgg78,
  z196 := Tryd.sizeOf78,
  v196 := Tryd.zeroValue78,
  t198 := Tryd.underlying81,
  a198 := Tryd.isAgg81,
  z198 := Tryd.sizeOf81,
  v198 := Tryd.zeroValue81,
  t201 := Tryd.underlying84,
  a201 := Tryd.isAgg84,
  z201 := Tryd.sizeOf84,
  v201 := Tryd.zeroValue84,
  t226 := Tryd.underlying89,
  a226 := Tryd.isAgg89,
  z226 := Tryd.sizeOf89,
  v226 := Tryd.zeroValue89,
  t227 := Tryd.underlying90,
  a227 := Tryd.isAgg90,
  z227 := Tryd.sizeOf90,
  v227 := Tryd.zeroValue90,
  g0 := by kernel_rfl,
  g6 := by kernel_rfl }
def lays144_ren : Go.Shelf.Ren := ⟨fun | 144 => 23 | 143 => 37 | 219 => 42 | 217 => 46 | 225 => 47 | 224 => 48 | 267 => 49 | 266 => 50 | 314 => 51 | n => n, fun | 9 => 9 | 4 => 4 | 3 => 3 | 5 => 5 | 46 => 88 | 146 => 91 | 51 => 67 | n => n, fun | 1 => 2 | n => n⟩
theorem lays144 : Go.Proofs.Lays.n144 Tryd.prog lays144_ren := {
  mixed := by kernel_rfl,
  f143 := Tryd.func37.trans (congrArg some (by kernel_rfl)),
  f144 := Tryd.func23.trans (congrArg some (by kernel_rfl)),
  f217 := Tryd.func46.trans (congrArg some (by kernel_rfl)),
  f219 := Tryd.func42.trans (congrArg some (by kernel_rfl)),
  f224 := Tryd.func48.trans (congrArg some (by kernel_rfl)),
  f225 := Tryd.func47.trans (congrArg some (by kernel_rfl)),
  f266 := Tryd.func50.trans (congrArg some (by kernel_rfl)),
  f267 := Tryd.func49.trans (congrArg some (by kernel_rfl)),
  f314 := Tryd.func51.trans (congrArg some (by kernel_rfl)),
  t3 := Tryd.underlying3,
  a3 := Tryd.isAgg3,
  z3 := Tryd.sizeOf3,
  v3 := Tryd.zeroValue3,
  t4 := Tryd.underlying4,
  a4 := Tryd.isAgg4,
  z4 := Tryd.sizeOf4,
  v4 := Tryd.zeroValue4,
  t5 := Tryd.underlying5,
  a5 := Tryd.isAgg5,
  z5 := Tryd.sizeOf5,
  v5 := Tryd.zeroValue5,
  t9 := Tryd.underlying9,
  a9 := Tryd.isAgg9,
  z9 := Tryd.sizeOf9,
  v9 := Tryd.zeroValue9,
  t46 := Tryd.underlying88,
  a46 := Tryd.isAgg88,
  z46 := Tryd.sizeOf88,
  v46 := Tryd.zeroValue88,
  t51 := Tryd.underlying67,
  a51 := Tryd.isAgg67,
  z51 := Tryd.sizeOf67,
  v51 := Tryd.zeroValue67,
  t146 := Tryd.underlying91,
  a146 := Tryd.isAgg91,
  z146 := Tryd.sizeOf91,
  v146 := Tryd.zeroValue91,
  g1 := by kernel_rfl }
def lays103_ren : Go.Shelf.Ren := ⟨fun | 103 => 22 | 210 => 36 | 206 => 41 | n => n, fun | 9 => 9 | 4 => 4 | 24 => 52 | 3 => 3 | n => n, fun | n => n⟩
theorem lays103 : Go.Proofs.Lays.n103 Tryd.prog lays103_ren := {
  mixed := by kernel_rfl,
  f103 := Tryd.func22.trans (congrArg some (by kernel_rfl)),
  f206 := Tryd.func41.trans (congrArg some (by kernel_rfl)),
  f210 := Tryd.func36.trans (congrArg some (by kernel_rfl)),
  t3 := Tryd.underlying3,
  a3 := Tryd.isAgg3,
  z3 := Tryd.sizeOf3,
  v3 := Tryd.zeroValue3,
  t4 := Tryd.underlying4,
  a4 := Tryd.isAgg4,
  z4 := Tryd.sizeOf4,
  v4 := Tryd.zeroValue4,
  t9 := Tryd.underlying9,
  a9 := Tryd.isAgg9,
  z9 := Tryd.sizeOf9,
  v9 := Tryd.zeroValue9,
  t24 := Tryd.underlying52,
  a24 := Tryd.isAgg52,
  z24 := Tryd.sizeOf52,
  v24 := Tryd.zeroValue52 }
def lays109_ren : Go.Shelf.Ren := ⟨fun | 109 => 24 | n => n, fun | 31 => 44 | 9 => 9 | 3 => 3 | 0 => 0 | 4 => 4 | n => n, fun | n => n⟩
theorem lays109 : Go.Proofs.Lays.n109 Tryd.prog lays109_ren := {
  mixed := by kernel_rfl,
  f109 := Tryd.func24.trans (congrArg some (by kernel_rfl)),
  t0 := Tryd.underlying0,
  a0 := Tryd.isAgg0,
  z0 := Tryd.sizeOf0,
  v0 := Tryd.zeroValue0,
  t3 := Tryd.underlying3,
  a3 := Tryd.isAgg3,
  z3 := Tryd.sizeOf3,
  v3 := Tryd.zeroValue3,
  t4 := Tryd.underlying4,
  a4 := Tryd.isAgg4,
  z4 := Tryd.sizeOf4,
  v4 := Tryd.zeroValue4,
  t9 := Tryd.underlying9,
  a9 := Tryd.isAgg9,
  z9 := Tryd.sizeOf9,
  v9 := Tryd.zeroValue9,
  t31 := Tryd.underlying44,
  a31 := Tryd.isAgg44,
  z31 := Tryd.sizeOf44,
  v31 := Tryd.zeroValue44 }
def laysH8_ren : Go.Shelf.Ren := ⟨fun | 8 => 38 | 6 => 43 | n => n, fun | 22 => 34 | 23 => 3 | 25 => 32 | 4 => 4 | 3 => 3 | 0 => 0 | n => n, fun | n => n⟩
theorem laysH8 : Go.Proofs.SlLaysH.n8 Tryd.prog laysH8_ren := {
  mixed := by kernel_rfl,
  f6 := ⟨Tryd.f43.name, by decide, Tryd.func43.trans (congrArg some (by kernel_rfl))⟩,
  f8 := ⟨Tryd.f38.name, by decide, Tryd.func38.trans (congrArg some (by kernel_rfl))⟩,
  t0 := Tryd.underlying0,
  a0 := Tryd.isAgg0,
  z0 := Tryd.sizeOf0,
  v0 := Tryd.zeroValue0,
  t3 := Tryd.underlying3,
  a3 := Tryd.isAgg3,
  z3 := Tryd.sizeOf3,
  v3 := Tryd.zeroValue3,
  t4 := Tryd.underlying4,
  a4 := Tryd.isAgg4,
  z4 := Tryd.sizeOf4,
  v4 := Tryd.zeroValue4,
  t22 := Tryd.underlying34,
  a22 := Tryd.isAgg34,
  z22 := Tryd.sizeOf34,
  v22 := Tryd.zeroValue34,
  a23 := Tryd.isAgg3,
  z23 := Tryd.sizeOf3,
  t25 := Tryd.underlying32,
  a25 := Tryd.isAgg32,
  z25 := Tryd.sizeOf32,
  v25 := Tryd.zeroValue32 }

theorem in_heap {w : World} {b o : Nat} {v : Value} (h : w.cell? ⟨b, o, none⟩ = some v) : b < w.heap.size := by
  refine Nat.lt_of_not_le fun hge => ?_
  have : w.heap[b]? = none := by simp; omega
  simp [World.cell?, this] at h

/-- The library's table of spaces lies, and its number of bytes that fit a register is some number. -/
def Laid (w : World) : Prop := (∀ c : Nat, c < 256 → w.cell? ⟨0, c, none⟩ = some (.int .u8 (if Lib.isSp (UInt8.ofNat c) then 1 else 0))) ∧ ∃ m : Int, w.cell? ⟨2, 0, none⟩ = some (.int .i64 m)
theorem Laid.below {w w' : World} (h : Laid w) (hb : Below w.heap.size w w') : Laid w' := by
  obtain ⟨h1, m, h2⟩ := h
  exact ⟨fun c hc => (hb.cell (p := ⟨0, c, none⟩) (in_heap (h1 c hc))).trans (h1 c hc), m, (hb.cell (p := ⟨2, 0, none⟩) (in_heap h2)).trans h2⟩
theorem Laid.alloc {w : World} (h : Laid w) (o : Obj) : Laid (w.alloc o) := h.below ((Below.refl _ w).alloc (Nat.le_refl _) o)
theorem Laid.drew {w : World} (h : Laid w) : Laid w.drew := h

theorem lib_fields (s : ByteArray) (w : World) (hL : Laid w) (hs : s.size < 4294967281) (ha : s.data.toList.all (fun b => decide (b.toNat < 128)) = true) :
    Calls Tryd.prog 18 #[.string s] w fun e w' => e = .returned (.slice (some ⟨w.heap.size, 0, none⟩) (Lib.fields s.data.toList).length (Lib.fields s.data.toList).length) ∧ w' = w.alloc (.cells ((Lib.fields s.data.toList).map fun l => Value.string ⟨l.toArray⟩).toArray 9) :=
  Any.strings_Fields_core lays157 (by kernel_rfl) s w hs (fun j b hb => by
    have := List.all_eq_true.1 ha b (List.mem_of_getElem? hb)
    simpa using this) hL.1
theorem lib_contains (s sub : ByteArray) (w : World) (hL : Laid w) (hs : s.size < 4294967281) :
    Calls Tryd.prog 23 #[.string s, .string sub] w fun e w' => e = .returned (.bool (Lib.contains s.data.toList sub.data.toList)) ∧ w' = w := by
  obtain ⟨_, m, hm⟩ := hL
  exact Any.strings_Contains lays144 s sub m w hs hm
theorem lib_cut (s p : ByteArray) (w : World) :
    Calls Tryd.prog 22 #[.string s, .string p] w fun e w' => e = .returned (.tuple #[.string ⟨(Lib.trimPrefix s.data.toList p.data.toList).toArray⟩, .bool (Lib.hasPrefix s.data.toList p.data.toList)]) ∧ w' = w :=
  Any.strings_CutPrefix lays103 s p w
theorem lib_index (b off n c : Nat) (zs : List ByteArray) (x : ByteArray) (w : World) (hz : n ≤ zs.length) (hbig : n ≤ 9223372036854775807) (hc : ∀ j, j < zs.length → w.cell? ⟨b, off + j, none⟩ = some (.string (zs.getD j ByteArray.empty))) :
    Calls Tryd.prog 24 #[.slice (some ⟨b, off, none⟩) n c, .string x] w fun e w' => e = .returned (.int .i64 (Lib.idxOfS (zs.take n) x)) ∧ w' = w :=
  Any.slices_Index_string lays109 b off n c zs x w hz hbig hc
theorem lib_some (p : Int → Bool) (g : Nat) (lb : Array Value) (eg : ∀ args w, (callFunc g args).run Tryd.prog w = .ok (.enter g args) w) (b off n c : Nat) (zs : List Int) (w : World)
    (hp : PredAt Tryd.prog g lb (fun x : Int => .int .i64 x) p w) (hz : n ≤ zs.length) (hbig : n ≤ 9223372036854775807) (hc : ∀ j, j < zs.length → w.cell? ⟨b, off + j, none⟩ = some (.int .i64 zs[j]!)) :
    Calls Tryd.prog 38 #[.slice (some ⟨b, off, none⟩) n c, .func (.func g) #[] lb] w fun e w' => e = .returned (.bool ((zs.take n).any p)) ∧ ∃ q, w' = w.drewN q :=
  AnyE.slices_ContainsFunc laysH8 (fun x : Int => .int .i64 x) p g lb eg b off n c zs w hp hz hbig hc
theorem lib_some_none (a : Option Addr) (c : Nat) (fv : Value) (w : World) :
    Calls Tryd.prog 38 #[.slice a 0 c, fv] w fun e w' => e = .returned (.bool false) ∧ w' = w :=
  AnyE.slices_ContainsFunc_empty laysH8 a c fv w
end Go.Proofs.YtjpcobfaojjceaaDoor
