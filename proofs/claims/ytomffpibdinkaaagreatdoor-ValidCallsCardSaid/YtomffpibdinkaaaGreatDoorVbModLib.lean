/-
  Facts and contracts that the proof calls.
-/
import Derived.Shelf.Strings.SlTrimAscii
import Derived.Shelf.Unicode.ValidAny
import Derived.Test.YtomffpibdinkaaaGreatDoorVbOpFields
import Derived.Test.YtomffpibdinkaaaGreatDoorVbNameValid
import Derived.Lib.AppendIntMem
namespace Go.Proofs.YtomffpibdinkaaaGreatDoor
set_option maxRecDepth 100000
set_option maxHeartbeats 16000000
open Go.Shelf Go.RowKit Go.Lib
def lays160_ren : Go.Shelf.Ren := ⟨fun | 160 => 60 | 232 => 91 | 231 => 90 | 227 => 92 | 234 => 94 | 233 => 93 | 236 => 96 | 235 => 95 | 228 => 113 | 271 => 116 | 151 => 115 | 197 => 114 | 120 => 126 | 152 => 125 | 260 => 124 | 137 => 131 | 119 => 132 | 224 => 133 | 225 => 134 | 217 => 137 | 266 => 138 | n => n, fun | 9 => 9 | 4 => 4 | 3 => 3 | 5 => 5 | 117 => 130 | 116 => 129 | 0 => 0 | 124 => 133 | 21 => 21 | 105 => 156 | 46 => 139 | 119 => 135 | 139 => 138 | 138 => 137 | n => n, fun | 3 => 0 | 4 => 1 | n => n⟩
theorem lays160 : Go.Proofs.Lays.n160 Tryz.prog lays160_ren := {
  mixed := by kernel_rfl,
  f119 := Tryz.func132.trans (congrArg some (by kernel_rfl)),
  f120 := Tryz.func126.trans (congrArg some (by kernel_rfl)),
  f137 := Tryz.func131.trans (congrArg some (by kernel_rfl)),
  f151 := Tryz.func115.trans (congrArg some (by kernel_rfl)),
  f152 := Tryz.func125.trans (congrArg some (by kernel_rfl)),
  f160 := Tryz.func60.trans (congrArg some (by kernel_rfl)),
  f197 := Tryz.func114.trans (congrArg some (by kernel_rfl)),
  f217 := Tryz.func137.trans (congrArg some (by kernel_rfl)),
  f224 := Tryz.func133.trans (congrArg some (by kernel_rfl)),
  f225 := Tryz.func134.trans (congrArg some (by kernel_rfl)),
  f227 := Tryz.func92.trans (congrArg some (by kernel_rfl)),
  f228 := Tryz.func113.trans (congrArg some (by kernel_rfl)),
  f231 := Tryz.func90.trans (congrArg some (by kernel_rfl)),
  f232 := Tryz.func91.trans (congrArg some (by kernel_rfl)),
  f233 := Tryz.func93.trans (congrArg some (by kernel_rfl)),
  f234 := Tryz.func94.trans (congrArg some (by kernel_rfl)),
  f235 := Tryz.func95.trans (congrArg some (by kernel_rfl)),
  f236 := Tryz.func96.trans (congrArg some (by kernel_rfl)),
  f260 := Tryz.func124.trans (congrArg some (by kernel_rfl)),
  f266 := Tryz.func138.trans (congrArg some (by kernel_rfl)),
  f271 := Tryz.func116.trans (congrArg some (by kernel_rfl)),
  t0 := Tryz.underlying0,
  a0 := Tryz.isAgg0,
  z0 := Tryz.sizeOf0,
  v0 := Tryz.zeroValue0,
  t3 := Tryz.underlying3,
  a3 := Tryz.isAgg3,
  z3 := Tryz.sizeOf3,
  v3 := Tryz.zeroValue3,
  t4 := Tryz.underlying4,
  a4 := Tryz.isAgg4,
  z4 := Tryz.sizeOf4,
  v4 := Tryz.zeroValue4,
  t5 := Tryz.underlying5,
  a5 := Tryz.isAgg5,
  z5 := Tryz.sizeOf5,
  v5 := Tryz.zeroValue5,
  t9 := Tryz.underlying9,
  a9 := Tryz.isAgg9,
  z9 := Tryz.sizeOf9,
  v9 := Tryz.zeroValue9,
  t21 := Tryz.underlying21,
  a21 := Tryz.isAgg21,
  z21 := Tryz.sizeOf21,
  v21 := Tryz.zeroValue21,
  t46 := Tryz.underlying139,
  a46 := Tryz.isAgg139,
  z46 := Tryz.sizeOf139,
  v46 := Tryz.zeroValue139,
  t105 := Tryz.underlying156,
  a105 := Tryz.isAgg156,
  z105 := Tryz.sizeOf156,
  v105 := Tryz.zeroValue156,
  t116 := Tryz.underlying129,
  a116 := Tryz.isAgg129,
  z116 := Tryz.sizeOf129,
  t117 := Tryz.underlying130,
  a117 := Tryz.isAgg130,
  z117 := Tryz.sizeOf130,
  v117 := Tryz.zeroValue130,
  t119 := Tryz.underlying135,
  a119 := Tryz.isAgg135,
  z119 := Tryz.sizeOf135,
  t124 := Tryz.underlying133,
  a124 := Tryz.isAgg133,
  z124 := Tryz.sizeOf133,
  v124 := Tryz.zeroValue133,
  t138 := Tryz.underlying137,
  a138 := Tryz.isAgg137,
  z138 := Tryz.sizeOf137,
  v138 := Tryz.zeroValue137,
  t139 := Tryz.underlying138,
  a139 := Tryz.isAgg138,
  z139 := Tryz.sizeOf138,
  v139 := Tryz.zeroValue138,
  g3 := by kernel_rfl,
  g4 := by kernel_rfl }
def lays196_ren : Go.Shelf.Ren := ⟨fun | 196 => 65 | 259 => 97 | n => n, fun | 9 => 9 | 4 => 4 | 3 => 3 | 5 => 5 | 12 => 12 | 119 => 135 | 0 => 0 | 46 => 139 | 139 => 138 | 138 => 137 | 53 => 159 | n => n, fun | 3 => 0 | 4 => 1 | n => n⟩
theorem lays196 : Go.Proofs.Lays.n196 Tryz.prog lays196_ren := {
  mixed := by kernel_rfl,
  f196 := Tryz.func65.trans (congrArg some (by kernel_rfl)),
  f259 := Tryz.func97.trans (congrArg some (by kernel_rfl)),
  t0 := Tryz.underlying0,
  a0 := Tryz.isAgg0,
  z0 := Tryz.sizeOf0,
  v0 := Tryz.zeroValue0,
  t3 := Tryz.underlying3,
  a3 := Tryz.isAgg3,
  z3 := Tryz.sizeOf3,
  v3 := Tryz.zeroValue3,
  t4 := Tryz.underlying4,
  a4 := Tryz.isAgg4,
  z4 := Tryz.sizeOf4,
  v4 := Tryz.zeroValue4,
  t5 := Tryz.underlying5,
  a5 := Tryz.isAgg5,
  z5 := Tryz.sizeOf5,
  v5 := Tryz.zeroValue5,
  t9 := Tryz.underlying9,
  a9 := Tryz.isAgg9,
  z9 := Tryz.sizeOf9,
  v9 := Tryz.zeroValue9,
  t12 := Tryz.underlying12,
  a12 := Tryz.isAgg12,
  z12 := Tryz.sizeOf12,
  v12 := Tryz.zeroValue12,
  t46 := Tryz.underlying139,
  a46 := Tryz.isAgg139,
  z46 := Tryz.sizeOf139,
  v46 := Tryz.zeroValue139,
  t53 := Tryz.underlying159,
  a53 := Tryz.isAgg159,
  z53 := Tryz.sizeOf159,
  v53 := Tryz.zeroValue159,
  t119 := Tryz.underlying135,
  a119 := Tryz.isAgg135,
  z119 := Tryz.sizeOf135,
  t138 := Tryz.underlying137,
  a138 := Tryz.isAgg137,
  z138 := Tryz.sizeOf137,
  v138 := Tryz.zeroValue137,
  t139 := Tryz.underlying138,
  a139 := Tryz.isAgg138,
  z139 := Tryz.sizeOf138,
  v139 := Tryz.zeroValue138,
  g3 := by kernel_rfl,
  g4 := by kernel_rfl }
structure Laid (w : World) : Prop where
  spaces : Spaces w
  utf8 : Lib.Utf8Tabs 0 1 w
theorem Laid.below {w w' : World} (h : Laid w) (hb : Below w.heap.size w w') : Laid w' := ⟨h.spaces.below hb, Utf8Tabs_below h.utf8 hb⟩
theorem Laid.alloc {w : World} (h : Laid w) (o : Obj) : Laid (w.alloc o) := h.below ((Below.refl _ w).alloc (Nat.le_refl _) o)
theorem Laid.drew {w : World} (h : Laid w) : Laid w.drew := h.below (Below.refl _ w).drew
theorem dropWhile_nil (p : UInt8 → Bool) : ∀ l : List UInt8, l.dropWhile p = [] ↔ ∀ x ∈ l, p x = true
  | [] => by simp
  | a :: l => by
    rw [List.dropWhile_cons]
    by_cases h : p a = true
    · rw [if_pos h, dropWhile_nil p l]; simp [h]
    · rw [if_neg h]; simp [h]
theorem trim_all (l cs : List UInt8) : trimS l cs = [] ↔ ∀ x ∈ l, cs.contains x = true := by
  unfold trimS trimLeftS trimRightS
  rw [dropWhile_nil]
  constructor
  · intro h x hx
    by_cases hh : cs.contains x = true
    · exact hh
    · refine h x ?_
      rw [List.mem_reverse]
      have : ∀ (m : List UInt8), x ∈ m → x ∈ m.dropWhile (cs.contains ·) := by
        intro m
        induction m with
        | nil => intro q; cases q
        | cons a m ih =>
          intro q
          rw [List.dropWhile_cons]
          split
          · rename_i ha
            rcases List.mem_cons.1 q with rfl | q
            · exact absurd ha hh
            · exact ih q
          · exact q
      exact this _ (List.mem_reverse.2 hx)
  · intro h x hx
    rw [List.mem_reverse] at hx
    exact h x (List.mem_reverse.1 ((List.dropWhile_sublist _).subset hx))
theorem trim_types (l : List UInt8) : (trimS l [126, 127]).isEmpty = l.all vtype := by
  rw [Bool.eq_iff_iff, List.isEmpty_iff, trim_all, List.all_eq_true]
  refine forall_congr' fun x => forall_congr' fun _ => ?_
  simp only [vtype, List.contains_cons, List.contains_nil, Bool.or_false, Bool.or_eq_true, beq_iff_eq, decide_eq_true_eq]
  rw [← UInt8.toNat_inj, ← UInt8.toNat_inj]
  simp only [show (126 : UInt8).toNat = 126 from rfl, show (127 : UInt8).toNat = 127 from rfl]
  omega
theorem lib_trim (s : ByteArray) (w : World) (hs : s.size ≤ maxLen) :
    Calls Tryz.prog 60 #[.string s, .string ⟨#[126, 127]⟩] w fun e w' => (∃ r : ByteArray, e = .returned (.string r) ∧ r.toList.isEmpty = s.data.toList.all vtype) ∧ Below w.heap.size w w' :=
  (Any.strings_Trim_laid lays160 (by kernel_rfl) s ⟨#[126, 127]⟩ w (by unfold maxLen at hs; omega) (by decide) (ascii_of_all (by decide))).mono fun _ _ ⟨h1, h2⟩ => ⟨⟨_, h1, by rw [Lib.toList_data]; exact trim_types _⟩, h2⟩
theorem lib_valid (s : ByteArray) (w : World) (hL : Laid w) (hs : s.size ≤ maxLen) :
    Calls Tryz.prog 65 #[.string s] w fun e w' => e = .returned (.bool (isName s.data.toList)) ∧ Below w.heap.size w w' := by
  rw [← valid_name]
  exact Any.utf8_ValidString lays196 s w (by unfold maxLen at hs; omega) hL.utf8
end Go.Proofs.YtomffpibdinkaaaGreatDoor
namespace Go.Proofs.YtomffpibdinkaaaGreatDoor
set_option maxRecDepth 100000
set_option maxHeartbeats 16000000
open Go.RowKit
def Says {α : Type} (g : Nat) (lb : Array Value) (val : α → Value) (ok : World → α → Prop) (p : α → Bool) (w0 : World) : Prop :=
  ∀ (x : α) (w : World), Below w0.heap.size w0 w → ok w x → Calls Tryz.prog g (#[val x] ++ lb) w fun e w' => e = .returned (.bool (p x)) ∧ Below w.heap.size w w'
theorem Says.later {α : Type} {g : Nat} {lb : Array Value} {val : α → Value} {ok : World → α → Prop} {p : α → Bool} {w0 w1 : World} (h : Says g lb val ok p w0) (hb : Below w0.heap.size w0 w1) : Says g lb val ok p w1 :=
  fun x w hw hx => h x w (hb.trans (hw.mono hb.size)) hx
def within (low high n : Int) : Bool := decide (low ≤ n ∧ n ≤ high)
theorem within_call (low high n : Int) (a b : Nat) (w : World) (h1 : w.cell? ⟨a, 0, none⟩ = some (.int .i64 low)) (h2 : w.cell? ⟨b, 0, none⟩ = some (.int .i64 high)) :
    Calls Tryz.prog 58 #[.int .i64 n, .pointer (some ⟨a, 0, none⟩), .pointer (some ⟨b, 0, none⟩)] w fun e w' => e = .returned (.bool (within low high n)) ∧ Below w.heap.size w w' := by
  unfold within
  by_cases c1 : low ≤ n
  · by_cases c2 : n ≤ high
    · have e : decide (low ≤ n ∧ n ≤ high) = true := by simp [c1, c2]
      rw [e]
      go_enter Tryz.func58, Tryz.ntmps58
      go_wp2
      go_ret
      exact ⟨rfl, Below.refl _ _⟩
    · have e : decide (low ≤ n ∧ n ≤ high) = false := by simp [c2]
      rw [e]
      go_enter Tryz.func58, Tryz.ntmps58
      go_wp2
      go_ret
      exact ⟨rfl, Below.refl _ _⟩
  · have e : decide (low ≤ n ∧ n ≤ high) = false := by simp [c1]
    rw [e]
    go_enter Tryz.func58, Tryz.ntmps58
    go_wp2
    go_ret
    exact ⟨rfl, Below.refl _ _⟩
def anyInt (_ : World) (n : Int) : Prop := inI64 n
theorem within_of (low high : Int) (w : World) :
    Calls Tryz.prog 33 #[.int .i64 low, .int .i64 high] w fun e w' => ∃ lb, e = .returned (.func (.func 58) #[] lb) ∧ Says 58 lb (.int .i64) anyInt (within low high) w' ∧ Below w.heap.size w w' := by
  go_enter Tryz.func33, Tryz.ntmps33
  go_wp2
  go_ret
  refine ⟨_, rfl, fun n w1 hb _ => within_call low high n w.heap.size (w.heap.size + 1) w1 ?_ ?_, ((Below.refl _ w).alloc (Nat.le_refl _) _).alloc (by simp) _⟩
  · rw [hb.cell (p := ⟨w.heap.size, 0, none⟩) (by simp; omega), World.cell?_alloc_lt _ _ _ (by simp), World.cell?_alloc_new]; rfl
  · rw [hb.cell (p := ⟨w.heap.size + 1, 0, none⟩) (by simp), show w.heap.size + 1 = (w.alloc (.cells #[.int .i64 low] 2)).heap.size by simp, World.cell?_alloc_new]; rfl
theorem kinds_call (most : Int) (s : ByteArray) (hs : s.size ≤ maxLen) (a : Nat) (w : World) (h1 : w.cell? ⟨a, 0, none⟩ = some (.int .i64 most)) :
    Calls Tryz.prog 59 #[.string s, .pointer (some ⟨a, 0, none⟩)] w fun e w' => e = .returned (.bool (vtypes s.data.toList most)) ∧ Below w.heap.size w w' := by
  have ct := lib_trim s w hs
  have hl : (s.data.toList.length : Int) = s.size := by rw [Array.length_toList]; rfl
  unfold vtypes
  rw [hl]
  generalize s.data.toList.all vtype = V at ct ⊢
  clear hl
  by_cases c1 : (s.size : Int) ≤ most
  · rw [decide_eq_true c1, Bool.and_true]
    cases V with
    | true =>
      go_enter Tryz.func59, Tryz.ntmps59
      go_wp2_with (go_at_call 60; refine ct.mono ?_; rintro e w' ⟨⟨r, rfl, hr⟩, hb⟩)
      go_ret
      exact ⟨rfl, hb⟩
    | false =>
      go_enter Tryz.func59, Tryz.ntmps59
      go_wp2_with (go_at_call 60; refine ct.mono ?_; rintro e w' ⟨⟨r, rfl, hr⟩, hb⟩)
      go_ret
      exact ⟨rfl, hb⟩
  · rw [decide_eq_false c1, Bool.and_false]
    clear ct
    go_enter Tryz.func59, Tryz.ntmps59
    go_wp2
    go_ret
    exact ⟨rfl, Below.refl _ _⟩
def anyStr (_ : World) (s : ByteArray) : Prop := s.size ≤ maxLen
theorem kinds_of (most : Int) (w : World) :
    Calls Tryz.prog 34 #[.int .i64 most] w fun e w' => ∃ lb, e = .returned (.func (.func 59) #[] lb) ∧ Says 59 lb .string anyStr (fun s => vtypes s.data.toList most) w' ∧ Below w.heap.size w w' := by
  go_enter Tryz.func34, Tryz.ntmps34
  go_wp2
  go_ret
  refine ⟨_, rfl, fun s w1 hb hs => kinds_call most s hs w.heap.size w1 ?_, (Below.refl _ w).alloc (Nat.le_refl _) _⟩
  rw [hb.cell (p := ⟨w.heap.size, 0, none⟩) (by simp), World.cell?_alloc_new]; rfl
end Go.Proofs.YtomffpibdinkaaaGreatDoor
namespace Go.Proofs.YtomffpibdinkaaaGreatDoor
set_option maxRecDepth 100000
set_option maxHeartbeats 16000000
open Go.RowKit
theorem bnext {w w1 w2 : World} {B : Nat} (h1 : Below B w w1) (hs : B ≤ w1.heap.size) (h2 : Below w1.heap.size w1 w2) : Below B w w2 := h1.trans (h2.mono hs)
theorem ret_bl4 {a b : Bool} (h : a = b) : Ending.returned (.bool b) = .returned (.bool a) := by rw [h]
def TyV.val (x : TyV) : Value := .agg #[.string x.params, .string x.results]
def anyTy (_ : World) (t : TyV) : Prop := t.params.size ≤ maxLen ∧ t.results.size ≤ maxLen
theorem all_TyV {g : Nat} {lb : Array Value} {q : TyV → Bool} {w0 : World} (h : Says g lb TyV.val anyTy q w0) (eg : ∀ args w, (callFunc g args).run Tryz.prog w = .ok (.enter g args) w) (p : Option Addr) (n cap : Nat) (l : List TyV) (hn : l.length = n) (hm : n ≤ 281474976710656) (w : World) (hB0 : Below w0.heap.size w0 w) (hr : RowsAt w p 2 TyV.row l) (hok : ∀ x ∈ l, anyTy w x) :
    Calls Tryz.prog 61 #[.slice p n cap, .func (.func g) #[] lb] w fun e w' => e = .returned (.bool (l.all q)) ∧ Below w.heap.size w w' := by
  obtain ⟨R, hR⟩ : ∃ R, R = l.all q := ⟨_, rfl⟩
  rw [← hR]
  have HR : Hid (R = (l.drop 0).all q) := Lib.hid hR
  have HN := Lib.hid hn
  clear hR hn
  go_enter Tryz.func61, Tryz.ntmps61
  go_wp2
  go_loopw [9] (fun i wr => ∃ k : Nat, k ≤ n ∧ i = .int .i64 k ∧ Below w.heap.size w wr ∧ Hid (R = (l.drop k).all q)) (fun i _ => n - (intOf i).toNat)
  case atStart => exact ⟨0, by omega, rfl, Below.refl _ _, HR⟩
  case round =>
    clear HR
    obtain ⟨k, hk, rfl, hB, HK⟩ := hrel
    by_cases hlt : k < n
    · have hlt' : k < l.length := by have := HN.out; omega
      have hrows := hr.below hB (Nat.le_refl _)
      obtain ⟨b, o, hp, hb, e0⟩ := hrows k hlt' 0 _ rfl
      subst hp
      have e1 := hrows.cell hlt' 1 rfl
      have hx : anyTy wr l[k] := hok _ (List.getElem_mem hlt')
      have hD := HK.out
      rw [List.drop_eq_getElem_cons hlt', List.all_cons] at hD
      generalize l[k] = x at *
      have cq := fun (W : World) (hW : Below wr.heap.size wr W) (hx' : anyTy W x) => h x W ((hB0.trans (hB.mono hB0.size)).trans (hW.mono (Nat.le_trans hB0.size hB.size))) hx'
      generalize q x = Y at cq hD
      have HD := Lib.hid hD
      have HX := Lib.hid hx
      clear hD hrows hx h hr hok
      obtain ⟨xp, xr⟩ := x
      simp only [Nat.add_zero, TyV.val] at e0 e1 cq
      cases Y with
      | false =>
        go_wp2_with (go_at_fn g; refine (cq _ ?_ ?_).mono ?_; (exact (Below.refl _ wr).alloc (Nat.le_refl _) _); (exact HX.out); rintro e w1 ⟨rfl, hb1⟩)
        go_ret
        exact ⟨ret_bl4 (by have := HD.out; simpa using this), bnext (hB.alloc hB.size _) (by have := hB.size; simp; omega) hb1⟩
      | true =>
        go_wp2_with (go_at_fn g; refine (cq _ ?_ ?_).mono ?_; (exact (Below.refl _ wr).alloc (Nat.le_refl _) _); (exact HX.out); rintro e w1 ⟨rfl, hb1⟩)
        have hB2 := bnext (hB.alloc hB.size _) (by have := hB.size; simp; omega) hb1
        go_roundw
        case rel => exact ⟨k + 1, by omega, by go_num, hB2, Lib.hid (by have := HD.out; simpa using this)⟩
        case measure => simp [intOf]; omega
    · have hk' : l.length ≤ k := by have := HN.out; omega
      have hD := HK.out
      rw [List.drop_eq_nil_of_le hk', List.all_nil] at hD
      have HD := Lib.hid hD
      clear hD hk'
      go_wp2
      go_ret
      exact ⟨ret_bl4 HD.out, hB⟩
def MemV.val (x : MemV) : Value := .agg #[.int .i64 x.min, .int .i64 x.max]
def anyMem (_ : World) (t : MemV) : Prop := inI64 t.min ∧ inI64 t.max
theorem all_MemV {g : Nat} {lb : Array Value} {q : MemV → Bool} {w0 : World} (h : Says g lb MemV.val anyMem q w0) (eg : ∀ args w, (callFunc g args).run Tryz.prog w = .ok (.enter g args) w) (p : Option Addr) (n cap : Nat) (l : List MemV) (hn : l.length = n) (hm : n ≤ 281474976710656) (w : World) (hB0 : Below w0.heap.size w0 w) (hr : RowsAt w p 2 MemV.row l) (hok : ∀ x ∈ l, anyMem w x) :
    Calls Tryz.prog 62 #[.slice p n cap, .func (.func g) #[] lb] w fun e w' => e = .returned (.bool (l.all q)) ∧ Below w.heap.size w w' := by
  obtain ⟨R, hR⟩ : ∃ R, R = l.all q := ⟨_, rfl⟩
  rw [← hR]
  have HR : Hid (R = (l.drop 0).all q) := Lib.hid hR
  have HN := Lib.hid hn
  clear hR hn
  go_enter Tryz.func62, Tryz.ntmps62
  go_wp2
  go_loopw [9] (fun i wr => ∃ k : Nat, k ≤ n ∧ i = .int .i64 k ∧ Below w.heap.size w wr ∧ Hid (R = (l.drop k).all q)) (fun i _ => n - (intOf i).toNat)
  case atStart => exact ⟨0, by omega, rfl, Below.refl _ _, HR⟩
  case round =>
    clear HR
    obtain ⟨k, hk, rfl, hB, HK⟩ := hrel
    by_cases hlt : k < n
    · have hlt' : k < l.length := by have := HN.out; omega
      have hrows := hr.below hB (Nat.le_refl _)
      obtain ⟨b, o, hp, hb, e0⟩ := hrows k hlt' 0 _ rfl
      subst hp
      have e1 := hrows.cell hlt' 1 rfl
      have hx : anyMem wr l[k] := hok _ (List.getElem_mem hlt')
      have hD := HK.out
      rw [List.drop_eq_getElem_cons hlt', List.all_cons] at hD
      generalize l[k] = x at *
      have cq := fun (W : World) (hW : Below wr.heap.size wr W) (hx' : anyMem W x) => h x W ((hB0.trans (hB.mono hB0.size)).trans (hW.mono (Nat.le_trans hB0.size hB.size))) hx'
      generalize q x = Y at cq hD
      have HD := Lib.hid hD
      have HX := Lib.hid hx
      clear hD hrows hx h hr hok
      obtain ⟨xn, xm⟩ := x
      simp only [Nat.add_zero, MemV.val] at e0 e1 cq
      cases Y with
      | false =>
        go_wp2_with (go_at_fn g; refine (cq _ ?_ ?_).mono ?_; (exact (Below.refl _ wr).alloc (Nat.le_refl _) _); (exact HX.out); rintro e w1 ⟨rfl, hb1⟩)
        go_ret
        exact ⟨ret_bl4 (by have := HD.out; simpa using this), bnext (hB.alloc hB.size _) (by have := hB.size; simp; omega) hb1⟩
      | true =>
        go_wp2_with (go_at_fn g; refine (cq _ ?_ ?_).mono ?_; (exact (Below.refl _ wr).alloc (Nat.le_refl _) _); (exact HX.out); rintro e w1 ⟨rfl, hb1⟩)
        have hB2 := bnext (hB.alloc hB.size _) (by have := hB.size; simp; omega) hb1
        go_roundw
        case rel => exact ⟨k + 1, by omega, by go_num, hB2, Lib.hid (by have := HD.out; simpa using this)⟩
        case measure => simp [intOf]; omega
    · have hk' : l.length ≤ k := by have := HN.out; omega
      have hD := HK.out
      rw [List.drop_eq_nil_of_le hk', List.all_nil] at hD
      have HD := Lib.hid hD
      clear hD hk'
      go_wp2
      go_ret
      exact ⟨ret_bl4 HD.out, hB⟩
def GlobV.val (x : GlobV) : Value := .agg #[.int .i64 x.type, .bool x.may, .int .i64 x.init]
def anyGlob (_ : World) (t : GlobV) : Prop := inI64 t.type ∧ inI64 t.init
theorem all_GlobV {g : Nat} {lb : Array Value} {q : GlobV → Bool} {w0 : World} (h : Says g lb GlobV.val anyGlob q w0) (eg : ∀ args w, (callFunc g args).run Tryz.prog w = .ok (.enter g args) w) (p : Option Addr) (n cap : Nat) (l : List GlobV) (hn : l.length = n) (hm : n ≤ 281474976710656) (w : World) (hB0 : Below w0.heap.size w0 w) (hr : RowsAt w p 3 GlobV.row l) (hok : ∀ x ∈ l, anyGlob w x) :
    Calls Tryz.prog 63 #[.slice p n cap, .func (.func g) #[] lb] w fun e w' => e = .returned (.bool (l.all q)) ∧ Below w.heap.size w w' := by
  obtain ⟨R, hR⟩ : ∃ R, R = l.all q := ⟨_, rfl⟩
  rw [← hR]
  have HR : Hid (R = (l.drop 0).all q) := Lib.hid hR
  have HN := Lib.hid hn
  clear hR hn
  go_enter Tryz.func63, Tryz.ntmps63
  go_wp2
  go_loopw [9] (fun i wr => ∃ k : Nat, k ≤ n ∧ i = .int .i64 k ∧ Below w.heap.size w wr ∧ Hid (R = (l.drop k).all q)) (fun i _ => n - (intOf i).toNat)
  case atStart => exact ⟨0, by omega, rfl, Below.refl _ _, HR⟩
  case round =>
    clear HR
    obtain ⟨k, hk, rfl, hB, HK⟩ := hrel
    by_cases hlt : k < n
    · have hlt' : k < l.length := by have := HN.out; omega
      have hrows := hr.below hB (Nat.le_refl _)
      obtain ⟨b, o, hp, hb, e0⟩ := hrows k hlt' 0 _ rfl
      subst hp
      have e1 := hrows.cell hlt' 1 rfl
      have e2 := hrows.cell hlt' 2 rfl
      have hx : anyGlob wr l[k] := hok _ (List.getElem_mem hlt')
      have hD := HK.out
      rw [List.drop_eq_getElem_cons hlt', List.all_cons] at hD
      generalize l[k] = x at *
      have cq := fun (W : World) (hW : Below wr.heap.size wr W) (hx' : anyGlob W x) => h x W ((hB0.trans (hB.mono hB0.size)).trans (hW.mono (Nat.le_trans hB0.size hB.size))) hx'
      generalize q x = Y at cq hD
      have HD := Lib.hid hD
      have HX := Lib.hid hx
      clear hD hrows hx h hr hok
      obtain ⟨xt, xb, xi⟩ := x
      simp only [Nat.add_zero, GlobV.val] at e0 e1 e2 cq
      cases Y with
      | false =>
        go_wp2_with (go_at_fn g; refine (cq _ ?_ ?_).mono ?_; (exact (Below.refl _ wr).alloc (Nat.le_refl _) _); (exact HX.out); rintro e w1 ⟨rfl, hb1⟩)
        go_ret
        exact ⟨ret_bl4 (by have := HD.out; simpa using this), bnext (hB.alloc hB.size _) (by have := hB.size; simp; omega) hb1⟩
      | true =>
        go_wp2_with (go_at_fn g; refine (cq _ ?_ ?_).mono ?_; (exact (Below.refl _ wr).alloc (Nat.le_refl _) _); (exact HX.out); rintro e w1 ⟨rfl, hb1⟩)
        have hB2 := bnext (hB.alloc hB.size _) (by have := hB.size; simp; omega) hb1
        go_roundw
        case rel => exact ⟨k + 1, by omega, by go_num, hB2, Lib.hid (by have := HD.out; simpa using this)⟩
        case measure => simp [intOf]; omega
    · have hk' : l.length ≤ k := by have := HN.out; omega
      have hD := HK.out
      rw [List.drop_eq_nil_of_le hk', List.all_nil] at hD
      have HD := Lib.hid hD
      clear hD hk'
      go_wp2
      go_ret
      exact ⟨ret_bl4 HD.out, hB⟩
def ExpV.val (x : ExpV) : Value := .agg #[.string x.name, .int .i64 x.kind, .int .i64 x.index]
def anyExp (_ : World) (t : ExpV) : Prop := t.name.size ≤ maxLen ∧ inI64 t.kind ∧ inI64 t.index
theorem all_ExpV {g : Nat} {lb : Array Value} {q : ExpV → Bool} {w0 : World} (h : Says g lb ExpV.val anyExp q w0) (eg : ∀ args w, (callFunc g args).run Tryz.prog w = .ok (.enter g args) w) (p : Option Addr) (n cap : Nat) (l : List ExpV) (hn : l.length = n) (hm : n ≤ 281474976710656) (w : World) (hB0 : Below w0.heap.size w0 w) (hr : RowsAt w p 3 ExpV.row l) (hok : ∀ x ∈ l, anyExp w x) :
    Calls Tryz.prog 64 #[.slice p n cap, .func (.func g) #[] lb] w fun e w' => e = .returned (.bool (l.all q)) ∧ Below w.heap.size w w' := by
  obtain ⟨R, hR⟩ : ∃ R, R = l.all q := ⟨_, rfl⟩
  rw [← hR]
  have HR : Hid (R = (l.drop 0).all q) := Lib.hid hR
  have HN := Lib.hid hn
  clear hR hn
  go_enter Tryz.func64, Tryz.ntmps64
  go_wp2
  go_loopw [9] (fun i wr => ∃ k : Nat, k ≤ n ∧ i = .int .i64 k ∧ Below w.heap.size w wr ∧ Hid (R = (l.drop k).all q)) (fun i _ => n - (intOf i).toNat)
  case atStart => exact ⟨0, by omega, rfl, Below.refl _ _, HR⟩
  case round =>
    clear HR
    obtain ⟨k, hk, rfl, hB, HK⟩ := hrel
    by_cases hlt : k < n
    · have hlt' : k < l.length := by have := HN.out; omega
      have hrows := hr.below hB (Nat.le_refl _)
      obtain ⟨b, o, hp, hb, e0⟩ := hrows k hlt' 0 _ rfl
      subst hp
      have e1 := hrows.cell hlt' 1 rfl
      have e2 := hrows.cell hlt' 2 rfl
      have hx : anyExp wr l[k] := hok _ (List.getElem_mem hlt')
      have hD := HK.out
      rw [List.drop_eq_getElem_cons hlt', List.all_cons] at hD
      generalize l[k] = x at *
      have cq := fun (W : World) (hW : Below wr.heap.size wr W) (hx' : anyExp W x) => h x W ((hB0.trans (hB.mono hB0.size)).trans (hW.mono (Nat.le_trans hB0.size hB.size))) hx'
      generalize q x = Y at cq hD
      have HD := Lib.hid hD
      have HX := Lib.hid hx
      clear hD hrows hx h hr hok
      obtain ⟨xn, xk, xi⟩ := x
      simp only [Nat.add_zero, ExpV.val] at e0 e1 e2 cq
      cases Y with
      | false =>
        go_wp2_with (go_at_fn g; refine (cq _ ?_ ?_).mono ?_; (exact (Below.refl _ wr).alloc (Nat.le_refl _) _); (exact HX.out); rintro e w1 ⟨rfl, hb1⟩)
        go_ret
        exact ⟨ret_bl4 (by have := HD.out; simpa using this), bnext (hB.alloc hB.size _) (by have := hB.size; simp; omega) hb1⟩
      | true =>
        go_wp2_with (go_at_fn g; refine (cq _ ?_ ?_).mono ?_; (exact (Below.refl _ wr).alloc (Nat.le_refl _) _); (exact HX.out); rintro e w1 ⟨rfl, hb1⟩)
        have hB2 := bnext (hB.alloc hB.size _) (by have := hB.size; simp; omega) hb1
        go_roundw
        case rel => exact ⟨k + 1, by omega, by go_num, hB2, Lib.hid (by have := HD.out; simpa using this)⟩
        case measure => simp [intOf]; omega
    · have hk' : l.length ≤ k := by have := HN.out; omega
      have hD := HK.out
      rw [List.drop_eq_nil_of_le hk', List.all_nil] at hD
      have HD := Lib.hid hD
      clear hD hk'
      go_wp2
      go_ret
      exact ⟨ret_bl4 HD.out, hB⟩
def DatV.val (x : DatV) : Value := .agg #[.int .i64 x.offset, .string x.bytes]
def anyDat (_ : World) (t : DatV) : Prop := inI64 t.offset ∧ t.bytes.size ≤ maxLen
theorem all_DatV {g : Nat} {lb : Array Value} {q : DatV → Bool} {w0 : World} (h : Says g lb DatV.val anyDat q w0) (eg : ∀ args w, (callFunc g args).run Tryz.prog w = .ok (.enter g args) w) (p : Option Addr) (n cap : Nat) (l : List DatV) (hn : l.length = n) (hm : n ≤ 281474976710656) (w : World) (hB0 : Below w0.heap.size w0 w) (hr : RowsAt w p 2 DatV.row l) (hok : ∀ x ∈ l, anyDat w x) :
    Calls Tryz.prog 66 #[.slice p n cap, .func (.func g) #[] lb] w fun e w' => e = .returned (.bool (l.all q)) ∧ Below w.heap.size w w' := by
  obtain ⟨R, hR⟩ : ∃ R, R = l.all q := ⟨_, rfl⟩
  rw [← hR]
  have HR : Hid (R = (l.drop 0).all q) := Lib.hid hR
  have HN := Lib.hid hn
  clear hR hn
  go_enter Tryz.func66, Tryz.ntmps66
  go_wp2
  go_loopw [9] (fun i wr => ∃ k : Nat, k ≤ n ∧ i = .int .i64 k ∧ Below w.heap.size w wr ∧ Hid (R = (l.drop k).all q)) (fun i _ => n - (intOf i).toNat)
  case atStart => exact ⟨0, by omega, rfl, Below.refl _ _, HR⟩
  case round =>
    clear HR
    obtain ⟨k, hk, rfl, hB, HK⟩ := hrel
    by_cases hlt : k < n
    · have hlt' : k < l.length := by have := HN.out; omega
      have hrows := hr.below hB (Nat.le_refl _)
      obtain ⟨b, o, hp, hb, e0⟩ := hrows k hlt' 0 _ rfl
      subst hp
      have e1 := hrows.cell hlt' 1 rfl
      have hx : anyDat wr l[k] := hok _ (List.getElem_mem hlt')
      have hD := HK.out
      rw [List.drop_eq_getElem_cons hlt', List.all_cons] at hD
      generalize l[k] = x at *
      have cq := fun (W : World) (hW : Below wr.heap.size wr W) (hx' : anyDat W x) => h x W ((hB0.trans (hB.mono hB0.size)).trans (hW.mono (Nat.le_trans hB0.size hB.size))) hx'
      generalize q x = Y at cq hD
      have HD := Lib.hid hD
      have HX := Lib.hid hx
      clear hD hrows hx h hr hok
      obtain ⟨xo, xb⟩ := x
      simp only [Nat.add_zero, DatV.val] at e0 e1 cq
      cases Y with
      | false =>
        go_wp2_with (go_at_fn g; refine (cq _ ?_ ?_).mono ?_; (exact (Below.refl _ wr).alloc (Nat.le_refl _) _); (exact HX.out); rintro e w1 ⟨rfl, hb1⟩)
        go_ret
        exact ⟨ret_bl4 (by have := HD.out; simpa using this), bnext (hB.alloc hB.size _) (by have := hB.size; simp; omega) hb1⟩
      | true =>
        go_wp2_with (go_at_fn g; refine (cq _ ?_ ?_).mono ?_; (exact (Below.refl _ wr).alloc (Nat.le_refl _) _); (exact HX.out); rintro e w1 ⟨rfl, hb1⟩)
        have hB2 := bnext (hB.alloc hB.size _) (by have := hB.size; simp; omega) hb1
        go_roundw
        case rel => exact ⟨k + 1, by omega, by go_num, hB2, Lib.hid (by have := HD.out; simpa using this)⟩
        case measure => simp [intOf]; omega
    · have hk' : l.length ≤ k := by have := HN.out; omega
      have hD := HK.out
      rw [List.drop_eq_nil_of_le hk', List.all_nil] at hD
      have HD := Lib.hid hD
      clear hD hk'
      go_wp2
      go_ret
      exact ⟨ret_bl4 HD.out, hB⟩
theorem all_FnV {g : Nat} {lb : Array Value} {q : FnV → Bool} {w0 : World} (h : Says g lb FnV.val FnAt q w0) (eg : ∀ args w, (callFunc g args).run Tryz.prog w = .ok (.enter g args) w) (p : Option Addr) (n cap : Nat) (l : List FnV) (hn : l.length = n) (hm : n ≤ 281474976710656) (w : World) (hB0 : Below w0.heap.size w0 w) (hr : RowsAt w p 3 FnV.row l) (hst : ∀ w1, Below w.heap.size w w1 → ∀ x ∈ l, FnAt w1 x) :
    Calls Tryz.prog 67 #[.slice p n cap, .func (.func g) #[] lb] w fun e w' => e = .returned (.bool (l.all q)) ∧ Below w.heap.size w w' := by
  obtain ⟨R, hR⟩ : ∃ R, R = l.all q := ⟨_, rfl⟩
  rw [← hR]
  have HR : Hid (R = (l.drop 0).all q) := Lib.hid hR
  have HN := Lib.hid hn
  clear hR hn
  go_enter Tryz.func67, Tryz.ntmps67
  go_wp2
  go_loopw [9] (fun i wr => ∃ k : Nat, k ≤ n ∧ i = .int .i64 k ∧ Below w.heap.size w wr ∧ Hid (R = (l.drop k).all q)) (fun i _ => n - (intOf i).toNat)
  case atStart => exact ⟨0, by omega, rfl, Below.refl _ _, HR⟩
  case round =>
    clear HR
    obtain ⟨k, hk, rfl, hB, HK⟩ := hrel
    by_cases hlt : k < n
    · have hlt' : k < l.length := by have := HN.out; omega
      have hrows := hr.below hB (Nat.le_refl _)
      obtain ⟨b, o, hp, hb, e0⟩ := hrows k hlt' 0 _ rfl
      subst hp
      have e1 := hrows.cell hlt' 1 rfl
      have e2 := hrows.cell hlt' 2 rfl
      have hx : FnAt wr l[k] := hst wr hB _ (List.getElem_mem hlt')
      have hD := HK.out
      rw [List.drop_eq_getElem_cons hlt', List.all_cons] at hD
      generalize l[k] = x at *
      have cq := fun (W : World) (hW : Below wr.heap.size wr W) (hx' : FnAt W x) => h x W ((hB0.trans (hB.mono hB0.size)).trans (hW.mono (Nat.le_trans hB0.size hB.size))) hx'
      generalize q x = Y at cq hD
      have HD := Lib.hid hD
      have HX := Lib.hid hx
      clear hD hrows hx h hr hst
      obtain ⟨xt, xl, xp, xc, xk⟩ := x
      simp only [Nat.add_zero, FnV.val] at e0 e1 e2 cq
      generalize xk.length = nk at e2 cq
      cases Y with
      | false =>
        go_wp2_with (go_at_fn g; refine (cq _ ?_ ?_).mono ?_; (exact (Below.refl _ wr).alloc (Nat.le_refl _) _); (exact HX.out.below ((Below.refl _ wr).alloc (Nat.le_refl _) _) (Nat.le_refl _)); rintro e w1 ⟨rfl, hb1⟩)
        go_ret
        exact ⟨ret_bl4 (by have := HD.out; simpa using this), bnext (hB.alloc hB.size _) (by have := hB.size; simp; omega) hb1⟩
      | true =>
        go_wp2_with (go_at_fn g; refine (cq _ ?_ ?_).mono ?_; (exact (Below.refl _ wr).alloc (Nat.le_refl _) _); (exact HX.out.below ((Below.refl _ wr).alloc (Nat.le_refl _) _) (Nat.le_refl _)); rintro e w1 ⟨rfl, hb1⟩)
        have hB2 := bnext (hB.alloc hB.size _) (by have := hB.size; simp; omega) hb1
        go_roundw
        case rel => exact ⟨k + 1, by omega, by go_num, hB2, Lib.hid (by have := HD.out; simpa using this)⟩
        case measure => simp [intOf]; omega
    · have hk' : l.length ≤ k := by have := HN.out; omega
      have hD := HK.out
      rw [List.drop_eq_nil_of_le hk', List.all_nil] at hD
      have HD := Lib.hid hD
      clear hD hk'
      go_wp2
      go_ret
      exact ⟨ret_bl4 HD.out, hB⟩
theorem all_InsV {g : Nat} {lb : Array Value} {q : InsV → Bool} {w0 : World} (h : Says g lb InsV.val InsAt q w0) (eg : ∀ args w, (callFunc g args).run Tryz.prog w = .ok (.enter g args) w) (p : Option Addr) (n cap : Nat) (l : List InsV) (hn : l.length = n) (hm : n ≤ 281474976710656) (w : World) (hB0 : Below w0.heap.size w0 w) (hr : RowsAt w p 4 InsV.row l) (hst : ∀ w1, Below w.heap.size w w1 → ∀ x ∈ l, InsAt w1 x) :
    Calls Tryz.prog 50 #[.slice p n cap, .func (.func g) #[] lb] w fun e w' => e = .returned (.bool (l.all q)) ∧ Below w.heap.size w w' := by
  obtain ⟨R, hR⟩ : ∃ R, R = l.all q := ⟨_, rfl⟩
  rw [← hR]
  have HR : Hid (R = (l.drop 0).all q) := Lib.hid hR
  have HN := Lib.hid hn
  clear hR hn
  go_enter Tryz.func50, Tryz.ntmps50
  go_wp2
  go_loopw [9] (fun i wr => ∃ k : Nat, k ≤ n ∧ i = .int .i64 k ∧ Below w.heap.size w wr ∧ Hid (R = (l.drop k).all q)) (fun i _ => n - (intOf i).toNat)
  case atStart => exact ⟨0, by omega, rfl, Below.refl _ _, HR⟩
  case round =>
    clear HR
    obtain ⟨k, hk, rfl, hB, HK⟩ := hrel
    by_cases hlt : k < n
    · have hlt' : k < l.length := by have := HN.out; omega
      have hrows := hr.below hB (Nat.le_refl _)
      obtain ⟨b, o, hp, hb, e0⟩ := hrows k hlt' 0 _ rfl
      subst hp
      have e1 := hrows.cell hlt' 1 rfl
      have e2 := hrows.cell hlt' 2 rfl
      have e3 := hrows.cell hlt' 3 rfl
      have hx : InsAt wr l[k] := hst wr hB _ (List.getElem_mem hlt')
      have hD := HK.out
      rw [List.drop_eq_getElem_cons hlt', List.all_cons] at hD
      generalize l[k] = x at *
      have cq := fun (W : World) (hW : Below wr.heap.size wr W) (hx' : InsAt W x) => h x W ((hB0.trans (hB.mono hB0.size)).trans (hW.mono (Nat.le_trans hB0.size hB.size))) hx'
      generalize q x = Y at cq hD
      have HD := Lib.hid hD
      have HX := Lib.hid hx
      clear hD hrows hx h hr hst
      obtain ⟨xo, xa, xb, xp, xc, xl⟩ := x
      simp only [Nat.add_zero, InsV.val] at e0 e1 e2 e3 cq
      generalize xl.length = nl at e3 cq
      cases Y with
      | false =>
        go_wp2_with (go_at_fn g; refine (cq _ ?_ ?_).mono ?_; (exact (Below.refl _ wr).alloc (Nat.le_refl _) _); (exact HX.out.below ((Below.refl _ wr).alloc (Nat.le_refl _) _) (Nat.le_refl _)); rintro e w1 ⟨rfl, hb1⟩)
        go_ret
        exact ⟨ret_bl4 (by have := HD.out; simpa using this), bnext (hB.alloc hB.size _) (by have := hB.size; simp; omega) hb1⟩
      | true =>
        go_wp2_with (go_at_fn g; refine (cq _ ?_ ?_).mono ?_; (exact (Below.refl _ wr).alloc (Nat.le_refl _) _); (exact HX.out.below ((Below.refl _ wr).alloc (Nat.le_refl _) _) (Nat.le_refl _)); rintro e w1 ⟨rfl, hb1⟩)
        have hB2 := bnext (hB.alloc hB.size _) (by have := hB.size; simp; omega) hb1
        go_roundw
        case rel => exact ⟨k + 1, by omega, by go_num, hB2, Lib.hid (by have := HD.out; simpa using this)⟩
        case measure => simp [intOf]; omega
    · have hk' : l.length ≤ k := by have := HN.out; omega
      have hD := HK.out
      rw [List.drop_eq_nil_of_le hk', List.all_nil] at hD
      have HD := Lib.hid hD
      clear hD hk'
      go_wp2
      go_ret
      exact ⟨ret_bl4 HD.out, hB⟩
end Go.Proofs.YtomffpibdinkaaaGreatDoor
namespace Go.Proofs.YtomffpibdinkaaaGreatDoor
set_option maxRecDepth 100000
set_option maxHeartbeats 16000000
open Go.RowKit
theorem short_TyV {g : Nat} {lb : Array Value} {q : TyV → Bool} {w0 : World} (h : Says g lb TyV.val anyTy q w0) (eg : ∀ args w, (callFunc g args).run Tryz.prog w = .ok (.enter g args) w) (p : Option Addr) (n cap : Nat) (l : List TyV) (hn : l.length = n) (hm : n ≤ 281474976710656) (w : World) (hB0 : Below w0.heap.size w0 w) (hr : RowsAt w p 2 TyV.row l) (hok : ∀ x ∈ l, anyTy w x) :
    Calls Tryz.prog 35 #[.slice p n cap, .func (.func g) #[] lb] w fun e w' => e = .returned (.bool (decide (n ≤ 4096) && l.all q)) ∧ Below w.heap.size w w' := by
  have c := all_TyV h eg p n cap l hn hm w hB0 hr hok
  generalize l.all q = Y at c
  clear h hr hn hok
  by_cases h4 : n ≤ 4096
  · rw [decide_eq_true h4, Bool.true_and]
    have h5 : (n : Int) ≤ 4096 := by omega
    go_enter Tryz.func35, Tryz.ntmps35
    go_wp2_with (go_at_call 61; refine c.mono ?_; rintro e w1 ⟨rfl, hb1⟩)
    go_ret
    exact ⟨rfl, hb1⟩
  · rw [decide_eq_false h4, Bool.false_and]
    have h5 : ¬ (n : Int) ≤ 4096 := by omega
    clear c
    go_enter Tryz.func35, Tryz.ntmps35
    go_wp2
    go_ret
    exact ⟨rfl, Below.refl _ _⟩
theorem short_MemV {g : Nat} {lb : Array Value} {q : MemV → Bool} {w0 : World} (h : Says g lb MemV.val anyMem q w0) (eg : ∀ args w, (callFunc g args).run Tryz.prog w = .ok (.enter g args) w) (p : Option Addr) (n cap : Nat) (l : List MemV) (hn : l.length = n) (hm : n ≤ 281474976710656) (w : World) (hB0 : Below w0.heap.size w0 w) (hr : RowsAt w p 2 MemV.row l) (hok : ∀ x ∈ l, anyMem w x) :
    Calls Tryz.prog 37 #[.slice p n cap, .func (.func g) #[] lb] w fun e w' => e = .returned (.bool (decide (n ≤ 4096) && l.all q)) ∧ Below w.heap.size w w' := by
  have c := all_MemV h eg p n cap l hn hm w hB0 hr hok
  generalize l.all q = Y at c
  clear h hr hn hok
  by_cases h4 : n ≤ 4096
  · rw [decide_eq_true h4, Bool.true_and]
    have h5 : (n : Int) ≤ 4096 := by omega
    go_enter Tryz.func37, Tryz.ntmps37
    go_wp2_with (go_at_call 62; refine c.mono ?_; rintro e w1 ⟨rfl, hb1⟩)
    go_ret
    exact ⟨rfl, hb1⟩
  · rw [decide_eq_false h4, Bool.false_and]
    have h5 : ¬ (n : Int) ≤ 4096 := by omega
    clear c
    go_enter Tryz.func37, Tryz.ntmps37
    go_wp2
    go_ret
    exact ⟨rfl, Below.refl _ _⟩
theorem short_GlobV {g : Nat} {lb : Array Value} {q : GlobV → Bool} {w0 : World} (h : Says g lb GlobV.val anyGlob q w0) (eg : ∀ args w, (callFunc g args).run Tryz.prog w = .ok (.enter g args) w) (p : Option Addr) (n cap : Nat) (l : List GlobV) (hn : l.length = n) (hm : n ≤ 281474976710656) (w : World) (hB0 : Below w0.heap.size w0 w) (hr : RowsAt w p 3 GlobV.row l) (hok : ∀ x ∈ l, anyGlob w x) :
    Calls Tryz.prog 39 #[.slice p n cap, .func (.func g) #[] lb] w fun e w' => e = .returned (.bool (decide (n ≤ 4096) && l.all q)) ∧ Below w.heap.size w w' := by
  have c := all_GlobV h eg p n cap l hn hm w hB0 hr hok
  generalize l.all q = Y at c
  clear h hr hn hok
  by_cases h4 : n ≤ 4096
  · rw [decide_eq_true h4, Bool.true_and]
    have h5 : (n : Int) ≤ 4096 := by omega
    go_enter Tryz.func39, Tryz.ntmps39
    go_wp2_with (go_at_call 63; refine c.mono ?_; rintro e w1 ⟨rfl, hb1⟩)
    go_ret
    exact ⟨rfl, hb1⟩
  · rw [decide_eq_false h4, Bool.false_and]
    have h5 : ¬ (n : Int) ≤ 4096 := by omega
    clear c
    go_enter Tryz.func39, Tryz.ntmps39
    go_wp2
    go_ret
    exact ⟨rfl, Below.refl _ _⟩
theorem short_ExpV {g : Nat} {lb : Array Value} {q : ExpV → Bool} {w0 : World} (h : Says g lb ExpV.val anyExp q w0) (eg : ∀ args w, (callFunc g args).run Tryz.prog w = .ok (.enter g args) w) (p : Option Addr) (n cap : Nat) (l : List ExpV) (hn : l.length = n) (hm : n ≤ 281474976710656) (w : World) (hB0 : Below w0.heap.size w0 w) (hr : RowsAt w p 3 ExpV.row l) (hok : ∀ x ∈ l, anyExp w x) :
    Calls Tryz.prog 41 #[.slice p n cap, .func (.func g) #[] lb] w fun e w' => e = .returned (.bool (decide (n ≤ 4096) && l.all q)) ∧ Below w.heap.size w w' := by
  have c := all_ExpV h eg p n cap l hn hm w hB0 hr hok
  generalize l.all q = Y at c
  clear h hr hn hok
  by_cases h4 : n ≤ 4096
  · rw [decide_eq_true h4, Bool.true_and]
    have h5 : (n : Int) ≤ 4096 := by omega
    go_enter Tryz.func41, Tryz.ntmps41
    go_wp2_with (go_at_call 64; refine c.mono ?_; rintro e w1 ⟨rfl, hb1⟩)
    go_ret
    exact ⟨rfl, hb1⟩
  · rw [decide_eq_false h4, Bool.false_and]
    have h5 : ¬ (n : Int) ≤ 4096 := by omega
    clear c
    go_enter Tryz.func41, Tryz.ntmps41
    go_wp2
    go_ret
    exact ⟨rfl, Below.refl _ _⟩
theorem short_DatV {g : Nat} {lb : Array Value} {q : DatV → Bool} {w0 : World} (h : Says g lb DatV.val anyDat q w0) (eg : ∀ args w, (callFunc g args).run Tryz.prog w = .ok (.enter g args) w) (p : Option Addr) (n cap : Nat) (l : List DatV) (hn : l.length = n) (hm : n ≤ 281474976710656) (w : World) (hB0 : Below w0.heap.size w0 w) (hr : RowsAt w p 2 DatV.row l) (hok : ∀ x ∈ l, anyDat w x) :
    Calls Tryz.prog 45 #[.slice p n cap, .func (.func g) #[] lb] w fun e w' => e = .returned (.bool (decide (n ≤ 4096) && l.all q)) ∧ Below w.heap.size w w' := by
  have c := all_DatV h eg p n cap l hn hm w hB0 hr hok
  generalize l.all q = Y at c
  clear h hr hn hok
  by_cases h4 : n ≤ 4096
  · rw [decide_eq_true h4, Bool.true_and]
    have h5 : (n : Int) ≤ 4096 := by omega
    go_enter Tryz.func45, Tryz.ntmps45
    go_wp2_with (go_at_call 66; refine c.mono ?_; rintro e w1 ⟨rfl, hb1⟩)
    go_ret
    exact ⟨rfl, hb1⟩
  · rw [decide_eq_false h4, Bool.false_and]
    have h5 : ¬ (n : Int) ≤ 4096 := by omega
    clear c
    go_enter Tryz.func45, Tryz.ntmps45
    go_wp2
    go_ret
    exact ⟨rfl, Below.refl _ _⟩
theorem short_FnV {g : Nat} {lb : Array Value} {q : FnV → Bool} {w0 : World} (h : Says g lb FnV.val FnAt q w0) (eg : ∀ args w, (callFunc g args).run Tryz.prog w = .ok (.enter g args) w) (p : Option Addr) (n cap : Nat) (l : List FnV) (hn : l.length = n) (hm : n ≤ 281474976710656) (w : World) (hB0 : Below w0.heap.size w0 w) (hr : RowsAt w p 3 FnV.row l) (hst : ∀ w1, Below w.heap.size w w1 → ∀ x ∈ l, FnAt w1 x) :
    Calls Tryz.prog 47 #[.slice p n cap, .func (.func g) #[] lb] w fun e w' => e = .returned (.bool (decide (n ≤ 4096) && l.all q)) ∧ Below w.heap.size w w' := by
  have c := all_FnV h eg p n cap l hn hm w hB0 hr hst
  generalize l.all q = Y at c
  clear h hr hn hst
  by_cases h4 : n ≤ 4096
  · rw [decide_eq_true h4, Bool.true_and]
    have h5 : (n : Int) ≤ 4096 := by omega
    go_enter Tryz.func47, Tryz.ntmps47
    go_wp2_with (go_at_call 67; refine c.mono ?_; rintro e w1 ⟨rfl, hb1⟩)
    go_ret
    exact ⟨rfl, hb1⟩
  · rw [decide_eq_false h4, Bool.false_and]
    have h5 : ¬ (n : Int) ≤ 4096 := by omega
    clear c
    go_enter Tryz.func47, Tryz.ntmps47
    go_wp2
    go_ret
    exact ⟨rfl, Below.refl _ _⟩
end Go.Proofs.YtomffpibdinkaaaGreatDoor
namespace Go.Proofs.YtomffpibdinkaaaGreatDoor
set_option maxRecDepth 100000
set_option maxHeartbeats 16000000
open Go.RowKit
theorem mod_name (s : ByteArray) (hs : s.size ≤ maxLen) (w : World) (hL : Laid w) :
    Calls Tryz.prog 43 #[.string s] w fun e w' => e = .returned (.bool (isName s.data.toList)) ∧ Below w.heap.size w w' := by
  have c := lib_valid s w hL hs
  generalize isName s.data.toList = V at c ⊢
  go_enter Tryz.func43, Tryz.ntmps43
  go_wp2_with (go_at_call 65; refine c.mono ?_; rintro e w' ⟨rfl, hb⟩)
  go_ret
  exact ⟨rfl, hb⟩
def openRow (st : List Int) : List Value := (2 :: st.reverse).map (Value.int .u8)
theorem openRow_cons (t : Int) (st : List Int) : openRow (t :: st) = openRow st ++ [.int .u8 t] := by simp [openRow]
theorem openRow_len (st : List Int) : (openRow st).length = st.length + 1 := by simp [openRow]
theorem openRow_set (t x : Int) (st : List Int) : (openRow (t :: st)).set (st.length + 1) (.int .u8 x) = openRow (x :: st) := by
  rw [openRow_cons, openRow_cons, List.set_append_right _ _ (by rw [openRow_len]; exact Nat.le_refl _), openRow_len, Nat.sub_self]; rfl
theorem infoU8 : (Tryz.prog.info? 5).map (fun i => (i.zero, i.size, i.bytes)) = some (some (.int .u8 0), 1, 1) := by kernel_rfl
theorem st_top (st : List Int) : (openRow st)[st.length]? = some (.int .u8 (st.headD 2)) := by
  cases st with
  | nil => rfl
  | cons t st => rw [openRow_cons, List.getElem?_append_right (by rw [openRow_len]; simp), openRow_len]; simp
theorem own_slice4 {w : World} {base : Nat} {e : TypeId} {size : Nat} {v : Value} {n : Nat} {xs : List Value} (h : w.ownsRow base e size v n xs) (hn : 0 < n) : ∃ g cap, v = .slice (some ⟨g, 0, none⟩) n cap ∧ base ≤ g ∧ g < w.heap.size ∧ n ≤ cap := by
  have hl := h.lt
  rcases h.2 with ⟨_, h0⟩ | ⟨g, cap, cur, rfl, hb, hg, hnc, _⟩
  · omega
  · exact ⟨g, cap, rfl, (hl g rfl).1, (hl g rfl).2, hnc⟩
theorem own_cut1 {w : World} {base g cap n : Nat} {e : TypeId} {xs : List Value} {x : Value} (h : w.ownsRow base e 1 (.slice (some ⟨g, 0, none⟩) (n + 1) cap) (n + 1) (xs ++ [x])) : w.ownsRow base e 1 (.slice (some ⟨g, 0, none⟩) n cap) n xs := own_cut h
theorem mod_structured (p : Option Addr) (n cap : Nat) (l : List InsV) (hn : l.length = n) (w : World) (hC : CodeAt w p l) :
    Calls Tryz.prog 49 #[.slice p n cap] w fun e w' => e = .returned (.bool (runs (opsOf l) [])) ∧ Below w.heap.size w w' := by
  obtain ⟨i0, hi, hz0, hz1, hz2⟩ := info_parts infoU8
  have hmx : n ≤ 4398046511104 := by have := hC.2.2; omega
  obtain ⟨R, hR⟩ : ∃ R, R = runs (opsOf l) [] := ⟨_, rfl⟩
  rw [← hR]
  have HR : Hid (R = runs ((opsOf l).drop 0) []) := Lib.hid hR
  have HN := Lib.hid hn
  have hrow := hC.1
  clear hR hn hC
  have hown0 : (w.alloc (.cells #[.int .u8 2] 5)).ownsRow w.heap.size 5 1 (.slice (some ⟨w.heap.size, 0, none⟩) 1 1) (([] : List Int).length + 1) (openRow []) := World.ownsRow_lit w #[.int .u8 2] 1 (Nat.le_refl _) (by unfold maxLen; omega) rfl
  have hB0 := (Below.refl w.heap.size w).alloc (Nat.le_refl _) (.cells #[.int .u8 2] 5)
  go_enter Tryz.func49, Tryz.ntmps49
  go_wp2
  go_loopw [3, 10] (fun v i wr => ∃ (k : Nat) (st : List Int), k ≤ n ∧ st.length ≤ k ∧ i = .int .i64 k ∧ wr.ownsRow w.heap.size 5 1 v (st.length + 1) (openRow st) ∧ Below w.heap.size w wr ∧ Hid (R = runs ((opsOf l).drop k) st))
    (fun _ i _ => n - (intOf i).toNat)
  case atStart => exact ⟨0, [], by omega, by simp, rfl, hown0, hB0, HR⟩
  case round =>
    clear HR hown0 hB0
    obtain ⟨k, st, hk, hst, rfl, hown, hB, HK⟩ := hrel
    obtain ⟨g, cp, rfl, hgb, hgl, hcp⟩ := own_slice4 hown (by omega)
    by_cases hlt : k < n
    · have hlt' : k < l.length := by have := HN.out; omega
      have hrows := hrow.below hB (Nat.le_refl _)
      obtain ⟨b, o, hp, hb, e0⟩ := hrows k hlt' 0 _ rfl
      subst hp
      have e1 := hrows.cell hlt' 1 rfl
      have e2 := hrows.cell hlt' 2 rfl
      have e3 := hrows.cell hlt' 3 rfl
      have hD : (opsOf l).drop k = l[k].op :: (opsOf l).drop (k + 1) := by
        rw [List.drop_eq_getElem_cons (by simpa [opsOf] using hlt')]; simp [opsOf]
      generalize l[k] = x at *
      have HD := Lib.hid hD
      clear hD hrows hrow
      obtain ⟨x, xa, xb, xp, xc, xl⟩ := x
      simp only [Nat.add_zero] at e0 e1 e2 e3 HD
      generalize xl.length = nl at e3
      have hs := hB.size
      have hTop : wr.cell? ⟨g, st.length, none⟩ = some (.int .u8 (st.headD 2)) := by rw [hown.cellAt st.length (by omega)]; exact st_top st
      have kT := fun o => (World.cell?_alloc_lt wr o (⟨g, st.length, none⟩ : Addr) hgl).trans hTop
      by_cases hx1 : x = 2 ∨ x = 3 ∨ x = 4
      · have HE := Lib.hid ((HK.out.trans (congrArg (runs · st) HD.out)).trans (runs_open hx1))
        clear hTop kT
        have hone : ∀ (o : Obj) (v : Value) (t : TypeId), ∀ j u, [v][j]? = some u → ((wr.alloc o).alloc (.cells #[v] t)).cell? ((⟨wr.heap.size + 1, 0, none⟩ : Addr).add j) = some u := fun o v t => by
          have := cell_one_new (wr.alloc o) v t
          rwa [show (wr.alloc o).heap.size = wr.heap.size + 1 by simp] at this
        rcases hx1 with rfl | rfl | rfl
        all_goals
          go_wp2_with (at_builtin; refine wpList_append_own_at _ rfl (.tmp 24) (.tmp 28) 61 rfl w.heap.size 5 i0 (.int .u8 0) 1 1 Tryz.underlying61 hi hz0 hz1 hz2 rfl (by decide) _ (st.length + 1) _ rfl ((hown.alloc _).alloc _) ⟨wr.heap.size + 1, 0, none⟩ 1 1 [_] rfl rfl (hone _ _ _) (fun u hu => by cases hu with | head => rfl | tail _ h => cases h) (by unfold maxLen; omega) (by omega) (by simp; omega) ?_)
          intro v' w1 hown' hgrow _ _
          have hB2 := ((hB.alloc hs _).alloc (by simp; omega) _).grown hgrow (by simp; omega) (own_base2 hown)
          clear hgrow hown hB e0 e1 e2 e3
          go_wp2
          go_roundw
          case rel => exact ⟨k + 1, _ :: st, by omega, by simp; omega, by go_num, by rw [openRow_cons]; simpa using hown', hB2, HE⟩
          case measure => simp [intOf]; omega
      · have hxn : ¬ (x = 2) ∧ ¬ (x = 3) ∧ ¬ (x = 4) := by omega
        obtain ⟨x2, x3, x4⟩ := hxn
        have y2 : (x == 2) = false := beq_eq_false_iff_ne.2 x2
        have y3 : (x == 3) = false := beq_eq_false_iff_ne.2 x3
        have y4 : (x == 4) = false := beq_eq_false_iff_ne.2 x4
        have ha : ∀ o, Below w.heap.size w (wr.alloc o) := fun o => hB.alloc hs o
        by_cases hx5 : x = 5
        · subst hx5
          cases st with
          | nil =>
            have HE := Lib.hid ((HK.out.trans (congrArg (runs · []) HD.out)).trans runs_else_none)
            simp only [List.length_nil, List.headD_nil] at kT hTop hown
            go_wp2
            go_ret
            exact ⟨ret_bl4 HE.out, ha _⟩
          | cons t st =>
            have HE := Lib.hid ((HK.out.trans (congrArg (runs · (t :: st)) HD.out)).trans runs_else)
            simp only [List.length_cons, List.headD_cons] at kT hTop hown hcp hst
            have hf := fun o => (hown.alloc o).frozenAt (st.length + 1)
            by_cases ht : t = 4
            · subst ht
              have hset := (World.ownsRow.stored hown (st.length + 1) (.int .u8 5)).1
              have hB2 : ∀ o, Below w.heap.size w ((wr.setCell ⟨g, st.length + 1, none⟩ (.int .u8 5)).alloc o) := fun o => (hB.setCell hgb _).alloc (by simp [World.setCell]; omega) o
              rw [openRow_set] at hset
              go_wp2
              go_roundw
              case rel => exact ⟨k + 1, 5 :: st, by omega, by simp; omega, by go_num, by simpa using hset.alloc _, hB2 _, Lib.hid (by rw [HE.out, if_pos rfl])⟩
              case measure => simp [intOf]; omega
            · have ht2 : (t != 4) = true := by simp [ht]
              have HT := Lib.hid ht
              go_wp2
              go_ret
              exact ⟨ret_bl4 (by rw [HE.out, if_neg HT.out]), ha _⟩
        · have y5 : (x == 5) = false := beq_eq_false_iff_ne.2 hx5
          by_cases hx11 : x = 11
          · subst hx11
            cases st with
            | nil =>
              have HE := Lib.hid ((HK.out.trans (congrArg (runs · []) HD.out)).trans runs_end_none)
              have HL := Lib.hid (isEmpty_drop (opsOf l) (k + 1))
              simp only [List.length_nil, List.headD_nil] at kT hTop hown
              go_wp2
              go_ret
              exact ⟨ret_bl4 (by rw [HE.out, HL.out, show (opsOf l).length = n by simp [opsOf, HN.out], Bool.eq_iff_iff]; simp only [decide_eq_true_eq, beq_iff_eq]; omega), ha _⟩
            | cons t st =>
              have HE := Lib.hid ((HK.out.trans (congrArg (runs · (t :: st)) HD.out)).trans runs_end)
              simp only [List.length_cons, List.headD_cons] at kT hTop hown hcp hst
              have hcut := fun o => own_cut1 (by have := hown.alloc o; rw [openRow_cons] at this; exact this)
              have hcl : st.length + 1 ≤ cp := by omega
              go_wp2
              go_roundw
              case rel => exact ⟨k + 1, st, by omega, by omega, by go_num, by simpa using hcut _, ha _, HE⟩
              case measure => simp [intOf]; omega
          · have y11 : (x == 11) = false := beq_eq_false_iff_ne.2 hx11
            have HE := Lib.hid ((HK.out.trans (congrArg (runs · st) HD.out)).trans (runs_other (by omega)))
            have hown2 := fun o => hown.alloc o
            go_wp2
            go_roundw
            case rel => exact ⟨k + 1, st, by omega, by omega, by go_num, hown2 _, ha _, HE⟩
            case measure => simp [intOf]; omega
    · have hv : R = false := by rw [HK.out, List.drop_eq_nil_of_le (by have := HN.out; simp [opsOf]; omega)]; rfl
      have HV := Lib.hid hv
      clear hv
      go_wp2
      go_ret
      exact ⟨ret_bl4 HV.out, hB⟩
end Go.Proofs.YtomffpibdinkaaaGreatDoor
