/-
  The library's function that package op calls on its lists of names, by its contract off the shelf: fields of a text. No statement is proved here.
-/
import Derived.Shelf.Strings.Fields
import Derived.Test.YtpamchagidnijaaGreatDoorOpLists
import Derived.WalkKit
import Derived.Below
namespace Go.Proofs.YtpamchagidnijaaGreatDoor
open Go.Shelf Go.RowKit Go.Lib

def lays157_ren : Go.Shelf.Ren := ⟨fun | 157 => 234 | 229 => 265 | 199 => 266 | 261 => 284 | 311 => 294 | 312 => 295 | n => n, fun | 9 => 9 | 31 => 280 | 3 => 3 | 5 => 5 | 4 => 4 | 119 => 214 | 0 => 0 | 40 => 301 | 152 => 314 | 21 => 21 | 154 => 316 | 51 => 196 | 141 => 318 | 196 => 335 | 193 => 332 | 198 => 337 | 49 => 63 | 194 => 333 | 201 => 340 | 226 => 346 | 46 => 167 | 227 => 347 | n => n, fun | 0 => 2 | 6 => 3 | n => n⟩
theorem lays157 : Go.Proofs.Lays.n157 Tryz.prog lays157_ren := {
  mixed := by kernel_rfl,
  f157 := Tryz.func234.trans (congrArg some (by kernel_rfl)),
  f199 := Tryz.func266.trans (congrArg some (by kernel_rfl)),
  f229 := Tryz.func265.trans (congrArg some (by kernel_rfl)),
  f261 := Tryz.func284.trans (congrArg some (by kernel_rfl)),
  f311 := Tryz.func294.trans (congrArg some (by kernel_rfl)),
  f312 := Tryz.func295.trans (congrArg some (by kernel_rfl)),
  t0 := Tryz.underlying0,
  a0 := Tryz.isAgg0,
  z0 := Tryz.sizeOf0,
  v0 := Tryz.zeroValue0,
  t3 := Tryz.underlying3,
  a3 := Tryz.isAgg3,
  z3 := Tryz.sizeOf3,
  v3 := Tryz.zeroValue3,
  t4 := Tryz.underlying4,
  a4 := Tryz.isAgg4,
  z4 := Tryz.sizeOf4,
  v4 := Tryz.zeroValue4,
  t5 := Tryz.underlying5,
  a5 := Tryz.isAgg5,
  z5 := Tryz.sizeOf5,
  v5 := Tryz.zeroValue5,
  t9 := Tryz.underlying9,
  a9 := Tryz.isAgg9,
  z9 := Tryz.sizeOf9,
  v9 := Tryz.zeroValue9,
  t21 := Tryz.underlying21,
  a21 := Tryz.isAgg21,
  z21 := Tryz.sizeOf21,
  v21 := Tryz.zeroValue21,
  t31 := Tryz.underlying280,
  a31 := Tryz.isAgg280,
  z31 := Tryz.sizeOf280,
  v31 := Tryz.zeroValue280,
  t40 := Tryz.underlying301,
  a40 := Tryz.isAgg301,
  z40 := Tryz.sizeOf301,
  v40 := Tryz.zeroValue301,
  t46 := Tryz.underlying167,
  a46 := Tryz.isAgg167,
  z46 := Tryz.sizeOf167,
  v46 := Tryz.zeroValue167,
  t49 := Tryz.underlying63,
  a49 := Tryz.isAgg63,
  z49 := Tryz.sizeOf63,
  v49 := Tryz.zeroValue63,
  t51 := Tryz.underlying196,
  a51 := Tryz.isAgg196,
  z51 := Tryz.sizeOf196,
  v51 := Tryz.zeroValue196,
  t119 := Tryz.underlying214,
  a119 := Tryz.isAgg214,
  z119 := Tryz.sizeOf214,
  t141 := Tryz.underlying318,
  a141 := Tryz.isAgg318,
  z141 := Tryz.sizeOf318,
  v141 := Tryz.zeroValue318,
  t152 := Tryz.underlying314,
  a152 := Tryz.isAgg314,
  z152 := Tryz.sizeOf314,
  v152 := Tryz.zeroValue314,
  t154 := Tryz.underlying316,
  a154 := Tryz.isAgg316,
  z154 := Tryz.sizeOf316,
  v154 := Tryz.zeroValue316,
  t193 := Tryz.underlying332,
  a193 := Tryz.isAgg332,
  z193 := Tryz.sizeOf332,
  v193 := Tryz.zeroValue332,
  t194 := Tryz.underlying333,
  a194 := Tryz.isAgg333,
  z194 := Tryz.sizeOf333,
  v194 := Tryz.zeroValue333,
  t196 := Tryz.underlying335,
  a196 := Tryz.isAgg335,
  z196 := Tryz.sizeOf335,
  v196 := Tryz.zeroValue335,
  t198 := Tryz.underlying337,
  a198 := Tryz.isAgg337,
  z198 := Tryz.sizeOf337,
  v198 := Tryz.zeroValue337,
  t201 := Tryz.underlying340,
  a201 := Tryz.isAgg340,
  z201 := Tryz.sizeOf340,
  v201 := Tryz.zeroValue340,
  t226 := Tryz.underlying346,
  a226 := Tryz.isAgg346,
  z226 := Tryz.sizeOf346,
  v226 := Tryz.zeroValue346,
  t227 := Tryz.underlying347,
  a227 := Tryz.isAgg347,
  z227 := Tryz.sizeOf347,
  v227 := Tryz.zeroValue347,
  g0 := by kernel_rfl,
  g6 := by kernel_rfl }

theorem in_heap {w : World} {b o : Nat} {v : Value} (h : w.cell? ⟨b, o, none⟩ = some v) : b < w.heap.size := by
  refine Nat.lt_of_not_le fun hge => ?_
  have : w.heap[b]? = none := by simp; omega
  simp [World.cell?, this] at h


/-- The library's table of spaces lies. -/
def Spaces (w : World) : Prop := ∀ c : Nat, c < 256 → w.cell? ⟨2, c, none⟩ = some (.int .u8 (if Lib.isSp (UInt8.ofNat c) then 1 else 0))
theorem Spaces.below {w w' : World} (h : Spaces w) (hb : Below w.heap.size w w') : Spaces w' := fun c hc => (hb.cell (p := ⟨2, c, none⟩) (in_heap (h c hc))).trans (h c hc)
theorem Spaces.alloc {w : World} (h : Spaces w) (o : Obj) : Spaces (w.alloc o) := h.below ((Below.refl _ w).alloc (Nat.le_refl _) o)
theorem Spaces.drew {w : World} (h : Spaces w) : Spaces w.drew := h

theorem lib_fields (s : ByteArray) (w : World) (hL : Spaces w) (hs : s.size < 4294967281) (ha : s.data.toList.all (fun b => decide (b.toNat < 128)) = true) :
    Calls Tryz.prog 234 #[.string s] w fun e w' => e = .returned (.slice (some ⟨w.heap.size, 0, none⟩) (Lib.fields s.data.toList).length (Lib.fields s.data.toList).length) ∧ w' = w.alloc (.cells ((Lib.fields s.data.toList).map fun l => Value.string ⟨l.toArray⟩).toArray 9) :=
  Any.strings_Fields_core lays157 (by kernel_rfl) s w hs (fun j b hb => by
    have := List.all_eq_true.1 ha b (List.mem_of_getElem? hb)
    simpa using this) hL
end Go.Proofs.YtpamchagidnijaaGreatDoor

namespace Go.Proofs.YtpamchagidnijaaGreatDoor
open Go.Shelf Go.RowKit Go.Lib

/-- A function that takes a list: what it keeps of the world is 'Inv'; 'step' is what it makes of a list. -/
def Takes {σ : Type} (g : Nat) (lb : Array Value) (Inv : σ → World → Prop) (step : σ → Ls → σ) : Prop :=
  ∀ (t : Ls) (s : σ) (w : World), t.ends.size ≤ 60 → t.name.size ≤ 10 → 0 ≤ t.first → t.first ≤ 172 → t.parts.length ≤ 8 → t.ends.data.toList.all (fun b => decide (b.toNat < 128)) = true → Inv s w →
    Calls Tryz.prog g (#[.int .i64 t.first, .agg #[.string t.name, .int .i64 t.shape, .string t.params, .string t.results], .string t.ends] ++ lb) w fun e w' => e = .returned (.tuple #[]) ∧ Inv (step s t) w'

theorem Takes.at {σ : Type} {g : Nat} {lb : Array Value} {Inv : σ → World → Prop} {step : σ → Ls → σ} (h : Takes g lb Inv step) (first : Int) (name : ByteArray) (shape : Int) (params results ends : ByteArray)
    (hc : ends.size ≤ 60 ∧ name.size ≤ 10 ∧ 0 ≤ first ∧ first ≤ 172 ∧ (Ls.mk first name shape params results ends).parts.length ≤ 8 ∧ ends.data.toList.all (fun b => decide (b.toNat < 128)) = true) (s : σ) (w : World) (hI : Inv s w) :
    Calls Tryz.prog g (#[.int .i64 first, .agg #[.string name, .int .i64 shape, .string params, .string results], .string ends] ++ lb) w fun e w' => e = .returned (.tuple #[]) ∧ Inv (step s ⟨first, name, shape, params, results, ends⟩) w' :=
  h ⟨first, name, shape, params, results, ends⟩ s w hc.1 hc.2.1 hc.2.2.1 hc.2.2.2.1 hc.2.2.2.2.1 hc.2.2.2.2.2 hI

set_option maxRecDepth 100000 in
set_option maxHeartbeats 4000000 in
theorem flow_takes {σ : Type} {g : Nat} {lb : Array Value} {Inv : σ → World → Prop} {step : σ → Ls → σ} (h : Takes g lb Inv step) (eg : ∀ args w, (callFunc g args).run Tryz.prog w = .ok (.enter g args) w) (s : σ) (w : World) (hI : Inv s w) :
    Calls Tryz.prog 281 #[.func (.func g) #[] lb] w fun e w' => e = .returned (.tuple #[]) ∧ Inv (flowL.foldl step s) w' := by
  have hc := fun first name shape params results ends hx s w hI => h.at first name shape params results ends hx s w hI
  clear h
  simp only [flowL, List.foldl_cons, List.foldl_nil]
  go_enter Tryz.func281, Tryz.ntmps281
  go_wp2_with (go_at_fn g; refine (hc _ _ _ _ _ _ (by decide +kernel) _ _ hI).mono ?_; clear hI; rintro e w1 ⟨rfl, hI⟩)
  go_end0
  exact ⟨rfl, hI⟩

set_option maxRecDepth 100000 in
set_option maxHeartbeats 4000000 in
theorem memory_takes {σ : Type} {g : Nat} {lb : Array Value} {Inv : σ → World → Prop} {step : σ → Ls → σ} (h : Takes g lb Inv step) (eg : ∀ args w, (callFunc g args).run Tryz.prog w = .ok (.enter g args) w) (s : σ) (w : World) (hI : Inv s w) :
    Calls Tryz.prog 282 #[.func (.func g) #[] lb] w fun e w' => e = .returned (.tuple #[]) ∧ Inv (memL.foldl step s) w' := by
  have hc := fun first name shape params results ends hx s w hI => h.at first name shape params results ends hx s w hI
  clear h
  simp only [memL, List.foldl_cons, List.foldl_nil]
  go_enter Tryz.func282, Tryz.ntmps282
  go_wp2_with (go_at_fn g; refine (hc _ _ _ _ _ _ (by decide +kernel) _ _ hI).mono ?_; clear hI; rintro e w1 ⟨rfl, hI⟩)
  go_end0
  exact ⟨rfl, hI⟩

set_option maxRecDepth 100000 in
set_option maxHeartbeats 4000000 in
theorem numbers32_takes {σ : Type} {g : Nat} {lb : Array Value} {Inv : σ → World → Prop} {step : σ → Ls → σ} (h : Takes g lb Inv step) (eg : ∀ args w, (callFunc g args).run Tryz.prog w = .ok (.enter g args) w) (s : σ) (w : World) (hI : Inv s w) :
    Calls Tryz.prog 283 #[.func (.func g) #[] lb, .string ⟨#[105, 51, 50, 46]⟩, .string ⟨#[127, 127]⟩, .int .i64 69, .int .i64 103] w fun e w' => e = .returned (.tuple #[]) ∧ Inv ((numL ⟨#[105, 51, 50, 46]⟩ ⟨#[127]⟩ ⟨#[127, 127]⟩ 69 103).foldl step s) w' := by
  have hc := fun first name shape params results ends hx s w hI => h.at first name shape params results ends hx s w hI
  clear h
  simp only [numL, List.foldl_cons, List.foldl_nil, Int.reduceAdd]
  go_enter Tryz.func283, Tryz.ntmps283
  go_wp2_with (go_at_fn g; refine (hc _ _ _ _ _ _ (by decide +kernel) _ _ hI).mono ?_; clear hI; rintro e w1 ⟨rfl, hI⟩)
  go_end0
  exact ⟨rfl, hI⟩

set_option maxRecDepth 100000 in
set_option maxHeartbeats 4000000 in
theorem numbers64_takes {σ : Type} {g : Nat} {lb : Array Value} {Inv : σ → World → Prop} {step : σ → Ls → σ} (h : Takes g lb Inv step) (eg : ∀ args w, (callFunc g args).run Tryz.prog w = .ok (.enter g args) w) (s : σ) (w : World) (hI : Inv s w) :
    Calls Tryz.prog 283 #[.func (.func g) #[] lb, .string ⟨#[105, 54, 52, 46]⟩, .string ⟨#[126, 126]⟩, .int .i64 80, .int .i64 121] w fun e w' => e = .returned (.tuple #[]) ∧ Inv ((numL ⟨#[105, 54, 52, 46]⟩ ⟨#[126]⟩ ⟨#[126, 126]⟩ 80 121).foldl step s) w' := by
  have hc := fun first name shape params results ends hx s w hI => h.at first name shape params results ends hx s w hI
  clear h
  simp only [numL, List.foldl_cons, List.foldl_nil, Int.reduceAdd]
  go_enter Tryz.func283, Tryz.ntmps283
  go_wp2_with (go_at_fn g; refine (hc _ _ _ _ _ _ (by decide +kernel) _ _ hI).mono ?_; clear hI; rintro e w1 ⟨rfl, hI⟩)
  go_end0
  exact ⟨rfl, hI⟩
end Go.Proofs.YtpamchagidnijaaGreatDoor

namespace Go.Proofs.YtpamchagidnijaaGreatDoor
open Go.Shelf Go.RowKit Go.Lib

set_option maxRecDepth 100000 in
set_option maxHeartbeats 4000000 in
theorem each_takes {σ : Type} {g : Nat} {lb : Array Value} {Inv : σ → World → Prop} {step : σ → Ls → σ} (h : Takes g lb Inv step) (eg : ∀ args w, (callFunc g args).run Tryz.prog w = .ok (.enter g args) w) (s : σ) (w : World) (hI : Inv s w) :
    Calls Tryz.prog 263 #[.func (.func g) #[] lb] w fun e w' => e = .returned (.tuple #[]) ∧ Inv (allL.foldl step s) w' := by
  have hc := fun first name shape params results ends hx s w hI => h.at first name shape params results ends hx s w hI
  have c1 := flow_takes h eg
  have c2 := memory_takes h eg
  have c3 := numbers32_takes h eg
  have c4 := numbers64_takes h eg
  clear h
  simp only [allL, List.foldl_append]
  generalize flowL.foldl step = F at c1
  generalize memL.foldl step = M at c2
  simp only [constL, endL, List.foldl_cons, List.foldl_nil]
  go_enter Tryz.func263, Tryz.ntmps263
  go_wp2_with (first
    | (go_at_call 281; (with_reducible refine (c1 _ _ hI).mono ?_); clear hI; rintro e w1 ⟨rfl, hI⟩)
    | (go_at_call 282; (with_reducible refine (c2 _ _ hI).mono ?_); clear hI; rintro e w1 ⟨rfl, hI⟩)
    | (go_at_call 283; (with_reducible refine (c3 _ _ hI).mono ?_); clear hI; rintro e w1 ⟨rfl, hI⟩)
    | (go_at_call 283; (with_reducible refine (c4 _ _ hI).mono ?_); clear hI; rintro e w1 ⟨rfl, hI⟩)
    | (go_at_fn g; refine (hc _ _ _ _ _ _ (by decide +kernel) _ _ hI).mono ?_; clear hI; rintro e w1 ⟨rfl, hI⟩))
  go_end0
  exact ⟨rfl, hI⟩
end Go.Proofs.YtpamchagidnijaaGreatDoor

namespace Go.Proofs.YtpamchagidnijaaGreatDoor
open Go.Shelf Go.RowKit Go.Lib

/-- A list as a value. -/
def Ls.flat (l : Ls) : Value := .agg #[.int .i64 l.first, .string l.name, .int .i64 l.shape, .string l.params, .string l.results, .string l.ends]
def Ls.cells (l : Ls) : Array Value := #[.int .i64 l.first, .string l.name, .int .i64 l.shape, .string l.params, .string l.results, .string l.ends]

/-- What the taker of 'near' keeps: the list stands in its block, the code in its own. -/
def NearInv (w0 : World) (code : Int) (l : Ls) (w : World) : Prop :=
  Below w0.heap.size w0 w ∧ w0.heap.size + 3 ≤ w.heap.size ∧ w.cell? ⟨w0.heap.size, 0, none⟩ = some (.int .i64 code) ∧ w.heap[w0.heap.size + 1 + 1]? = some (.cells l.cells 278) ∧ w.heap[w0.heap.size + 1]? = some (.cells Ls.none.cells 278)

theorem NearInv.same {w0 w : World} {code : Int} {l : Ls} {B C : Nat} (hB : Below w0.heap.size w0 w) (hBe : w0.heap.size + 1 + 1 = B) (hCe : w0.heap.size = C) (hl : w.heap[B]? = some (.cells l.cells 278)) (hcell : w.cell? ⟨C, 0, none⟩ = some (.int .i64 code))
    (hlt : B < w.heap.size) (hlc : C < w.heap.size) (hsz : w0.heap.size + 3 ≤ w.heap.size) (hr : w.heap[w0.heap.size + 1]? = some (.cells Ls.none.cells 278)) (o : Obj) : NearInv w0 code l (w.alloc o) := by
  subst hBe hCe
  refine ⟨hB.alloc hB.size o, by simp; omega, ?_, ?_, ?_⟩
  · rw [World.cell?_alloc_lt w o _ hlc]; exact hcell
  · rw [Below.heap_alloc w o _ hlt]; exact hl
  · rw [Below.heap_alloc w o _ (by omega)]; exact hr
theorem NearInv.set {w0 w : World} {code : Int} {l : Ls} {B C : Nat} (hB : Below w0.heap.size w0 w) (hBe : w0.heap.size + 1 + 1 = B) (hCe : w0.heap.size = C) (hl : w.heap[B]? = some (.cells l.cells 278)) (hcell : w.cell? ⟨C, 0, none⟩ = some (.int .i64 code))
    (hlt : B < w.heap.size) (hlc : C < w.heap.size) (hsz : w0.heap.size + 3 ≤ w.heap.size) (hr : w.heap[w0.heap.size + 1]? = some (.cells Ls.none.cells 278)) (t1 : Int) (t2 : ByteArray) (t3 : Int) (t4 t5 t6 : ByteArray) (o : Obj) :
    NearInv w0 code ⟨t1, t2, t3, t4, t5, t6⟩ (((((((w.setCell ⟨B, 0, none⟩ (.int .i64 t1)).setCell ⟨B, 1, none⟩ (.string t2)).setCell ⟨B, 2, none⟩ (.int .i64 t3)).setCell ⟨B, 3, none⟩ (.string t4)).setCell ⟨B, 4, none⟩ (.string t5)).setCell ⟨B, 5, none⟩ (.string t6)).alloc o) := by
  have hb : w0.heap.size ≤ B := by omega
  have k0 := heap_setCell_same w B 0 _ _ (.int .i64 t1) hl
  have k1 := heap_setCell_same _ B 1 _ _ (.string t2) k0
  have k2 := heap_setCell_same _ B 2 _ _ (.int .i64 t3) k1
  have k3 := heap_setCell_same _ B 3 _ _ (.string t4) k2
  have k4 := heap_setCell_same _ B 4 _ _ (.string t5) k3
  have k5 := heap_setCell_same _ B 5 _ _ (.string t6) k4
  have hne : C ≠ B := by omega
  refine NearInv.same ((((((hB.setCell hb _).setCell hb _).setCell hb _).setCell hb _).setCell hb _).setCell hb _) hBe hCe k5 ?_ (by simpa [World.setCell] using hlt) (by simpa [World.setCell] using hlc) (by simpa [World.setCell] using hsz) ?_ o
  have e : ∀ (w : World) (j : Nat) (v : Value), (w.setCell ⟨B, j, none⟩ v).cell? ⟨C, 0, none⟩ = w.cell? ⟨C, 0, none⟩ := fun w j v => World.cell?_of_block (w := w) (Below.heap_setCell w _ v C hne)
  · rw [e, e, e, e, e, e]; exact hcell
  · have e : ∀ (w : World) (j : Nat) (v : Value), (w.setCell ⟨B, j, none⟩ v).heap[w0.heap.size + 1]? = w.heap[w0.heap.size + 1]? := fun w j v => Below.heap_setCell w _ v _ (by show w0.heap.size + 1 ≠ B; omega)
    rw [e, e, e, e, e, e]; exact hr

set_option maxRecDepth 100000 in
set_option maxHeartbeats 4000000 in
theorem near_takes (w0 : World) (code : Int) : Takes 264 #[.pointer (some ⟨w0.heap.size + 1 + 1, 0, none⟩), .pointer (some ⟨w0.heap.size, 0, none⟩)] (NearInv w0 code) (nearStep code) := by
  intro t s w _ _ hf0 hf1 _ _ hI
  obtain ⟨hB, hsz, hcell, hl, hr⟩ := hI
  obtain ⟨t1, t2, t3, t4, t5, t6⟩ := t
  obtain ⟨s1, s2, s3, s4, s5, s6⟩ := s
  simp only at *
  obtain ⟨B, hBe⟩ : ∃ B, w0.heap.size + 1 + 1 = B := ⟨_, rfl⟩
  obtain ⟨C, hCe⟩ : ∃ C, w0.heap.size = C := ⟨_, rfl⟩
  rw [hBe] at hl ⊢
  rw [hCe] at hcell ⊢
  have hlt : B < w.heap.size := by omega
  have hlc : C < w.heap.size := by omega
  have k := fun (o : Obj) (j : Nat) => World.cell?_alloc_lt w o (⟨B, j, none⟩ : Addr) hlt
  have cB : ∀ j, w.cell? ⟨B, j, none⟩ = (Ls.cells ⟨s1, s2, s3, s4, s5, s6⟩)[j]? := fun j => by simp [World.cell?, hl]
  have fB : ∀ j, w.frozen? ⟨B, j, none⟩ = false := fun j => by simp [World.frozen?, hl]
  have f0 := fB 0; have f1 := fB 1; have f2 := fB 2; have f3 := fB 3; have f4 := fB 4; have f5 := fB 5
  have p0 : w.cell? ⟨B, 0, none⟩ = some (.int .i64 s1) := cB 0
  have p1 : w.cell? ⟨B, 1, none⟩ = some (.string s2) := cB 1
  have p2 : w.cell? ⟨B, 2, none⟩ = some (.int .i64 s3) := cB 2
  have p3 : w.cell? ⟨B, 3, none⟩ = some (.string s4) := cB 3
  have p4 : w.cell? ⟨B, 4, none⟩ = some (.string s5) := cB 4
  have p5 : w.cell? ⟨B, 5, none⟩ = some (.string s6) := cB 5
  have q0 : ∀ o, (w.alloc o).cell? ⟨B, 0, none⟩ = some (.int .i64 s1) := fun o => (k o 0).trans (cB 0)
  have q1 : ∀ o, (w.alloc o).cell? ⟨B, 1, none⟩ = some (.string s2) := fun o => (k o 1).trans (cB 1)
  have q2 : ∀ o, (w.alloc o).cell? ⟨B, 2, none⟩ = some (.int .i64 s3) := fun o => (k o 2).trans (cB 2)
  have q3 : ∀ o, (w.alloc o).cell? ⟨B, 3, none⟩ = some (.string s4) := fun o => (k o 3).trans (cB 3)
  have q4 : ∀ o, (w.alloc o).cell? ⟨B, 4, none⟩ = some (.string s5) := fun o => (k o 4).trans (cB 4)
  have q5 : ∀ o, (w.alloc o).cell? ⟨B, 5, none⟩ = some (.string s6) := fun o => (k o 5).trans (cB 5)
  have qc : ∀ o, (w.alloc o).cell? ⟨C, 0, none⟩ = some (.int .i64 code) := fun o => (World.cell?_alloc_lt w o (⟨C, 0, none⟩ : Addr) hlc).trans hcell
  clear k cB fB
  go_enter Tryz.func264, Tryz.ntmps264
  go_wp2
  · go_end0
    refine ⟨rfl, ?_⟩
    rw [show nearStep code ⟨s1, s2, s3, s4, s5, s6⟩ ⟨t1, t2, t3, t4, t5, t6⟩ = ⟨t1, t2, t3, t4, t5, t6⟩ from if_pos ⟨by assumption, by assumption⟩]
    exact NearInv.set hB hBe hCe hl hcell hlt hlc hsz hr _ _ _ _ _ _ _
  all_goals go_end0
  all_goals refine ⟨rfl, ?_⟩
  · rw [show nearStep code ⟨s1, s2, s3, s4, s5, s6⟩ ⟨t1, t2, t3, t4, t5, t6⟩ = ⟨s1, s2, s3, s4, s5, s6⟩ from if_neg fun h => by have := h.1; have := h.2; simp only at *; omega]
    exact NearInv.same hB hBe hCe hl hcell hlt hlc hsz hr _
  · rw [show nearStep code ⟨s1, s2, s3, s4, s5, s6⟩ ⟨t1, t2, t3, t4, t5, t6⟩ = ⟨s1, s2, s3, s4, s5, s6⟩ from if_neg fun h => by have := h.1; have := h.2; simp only at *; omega]
    exact NearInv.same hB hBe hCe hl hcell hlt hlc hsz hr _

theorem results_one_cell {fn : Func} {p : Tmp} {ty : TypeId} (h : fn.results = #[.cell p ty]) (tmps : Array Value) (P : Program) (w : World) :
    (results fn tmps).run P w = ((asAddr (tmps.getD p undef)).run P w).andThen fun a w₁ => (loadVar ty a).run P w₁ := by
  simp only [results, h]
  simp [Sem.run_bind, Result.andThen]
/-- What stands in a list's block. -/
theorem list_facts {w : World} {b : Nat} {l : Ls} (h : w.heap[b]? = some (.cells l.cells 278)) :
    w.cell? ⟨b, 0, none⟩ = some (.int .i64 l.first) ∧ w.cell? ⟨b, 1, none⟩ = some (.string l.name) ∧ w.cell? ⟨b, 2, none⟩ = some (.int .i64 l.shape) ∧ w.cell? ⟨b, 3, none⟩ = some (.string l.params) ∧ w.cell? ⟨b, 4, none⟩ = some (.string l.results) ∧ w.cell? ⟨b, 5, none⟩ = some (.string l.ends) ∧
    w.frozen? ⟨b, 0, none⟩ = false ∧ w.frozen? ⟨b, 1, none⟩ = false ∧ w.frozen? ⟨b, 2, none⟩ = false ∧ w.frozen? ⟨b, 3, none⟩ = false ∧ w.frozen? ⟨b, 4, none⟩ = false ∧ w.frozen? ⟨b, 5, none⟩ = false := by
  have c : ∀ j, w.cell? ⟨b, j, none⟩ = l.cells[j]? := fun j => by simp [World.cell?, h]
  have f : ∀ j, w.frozen? ⟨b, j, none⟩ = false := fun j => by simp [World.frozen?, h]
  exact ⟨c 0, c 1, c 2, c 3, c 4, c 5, f 0, f 1, f 2, f 3, f 4, f 5⟩
theorem NearInv.new (code : Int) (w : World) : NearInv w code Ls.none (((w.alloc (.cells #[.int .i64 code] 3)).alloc (.cells Ls.none.cells 278)).alloc (.cells Ls.none.cells 278)) := by
  refine ⟨(((Below.refl _ w).alloc (Nat.le_refl _) _).alloc (by simp) _).alloc (by simp; omega) _, by simp, ?_, ?_, ?_⟩
  · rw [World.cell?_alloc_lt _ _ _ (by simp; omega), World.cell?_alloc_lt _ _ _ (by simp), World.cell?_alloc_new]; rfl
  · rw [show w.heap.size + 1 + 1 = ((w.alloc (.cells #[.int .i64 code] 3)).alloc (.cells Ls.none.cells 278)).heap.size by simp]; exact heap_alloc_new _ _
  · rw [Below.heap_alloc _ _ _ (by simp), show w.heap.size + 1 = (w.alloc (.cells #[.int .i64 code] 3)).heap.size by simp]; exact heap_alloc_new _ _
set_option maxRecDepth 100000 in
set_option maxHeartbeats 4000000 in
theorem near_of (code : Int) (w : World) :
    Calls Tryz.prog 233 #[.int .i64 code] w fun e w' => e = .returned (near code).flat ∧ Below w.heap.size w w' := by
  have eg : ∀ args w, (callFunc 264 args).run Tryz.prog w = .ok (.enter 264 args) w := enters_of Tryz.func264 (by kernel_rfl) rfl
  have c1 := fun w' hI => each_takes (near_takes w code) eg Ls.none w' hI
  have hN := NearInv.new code w
  rw [show List.foldl (nearStep code) Ls.none allL = near code from rfl] at c1
  obtain ⟨⟨l1, l2, l3, l4, l5, l6⟩, hl⟩ : ∃ l, near code = l := ⟨_, rfl⟩
  rw [hl] at c1 ⊢
  clear hl
  go_enter Tryz.func233, Tryz.ntmps233
  go_wp2_with (go_at_call 263; refine (c1 _ hN).mono ?_; rintro e w' ⟨rfl, hB, hsz, _, hb, hr⟩; have ⟨p0, p1, p2, p3, p4, p5, _, _, _, _, _, _⟩ := list_facts hb; have ⟨q0, q1, q2, q3, q4, q5, f0, f1, f2, f3, f4, f5⟩ := list_facts hr; simp only [Ls.none] at p0 p1 p2 p3 p4 p5 q0 q1 q2 q3 q4 q5; clear hb hr c1 hN)
  refine bodyPost_ret (v := Ls.flat ⟨l1, l2, l3, l4, l5, l6⟩) ?_ rfl ⟨rfl, ?_⟩
  · rw [results_one_cell rfl]; go_simp; rfl
  · exact (((((hB.setCell (by show w.heap.size ≤ w.heap.size + 1; omega) _).setCell (by show w.heap.size ≤ w.heap.size + 1; omega) _).setCell (by show w.heap.size ≤ w.heap.size + 1; omega) _).setCell (by show w.heap.size ≤ w.heap.size + 1; omega) _).setCell (by show w.heap.size ≤ w.heap.size + 1; omega) _).setCell (by show w.heap.size ≤ w.heap.size + 1; omega) _
end Go.Proofs.YtpamchagidnijaaGreatDoor
