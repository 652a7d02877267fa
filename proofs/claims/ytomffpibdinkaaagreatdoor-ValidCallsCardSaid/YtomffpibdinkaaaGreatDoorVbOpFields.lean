/-
  Facts and contracts that the proof calls.
-/
import Derived.Shelf.Strings.Fields
import Derived.Test.YtomffpibdinkaaaGreatDoorVbOpLists
namespace Go.Proofs.YtomffpibdinkaaaGreatDoor
set_option maxRecDepth 100000
set_option maxHeartbeats 16000000
open Go.Shelf Go.RowKit Go.Lib
def lays157_ren : Go.Shelf.Ren := ⟨fun | 157 => 99 | 229 => 119 | 199 => 120 | 261 => 130 | 311 => 135 | 312 => 136 | n => n, fun | 9 => 9 | 31 => 143 | 3 => 3 | 5 => 5 | 4 => 4 | 119 => 135 | 0 => 0 | 40 => 163 | 152 => 170 | 21 => 21 | 154 => 172 | 51 => 43 | 141 => 174 | 196 => 181 | 193 => 178 | 198 => 183 | 49 => 49 | 194 => 179 | 201 => 186 | 226 => 188 | 46 => 139 | 227 => 189 | n => n, fun | 0 => 2 | 6 => 3 | n => n⟩
theorem lays157 : Go.Proofs.Lays.n157 Tryz.prog lays157_ren := {
  mixed := by kernel_rfl,
  f157 := Tryz.func99.trans (congrArg some (by kernel_rfl)),
  f199 := Tryz.func120.trans (congrArg some (by kernel_rfl)),
  f229 := Tryz.func119.trans (congrArg some (by kernel_rfl)),
  f261 := Tryz.func130.trans (congrArg some (by kernel_rfl)),
  f311 := Tryz.func135.trans (congrArg some (by kernel_rfl)),
  f312 := Tryz.func136.trans (congrArg some (by kernel_rfl)),
  t0 := Tryz.underlying0,
  a0 := Tryz.isAgg0,
  z0 := Tryz.sizeOf0,
  v0 := Tryz.zeroValue0,
  t3 := Tryz.underlying3,
  a3 := Tryz.isAgg3,
  z3 := Tryz.sizeOf3,
  v3 := Tryz.zeroValue3,
  t4 := Tryz.underlying4,
  a4 := Tryz.isAgg4,
  z4 := Tryz.sizeOf4,
  v4 := Tryz.zeroValue4,
  t5 := Tryz.underlying5,
  a5 := Tryz.isAgg5,
  z5 := Tryz.sizeOf5,
  v5 := Tryz.zeroValue5,
  t9 := Tryz.underlying9,
  a9 := Tryz.isAgg9,
  z9 := Tryz.sizeOf9,
  v9 := Tryz.zeroValue9,
  t21 := Tryz.underlying21,
  a21 := Tryz.isAgg21,
  z21 := Tryz.sizeOf21,
  v21 := Tryz.zeroValue21,
  t31 := Tryz.underlying143,
  a31 := Tryz.isAgg143,
  z31 := Tryz.sizeOf143,
  v31 := Tryz.zeroValue143,
  t40 := Tryz.underlying163,
  a40 := Tryz.isAgg163,
  z40 := Tryz.sizeOf163,
  v40 := Tryz.zeroValue163,
  t46 := Tryz.underlying139,
  a46 := Tryz.isAgg139,
  z46 := Tryz.sizeOf139,
  v46 := Tryz.zeroValue139,
  t49 := Tryz.underlying49,
  a49 := Tryz.isAgg49,
  z49 := Tryz.sizeOf49,
  v49 := Tryz.zeroValue49,
  t51 := Tryz.underlying43,
  a51 := Tryz.isAgg43,
  z51 := Tryz.sizeOf43,
  v51 := Tryz.zeroValue43,
  t119 := Tryz.underlying135,
  a119 := Tryz.isAgg135,
  z119 := Tryz.sizeOf135,
  t141 := Tryz.underlying174,
  a141 := Tryz.isAgg174,
  z141 := Tryz.sizeOf174,
  v141 := Tryz.zeroValue174,
  t152 := Tryz.underlying170,
  a152 := Tryz.isAgg170,
  z152 := Tryz.sizeOf170,
  v152 := Tryz.zeroValue170,
  t154 := Tryz.underlying172,
  a154 := Tryz.isAgg172,
  z154 := Tryz.sizeOf172,
  v154 := Tryz.zeroValue172,
  t193 := Tryz.underlying178,
  a193 := Tryz.isAgg178,
  z193 := Tryz.sizeOf178,
  v193 := Tryz.zeroValue178,
  t194 := Tryz.underlying179,
  a194 := Tryz.isAgg179,
  z194 := Tryz.sizeOf179,
  v194 := Tryz.zeroValue179,
  t196 := Tryz.underlying181,
  a196 := Tryz.isAgg181,
  z196 := Tryz.sizeOf181,
  v196 := Tryz.zeroValue181,
  t198 := Tryz.underlying183,
  a198 := Tryz.isAgg183,
  z198 := Tryz.sizeOf183,
  v198 := Tryz.zeroValue183,
  t201 := Tryz.underlying186,
  a201 := Tryz.isAgg186,
  z201 := Tryz.sizeOf186,
  v201 := Tryz.zeroValue186,
  t226 := Tryz.underlying188,
  a226 := Tryz.isAgg188,
  z226 := Tryz.sizeOf188,
  v226 := Tryz.zeroValue188,
  t227 := Tryz.underlying189,
  a227 := Tryz.isAgg189,
  z227 := Tryz.sizeOf189,
  v227 := Tryz.zeroValue189,
  g0 := by kernel_rfl,
  g6 := by kernel_rfl }
theorem in_heap {w : World} {b o : Nat} {v : Value} (h : w.cell? ⟨b, o, none⟩ = some v) : b < w.heap.size := by
  refine Nat.lt_of_not_le fun hge => ?_
  have : w.heap[b]? = none := by simp; omega
  simp [World.cell?, this] at h
def Spaces (w : World) : Prop := ∀ c : Nat, c < 256 → w.cell? ⟨2, c, none⟩ = some (.int .u8 (if Lib.isSp (UInt8.ofNat c) then 1 else 0))
theorem Spaces.below {w w' : World} (h : Spaces w) (hb : Below w.heap.size w w') : Spaces w' := fun c hc => (hb.cell (p := ⟨2, c, none⟩) (in_heap (h c hc))).trans (h c hc)
theorem Spaces.alloc {w : World} (h : Spaces w) (o : Obj) : Spaces (w.alloc o) := h.below ((Below.refl _ w).alloc (Nat.le_refl _) o)
theorem Spaces.drew {w : World} (h : Spaces w) : Spaces w.drew := h
theorem lib_fields (s : ByteArray) (w : World) (hL : Spaces w) (hs : s.size < 4294967281) (ha : s.data.toList.all (fun b => decide (b.toNat < 128)) = true) :
    Calls Tryz.prog 99 #[.string s] w fun e w' => e = .returned (.slice (some ⟨w.heap.size, 0, none⟩) (Lib.fields s.data.toList).length (Lib.fields s.data.toList).length) ∧ w' = w.alloc (.cells ((Lib.fields s.data.toList).map fun l => Value.string ⟨l.toArray⟩).toArray 9) :=
  Any.strings_Fields_core lays157 (by kernel_rfl) s w hs (fun j b hb => by
    have := List.all_eq_true.1 ha b (List.mem_of_getElem? hb)
    simpa using this) hL
end Go.Proofs.YtomffpibdinkaaaGreatDoor
namespace Go.Proofs.YtomffpibdinkaaaGreatDoor
set_option maxRecDepth 100000
set_option maxHeartbeats 16000000
open Go.Shelf Go.RowKit Go.Lib
def Takes {σ : Type} (g : Nat) (lb : Array Value) (Inv : σ → World → Prop) (step : σ → Ls → σ) : Prop :=
  ∀ (t : Ls) (s : σ) (w : World), t.ends.size ≤ 60 → t.name.size ≤ 10 → 0 ≤ t.first → t.first ≤ 172 → t.parts.length ≤ 8 → t.ends.data.toList.all (fun b => decide (b.toNat < 128)) = true → Inv s w →
    Calls Tryz.prog g (#[.int .i64 t.first, .agg #[.string t.name, .int .i64 t.shape, .string t.params, .string t.results], .string t.ends] ++ lb) w fun e w' => e = .returned (.tuple #[]) ∧ Inv (step s t) w'
theorem Takes.at {σ : Type} {g : Nat} {lb : Array Value} {Inv : σ → World → Prop} {step : σ → Ls → σ} (h : Takes g lb Inv step) (first : Int) (name : ByteArray) (shape : Int) (params results ends : ByteArray)
    (hc : ends.size ≤ 60 ∧ name.size ≤ 10 ∧ 0 ≤ first ∧ first ≤ 172 ∧ (Ls.mk first name shape params results ends).parts.length ≤ 8 ∧ ends.data.toList.all (fun b => decide (b.toNat < 128)) = true) (s : σ) (w : World) (hI : Inv s w) :
    Calls Tryz.prog g (#[.int .i64 first, .agg #[.string name, .int .i64 shape, .string params, .string results], .string ends] ++ lb) w fun e w' => e = .returned (.tuple #[]) ∧ Inv (step s ⟨first, name, shape, params, results, ends⟩) w' :=
  h ⟨first, name, shape, params, results, ends⟩ s w hc.1 hc.2.1 hc.2.2.1 hc.2.2.2.1 hc.2.2.2.2.1 hc.2.2.2.2.2 hI
theorem flow_takes {σ : Type} {g : Nat} {lb : Array Value} {Inv : σ → World → Prop} {step : σ → Ls → σ} (h : Takes g lb Inv step) (eg : ∀ args w, (callFunc g args).run Tryz.prog w = .ok (.enter g args) w) (s : σ) (w : World) (hI : Inv s w) :
    Calls Tryz.prog 127 #[.func (.func g) #[] lb] w fun e w' => e = .returned (.tuple #[]) ∧ Inv (flowL.foldl step s) w' := by
  have hc := fun first name shape params results ends hx s w hI => h.at first name shape params results ends hx s w hI
  clear h
  simp only [flowL, List.foldl_cons, List.foldl_nil]
  go_enter Tryz.func127, Tryz.ntmps127
  go_wp2_with (go_at_fn g; refine (hc _ _ _ _ _ _ (by decide +kernel) _ _ hI).mono ?_; clear hI; rintro e w1 ⟨rfl, hI⟩)
  go_end0
  exact ⟨rfl, hI⟩
theorem memory_takes {σ : Type} {g : Nat} {lb : Array Value} {Inv : σ → World → Prop} {step : σ → Ls → σ} (h : Takes g lb Inv step) (eg : ∀ args w, (callFunc g args).run Tryz.prog w = .ok (.enter g args) w) (s : σ) (w : World) (hI : Inv s w) :
    Calls Tryz.prog 128 #[.func (.func g) #[] lb] w fun e w' => e = .returned (.tuple #[]) ∧ Inv (memL.foldl step s) w' := by
  have hc := fun first name shape params results ends hx s w hI => h.at first name shape params results ends hx s w hI
  clear h
  simp only [memL, List.foldl_cons, List.foldl_nil]
  go_enter Tryz.func128, Tryz.ntmps128
  go_wp2_with (go_at_fn g; refine (hc _ _ _ _ _ _ (by decide +kernel) _ _ hI).mono ?_; clear hI; rintro e w1 ⟨rfl, hI⟩)
  go_end0
  exact ⟨rfl, hI⟩
theorem numbers32_takes {σ : Type} {g : Nat} {lb : Array Value} {Inv : σ → World → Prop} {step : σ → Ls → σ} (h : Takes g lb Inv step) (eg : ∀ args w, (callFunc g args).run Tryz.prog w = .ok (.enter g args) w) (s : σ) (w : World) (hI : Inv s w) :
    Calls Tryz.prog 129 #[.func (.func g) #[] lb, .string ⟨#[105, 51, 50, 46]⟩, .string ⟨#[127, 127]⟩, .int .i64 69, .int .i64 103] w fun e w' => e = .returned (.tuple #[]) ∧ Inv ((numL ⟨#[105, 51, 50, 46]⟩ ⟨#[127]⟩ ⟨#[127, 127]⟩ 69 103).foldl step s) w' := by
  have hc := fun first name shape params results ends hx s w hI => h.at first name shape params results ends hx s w hI
  clear h
  simp only [numL, List.foldl_cons, List.foldl_nil, Int.reduceAdd]
  go_enter Tryz.func129, Tryz.ntmps129
  go_wp2_with (go_at_fn g; refine (hc _ _ _ _ _ _ (by decide +kernel) _ _ hI).mono ?_; clear hI; rintro e w1 ⟨rfl, hI⟩)
  go_end0
  exact ⟨rfl, hI⟩
theorem numbers64_takes {σ : Type} {g : Nat} {lb : Array Value} {Inv : σ → World → Prop} {step : σ → Ls → σ} (h : Takes g lb Inv step) (eg : ∀ args w, (callFunc g args).run Tryz.prog w = .ok (.enter g args) w) (s : σ) (w : World) (hI : Inv s w) :
    Calls Tryz.prog 129 #[.func (.func g) #[] lb, .string ⟨#[105, 54, 52, 46]⟩, .string ⟨#[126, 126]⟩, .int .i64 80, .int .i64 121] w fun e w' => e = .returned (.tuple #[]) ∧ Inv ((numL ⟨#[105, 54, 52, 46]⟩ ⟨#[126]⟩ ⟨#[126, 126]⟩ 80 121).foldl step s) w' := by
  have hc := fun first name shape params results ends hx s w hI => h.at first name shape params results ends hx s w hI
  clear h
  simp only [numL, List.foldl_cons, List.foldl_nil, Int.reduceAdd]
  go_enter Tryz.func129, Tryz.ntmps129
  go_wp2_with (go_at_fn g; refine (hc _ _ _ _ _ _ (by decide +kernel) _ _ hI).mono ?_; clear hI; rintro e w1 ⟨rfl, hI⟩)
  go_end0
  exact ⟨rfl, hI⟩
end Go.Proofs.YtomffpibdinkaaaGreatDoor
namespace Go.Proofs.YtomffpibdinkaaaGreatDoor
set_option maxRecDepth 100000
set_option maxHeartbeats 16000000
open Go.Shelf Go.RowKit Go.Lib
theorem each_takes {σ : Type} {g : Nat} {lb : Array Value} {Inv : σ → World → Prop} {step : σ → Ls → σ} (h : Takes g lb Inv step) (eg : ∀ args w, (callFunc g args).run Tryz.prog w = .ok (.enter g args) w) (s : σ) (w : World) (hI : Inv s w) :
    Calls Tryz.prog 117 #[.func (.func g) #[] lb] w fun e w' => e = .returned (.tuple #[]) ∧ Inv (allL.foldl step s) w' := by
  have hc := fun first name shape params results ends hx s w hI => h.at first name shape params results ends hx s w hI
  have c1 := flow_takes h eg
  have c2 := memory_takes h eg
  have c3 := numbers32_takes h eg
  have c4 := numbers64_takes h eg
  clear h
  simp only [allL, List.foldl_append]
  generalize flowL.foldl step = F at c1
  generalize memL.foldl step = M at c2
  simp only [constL, endL, List.foldl_cons, List.foldl_nil]
  go_enter Tryz.func117, Tryz.ntmps117
  go_wp2_with (first
    | (go_at_call 127; (with_reducible refine (c1 _ _ hI).mono ?_); clear hI; rintro e w1 ⟨rfl, hI⟩)
    | (go_at_call 128; (with_reducible refine (c2 _ _ hI).mono ?_); clear hI; rintro e w1 ⟨rfl, hI⟩)
    | (go_at_call 129; (with_reducible refine (c3 _ _ hI).mono ?_); clear hI; rintro e w1 ⟨rfl, hI⟩)
    | (go_at_call 129; (with_reducible refine (c4 _ _ hI).mono ?_); clear hI; rintro e w1 ⟨rfl, hI⟩)
    | (go_at_fn g; refine (hc _ _ _ _ _ _ (by decide +kernel) _ _ hI).mono ?_; clear hI; rintro e w1 ⟨rfl, hI⟩))
  go_end0
  exact ⟨rfl, hI⟩
end Go.Proofs.YtomffpibdinkaaaGreatDoor
namespace Go.Proofs.YtomffpibdinkaaaGreatDoor
set_option maxRecDepth 100000
set_option maxHeartbeats 16000000
open Go.Shelf Go.RowKit Go.Lib
def Ls.flat (l : Ls) : Value := .agg #[.int .i64 l.first, .string l.name, .int .i64 l.shape, .string l.params, .string l.results, .string l.ends]
def Ls.cells (l : Ls) : Array Value := #[.int .i64 l.first, .string l.name, .int .i64 l.shape, .string l.params, .string l.results, .string l.ends]
def NearInv (w0 : World) (code : Int) (l : Ls) (w : World) : Prop :=
  Below w0.heap.size w0 w ∧ w0.heap.size + 3 ≤ w.heap.size ∧ w.cell? ⟨w0.heap.size, 0, none⟩ = some (.int .i64 code) ∧ w.heap[w0.heap.size + 1 + 1]? = some (.cells l.cells 141) ∧ w.heap[w0.heap.size + 1]? = some (.cells Ls.none.cells 141)
theorem NearInv.same {w0 w : World} {code : Int} {l : Ls} {B C : Nat} (hB : Below w0.heap.size w0 w) (hBe : w0.heap.size + 1 + 1 = B) (hCe : w0.heap.size = C) (hl : w.heap[B]? = some (.cells l.cells 141)) (hcell : w.cell? ⟨C, 0, none⟩ = some (.int .i64 code))
    (hlt : B < w.heap.size) (hlc : C < w.heap.size) (hsz : w0.heap.size + 3 ≤ w.heap.size) (hr : w.heap[w0.heap.size + 1]? = some (.cells Ls.none.cells 141)) (o : Obj) : NearInv w0 code l (w.alloc o) := by
  subst hBe hCe
  refine ⟨hB.alloc hB.size o, by simp; omega, ?_, ?_, ?_⟩
  · rw [World.cell?_alloc_lt w o _ hlc]; exact hcell
  · rw [Below.heap_alloc w o _ hlt]; exact hl
  · rw [Below.heap_alloc w o _ (by omega)]; exact hr
theorem NearInv.set {w0 w : World} {code : Int} {l : Ls} {B C : Nat} (hB : Below w0.heap.size w0 w) (hBe : w0.heap.size + 1 + 1 = B) (hCe : w0.heap.size = C) (hl : w.heap[B]? = some (.cells l.cells 141)) (hcell : w.cell? ⟨C, 0, none⟩ = some (.int .i64 code))
    (hlt : B < w.heap.size) (hlc : C < w.heap.size) (hsz : w0.heap.size + 3 ≤ w.heap.size) (hr : w.heap[w0.heap.size + 1]? = some (.cells Ls.none.cells 141)) (t1 : Int) (t2 : ByteArray) (t3 : Int) (t4 t5 t6 : ByteArray) (o : Obj) :
    NearInv w0 code ⟨t1, t2, t3, t4, t5, t6⟩ (((((((w.setCell ⟨B, 0, none⟩ (.int .i64 t1)).setCell ⟨B, 1, none⟩ (.string t2)).setCell ⟨B, 2, none⟩ (.int .i64 t3)).setCell ⟨B, 3, none⟩ (.string t4)).setCell ⟨B, 4, none⟩ (.string t5)).setCell ⟨B, 5, none⟩ (.string t6)).alloc o) := by
  have hb : w0.heap.size ≤ B := by omega
  have k0 := heap_setCell_same w B 0 _ _ (.int .i64 t1) hl
  have k1 := heap_setCell_same _ B 1 _ _ (.string t2) k0
  have k2 := heap_setCell_same _ B 2 _ _ (.int .i64 t3) k1
  have k3 := heap_setCell_same _ B 3 _ _ (.string t4) k2
  have k4 := heap_setCell_same _ B 4 _ _ (.string t5) k3
  have k5 := heap_setCell_same _ B 5 _ _ (.string t6) k4
  have hne : C ≠ B := by omega
  refine NearInv.same ((((((hB.setCell hb _).setCell hb _).setCell hb _).setCell hb _).setCell hb _).setCell hb _) hBe hCe k5 ?_ (by simpa [World.setCell] using hlt) (by simpa [World.setCell] using hlc) (by simpa [World.setCell] using hsz) ?_ o
  have e : ∀ (w : World) (j : Nat) (v : Value), (w.setCell ⟨B, j, none⟩ v).cell? ⟨C, 0, none⟩ = w.cell? ⟨C, 0, none⟩ := fun w j v => World.cell?_of_block (w := w) (Below.heap_setCell w _ v C hne)
  · rw [e, e, e, e, e, e]; exact hcell
  · have e : ∀ (w : World) (j : Nat) (v : Value), (w.setCell ⟨B, j, none⟩ v).heap[w0.heap.size + 1]? = w.heap[w0.heap.size + 1]? := fun w j v => Below.heap_setCell w _ v _ (by show w0.heap.size + 1 ≠ B; omega)
    rw [e, e, e, e, e, e]; exact hr
theorem near_takes (w0 : World) (code : Int) : Takes 118 #[.pointer (some ⟨w0.heap.size + 1 + 1, 0, none⟩), .pointer (some ⟨w0.heap.size, 0, none⟩)] (NearInv w0 code) (nearStep code) := by
  intro t s w _ _ hf0 hf1 _ _ hI
  obtain ⟨hB, hsz, hcell, hl, hr⟩ := hI
  obtain ⟨t1, t2, t3, t4, t5, t6⟩ := t
  obtain ⟨s1, s2, s3, s4, s5, s6⟩ := s
  simp only at *
  obtain ⟨B, hBe⟩ : ∃ B, w0.heap.size + 1 + 1 = B := ⟨_, rfl⟩
  obtain ⟨C, hCe⟩ : ∃ C, w0.heap.size = C := ⟨_, rfl⟩
  rw [hBe] at hl ⊢
  rw [hCe] at hcell ⊢
  have hlt : B < w.heap.size := by omega
  have hlc : C < w.heap.size := by omega
  have k := fun (o : Obj) (j : Nat) => World.cell?_alloc_lt w o (⟨B, j, none⟩ : Addr) hlt
  have cB : ∀ j, w.cell? ⟨B, j, none⟩ = (Ls.cells ⟨s1, s2, s3, s4, s5, s6⟩)[j]? := fun j => by simp [World.cell?, hl]
  have fB : ∀ j, w.frozen? ⟨B, j, none⟩ = false := fun j => by simp [World.frozen?, hl]
  have f0 := fB 0; have f1 := fB 1; have f2 := fB 2; have f3 := fB 3; have f4 := fB 4; have f5 := fB 5
  have p0 : w.cell? ⟨B, 0, none⟩ = some (.int .i64 s1) := cB 0
  have p1 : w.cell? ⟨B, 1, none⟩ = some (.string s2) := cB 1
  have p2 : w.cell? ⟨B, 2, none⟩ = some (.int .i64 s3) := cB 2
  have p3 : w.cell? ⟨B, 3, none⟩ = some (.string s4) := cB 3
  have p4 : w.cell? ⟨B, 4, none⟩ = some (.string s5) := cB 4
  have p5 : w.cell? ⟨B, 5, none⟩ = some (.string s6) := cB 5
  have q0 : ∀ o, (w.alloc o).cell? ⟨B, 0, none⟩ = some (.int .i64 s1) := fun o => (k o 0).trans (cB 0)
  have q1 : ∀ o, (w.alloc o).cell? ⟨B, 1, none⟩ = some (.string s2) := fun o => (k o 1).trans (cB 1)
  have q2 : ∀ o, (w.alloc o).cell? ⟨B, 2, none⟩ = some (.int .i64 s3) := fun o => (k o 2).trans (cB 2)
  have q3 : ∀ o, (w.alloc o).cell? ⟨B, 3, none⟩ = some (.string s4) := fun o => (k o 3).trans (cB 3)
  have q4 : ∀ o, (w.alloc o).cell? ⟨B, 4, none⟩ = some (.string s5) := fun o => (k o 4).trans (cB 4)
  have q5 : ∀ o, (w.alloc o).cell? ⟨B, 5, none⟩ = some (.string s6) := fun o => (k o 5).trans (cB 5)
  have qc : ∀ o, (w.alloc o).cell? ⟨C, 0, none⟩ = some (.int .i64 code) := fun o => (World.cell?_alloc_lt w o (⟨C, 0, none⟩ : Addr) hlc).trans hcell
  clear k cB fB
  go_enter Tryz.func118, Tryz.ntmps118
  go_wp2
  · go_end0
    refine ⟨rfl, ?_⟩
    rw [show nearStep code ⟨s1, s2, s3, s4, s5, s6⟩ ⟨t1, t2, t3, t4, t5, t6⟩ = ⟨t1, t2, t3, t4, t5, t6⟩ from if_pos ⟨by assumption, by assumption⟩]
    exact NearInv.set hB hBe hCe hl hcell hlt hlc hsz hr _ _ _ _ _ _ _
  all_goals go_end0
  all_goals refine ⟨rfl, ?_⟩
  · rw [show nearStep code ⟨s1, s2, s3, s4, s5, s6⟩ ⟨t1, t2, t3, t4, t5, t6⟩ = ⟨s1, s2, s3, s4, s5, s6⟩ from if_neg fun h => by have := h.1; have := h.2; simp only at *; omega]
    exact NearInv.same hB hBe hCe hl hcell hlt hlc hsz hr _
  · rw [show nearStep code ⟨s1, s2, s3, s4, s5, s6⟩ ⟨t1, t2, t3, t4, t5, t6⟩ = ⟨s1, s2, s3, s4, s5, s6⟩ from if_neg fun h => by have := h.1; have := h.2; simp only at *; omega]
    exact NearInv.same hB hBe hCe hl hcell hlt hlc hsz hr _
theorem results_one_cell {fn : Func} {p : Tmp} {ty : TypeId} (h : fn.results = #[.cell p ty]) (tmps : Array Value) (P : Program) (w : World) :
    (results fn tmps).run P w = ((asAddr (tmps.getD p undef)).run P w).andThen fun a w₁ => (loadVar ty a).run P w₁ := by
  simp only [results, h]
  simp [Sem.run_bind, Result.andThen]
theorem list_facts {w : World} {b : Nat} {l : Ls} (h : w.heap[b]? = some (.cells l.cells 141)) :
    w.cell? ⟨b, 0, none⟩ = some (.int .i64 l.first) ∧ w.cell? ⟨b, 1, none⟩ = some (.string l.name) ∧ w.cell? ⟨b, 2, none⟩ = some (.int .i64 l.shape) ∧ w.cell? ⟨b, 3, none⟩ = some (.string l.params) ∧ w.cell? ⟨b, 4, none⟩ = some (.string l.results) ∧ w.cell? ⟨b, 5, none⟩ = some (.string l.ends) ∧
    w.frozen? ⟨b, 0, none⟩ = false ∧ w.frozen? ⟨b, 1, none⟩ = false ∧ w.frozen? ⟨b, 2, none⟩ = false ∧ w.frozen? ⟨b, 3, none⟩ = false ∧ w.frozen? ⟨b, 4, none⟩ = false ∧ w.frozen? ⟨b, 5, none⟩ = false := by
  have c : ∀ j, w.cell? ⟨b, j, none⟩ = l.cells[j]? := fun j => by simp [World.cell?, h]
  have f : ∀ j, w.frozen? ⟨b, j, none⟩ = false := fun j => by simp [World.frozen?, h]
  exact ⟨c 0, c 1, c 2, c 3, c 4, c 5, f 0, f 1, f 2, f 3, f 4, f 5⟩
theorem NearInv.new (code : Int) (w : World) : NearInv w code Ls.none (((w.alloc (.cells #[.int .i64 code] 3)).alloc (.cells Ls.none.cells 141)).alloc (.cells Ls.none.cells 141)) := by
  refine ⟨(((Below.refl _ w).alloc (Nat.le_refl _) _).alloc (by simp) _).alloc (by simp; omega) _, by simp, ?_, ?_, ?_⟩
  · rw [World.cell?_alloc_lt _ _ _ (by simp; omega), World.cell?_alloc_lt _ _ _ (by simp), World.cell?_alloc_new]; rfl
  · rw [show w.heap.size + 1 + 1 = ((w.alloc (.cells #[.int .i64 code] 3)).alloc (.cells Ls.none.cells 141)).heap.size by simp]; exact heap_alloc_new _ _
  · rw [Below.heap_alloc _ _ _ (by simp), show w.heap.size + 1 = (w.alloc (.cells #[.int .i64 code] 3)).heap.size by simp]; exact heap_alloc_new _ _
theorem near_of (code : Int) (w : World) :
    Calls Tryz.prog 98 #[.int .i64 code] w fun e w' => e = .returned (near code).flat ∧ Below w.heap.size w w' := by
  have eg : ∀ args w, (callFunc 118 args).run Tryz.prog w = .ok (.enter 118 args) w := enters_of Tryz.func118 (by kernel_rfl) rfl
  have c1 := fun w' hI => each_takes (near_takes w code) eg Ls.none w' hI
  have hN := NearInv.new code w
  rw [show List.foldl (nearStep code) Ls.none allL = near code from rfl] at c1
  obtain ⟨⟨l1, l2, l3, l4, l5, l6⟩, hl⟩ : ∃ l, near code = l := ⟨_, rfl⟩
  rw [hl] at c1 ⊢
  clear hl
  go_enter Tryz.func98, Tryz.ntmps98
  go_wp2_with (go_at_call 117; refine (c1 _ hN).mono ?_; rintro e w' ⟨rfl, hB, hsz, _, hb, hr⟩; have ⟨p0, p1, p2, p3, p4, p5, _, _, _, _, _, _⟩ := list_facts hb; have ⟨q0, q1, q2, q3, q4, q5, f0, f1, f2, f3, f4, f5⟩ := list_facts hr; simp only [Ls.none] at p0 p1 p2 p3 p4 p5 q0 q1 q2 q3 q4 q5; clear hb hr c1 hN)
  refine bodyPost_ret (v := Ls.flat ⟨l1, l2, l3, l4, l5, l6⟩) ?_ rfl ⟨rfl, ?_⟩
  · rw [results_one_cell rfl]; go_simp; rfl
  · exact (((((hB.setCell (by show w.heap.size ≤ w.heap.size + 1; omega) _).setCell (by show w.heap.size ≤ w.heap.size + 1; omega) _).setCell (by show w.heap.size ≤ w.heap.size + 1; omega) _).setCell (by show w.heap.size ≤ w.heap.size + 1; omega) _).setCell (by show w.heap.size ≤ w.heap.size + 1; omega) _).setCell (by show w.heap.size ≤ w.heap.size + 1; omega) _
end Go.Proofs.YtomffpibdinkaaaGreatDoor
namespace Go.Proofs.YtomffpibdinkaaaGreatDoor
set_option maxRecDepth 100000
set_option maxHeartbeats 16000000
open Go.Shelf Go.RowKit Go.Lib Go.Maps
theorem info_zero (w : World) : (zeroValue 120).run Tryz.prog w = .ok (.agg #[.string ⟨#[]⟩, .int .i64 0, .string ⟨#[]⟩, .string ⟨#[]⟩]) w := by kernel_rfl
theorem of_raw (code : Int) (h0 : -9223372036854775808 ≤ code) (h1 : code ≤ 9223372036854775807) (l : Ls) (hl : near code = l) (w : World) (hL : Spaces w) :
    Calls Tryz.prog 68 #[.int .i64 code] w fun e w' => e = .returned (.tuple #[infoVal (rowIn l code), .bool (rowIn l code).isSome]) ∧ Below w.heap.size w w' := by
  have cn := near_of code
  have bd := near_bd code
  rw [hl] at cn bd
  obtain ⟨bd1, bd2, bd3, bd4, bd5, bd6, bd7⟩ := bd
  clear hl
  have law : Keyed Tryz.prog 3 := int_keyed Tryz.underlying3
  have hmm := @run_makeMap Tryz.prog
  have hpl : l.parts.length = (Lib.fields l.ends.data.toList).length := by simp [Ls.parts]
  have cf := fun w hL => lib_fields l.ends w hL (by omega) bd7
  rw [← hpl, show (Lib.fields l.ends.data.toList).map (fun l => Value.string ⟨l.toArray⟩) = l.parts.map Value.string by simp [Ls.parts]] at cf
  obtain ⟨l1, l2, l3, l4, l5, l6⟩ := l
  obtain ⟨ps, hps⟩ : ∃ ps, Ls.parts ⟨l1, l2, l3, l4, l5, l6⟩ = ps := ⟨_, rfl⟩
  simp only [Ls.flat] at *
  rw [hps] at cf bd5 bd6
  have HL := hL
  have hB := (Below.refl w.heap.size w).alloc (Nat.le_refl _) (.cells #[.string ⟨#[]⟩, .int .i64 0, .string ⟨#[]⟩, .string ⟨#[]⟩] 120)
  go_enter Tryz.func68, Tryz.ntmps68
  go_wp2_with (first
    | (go_at_call 98; refine (cn _).mono ?_; rintro e w1 ⟨rfl, hb⟩; have hR := res_cells hb; replace hB := hB.trans (hb.mono (by simp)))
    | (go_at_call 99; refine (cf _ ((HL.below hB).alloc _)).mono ?_; rintro e w2 ⟨rfl, rfl⟩))
  clear cn cf
  obtain ⟨W3, hW3⟩ : ∃ W3, W3 = (w1.alloc (.cells #[.int .i64 l1, .string l2, .int .i64 l3, .string l4, .string l5, .string l6] 141)).alloc (.cells (ps.map Value.string).toArray 9) := ⟨_, rfl⟩
  have hM : W3.heap.size = w1.heap.size + 1 + 1 := by rw [hW3]; simp
  have hB3 : Below w.heap.size w W3 := by rw [hW3]; exact (hB.alloc (Nat.le_trans hB.size (Nat.le_refl _)) _).alloc (by have := hB.size; simp; omega) _
  have hl1 : W3.heap[w1.heap.size]? = some (.cells (Ls.cells ⟨l1, l2, l3, l4, l5, l6⟩) 141) := by
    rw [hW3, Below.heap_alloc _ _ _ (by simp)]; exact heap_alloc_new _ _
  have hc2 : ∀ j (hj : j < ps.length), W3.cell? ⟨w1.heap.size + 1, j, none⟩ = some (.string ps[j]) := fun j hj => by
    rw [hW3, show w1.heap.size + 1 = (w1.alloc (.cells #[.int .i64 l1, .string l2, .int .i64 l3, .string l4, .string l5, .string l6] 141)).heap.size by simp, World.cell?_alloc_new]
    simp [List.getElem?_eq_getElem hj]
  have hr : ∀ j, W3.cell? ⟨w.heap.size, j, none⟩ = w1.cell? ⟨w.heap.size, j, none⟩ := fun j => by
    have : w.heap.size < w1.heap.size := Nat.lt_of_lt_of_le (by simp) hb.size
    rw [hW3, World.cell?_alloc_lt _ _ _ (by simp; omega), World.cell?_alloc_lt _ _ _ this]
  have hrf : ∀ j, W3.frozen? ⟨w.heap.size, j, none⟩ = w1.frozen? ⟨w.heap.size, j, none⟩ := fun j => by
    have : w.heap.size < w1.heap.size := Nat.lt_of_lt_of_le (by simp) hb.size
    rw [hW3]
    exact (World.frozen?_of_block (w := w1.alloc _) (Below.heap_alloc _ _ _ (by simp; omega))).trans (World.frozen?_of_block (w := w1) (Below.heap_alloc _ _ _ this))
  have ho := World.ownsMap_made W3 Tryz.prog 3 (infoRead (H := Unit))
  rw [hM] at ho
  rw [← hW3]
  have hBM := (Below.refl W3.heap.size W3).alloc (Nat.le_refl _) (.map #[] 0)
  rw [hM] at hBM
  have hsM : w1.heap.size + 1 + 1 < (W3.alloc (.map #[] 0)).heap.size := by simp [hM]
  clear hW3 hb
  go_loopw [19] (fun i wr => ∃ k : Nat, k ≤ ps.length ∧ i = .int .i64 k ∧ wr.ownsMap Tryz.prog 3 (infoRead (H := Unit)) (w1.heap.size + 1 + 1) k (mapD ⟨l1, l2, l3, l4, l5, l6⟩ k) ∧ Below (w1.heap.size + 1 + 1) W3 wr ∧ w1.heap.size + 1 + 1 < wr.heap.size) (fun i _ => ps.length - (Go.RowKit.intOf i).toNat)
  case atStart => exact ⟨0, by omega, rfl, ho, hBM, hsM⟩
  case round =>
    obtain ⟨k, hk, rfl, ho, hBM, hsM⟩ := hrel
    by_cases hlt : k < ps.length
    · have hcx : wr.cell? ⟨w1.heap.size + 1, k, none⟩ = some (.string ps[k]) := (hBM.cell (p := ⟨w1.heap.size + 1, k, none⟩) (by show w1.heap.size + 1 < _; omega)).trans (hc2 k hlt)
      have hsm : ps[k].size ≤ 20 := by simpa using List.all_eq_true.1 bd6 ps[k] (List.getElem_mem hlt)
      have hlr : wr.heap[w1.heap.size]? = some (.cells (Ls.cells ⟨l1, l2, l3, l4, l5, l6⟩) 141) := (hBM.block _ (by omega)).trans hl1
      have ⟨p0, p1, p2, p3, p4, p5, _, _, _, _, _, _⟩ := list_facts hlr
      simp only at p0 p1 p2 p3 p4 p5
      generalize hpe : ps[k] = pe at hcx hsm
      clear hlr
      have hcy := fun o => (World.cell?_alloc_lt wr o (⟨w1.heap.size + 1, k, none⟩ : Addr) (by show w1.heap.size + 1 < _; omega)).trans hcx
      have p0y := fun o => (World.cell?_alloc_lt wr o (⟨w1.heap.size, 0, none⟩ : Addr) (by show w1.heap.size < _; omega)).trans p0
      go_wp2
      go_region
      have ho2 := (ho.alloc (.cells #[.string (l2 ++ pe), .int .i64 l3, .string l4, .string l5] 120)).drew
      obtain ⟨w2, hu, hown2, hg⟩ := ho2.update law Tryz.underlying145 (by unfold maxLen; omega) (keyOf_int_mk Tryz.underlying3 (WalkArith.wf_i64 (⟨by omega, by omega⟩ : -9223372036854775808 ≤ l1 + (k : Int) ∧ l1 + (k : Int) ≤ 9223372036854775807))) (infoRead_mk (l2 ++ pe) l3 l4 l5)
      have hD : (mapD ⟨l1, l2, l3, l4, l5, l6⟩ k).put (.int .i64 (l1 + k)) (infoD (l2 ++ pe) l3 l4 l5) = mapD ⟨l1, l2, l3, l4, l5, l6⟩ (k + 1) := by
        show _ = (mapD ⟨l1, l2, l3, l4, l5, l6⟩ k).put (.int .i64 (l1 + k)) (infoD (l2 ++ (Ls.parts ⟨l1, l2, l3, l4, l5, l6⟩).getD k ByteArray.empty) l3 l4 l5)
        rw [hps, List.getD_eq_getElem?_getD, List.getElem?_eq_getElem hlt, hpe]
        rfl
      rw [hD] at hown2
      have hB2 : Below (w1.heap.size + 1 + 1) W3 w2 := ((hBM.alloc (by omega) (.cells #[.string (l2 ++ pe), .int .i64 l3, .string l4, .string l5] 120)).drew).grown hg (Nat.le_trans (Nat.le_of_lt hsM) (by show wr.heap.size ≤ (wr.alloc _).heap.size; simp)) (fun j hj => by cases hj; exact Nat.le_refl _)
      have hs2 : w1.heap.size + 1 + 1 < w2.heap.size := Nat.lt_of_lt_of_le hsM (Nat.le_trans (by show wr.heap.size ≤ (wr.alloc _).heap.size; simp) hg.size)
      clear ho ho2 hg hD hBM hsM hpe hcx hcy p0 p1 p2 p3 p4 p5
      go_wp2
      go_roundw
      case rel => exact ⟨k + 1, by omega, by go_num, hown2, hB2, hs2⟩
      case measure => simp [Go.RowKit.intOf]; omega
    · obtain rfl : k = ps.length := by omega
      have hz : infoRead (H := Unit) (.agg #[.string ⟨#[]⟩, .int .i64 0, .string ⟨#[]⟩, .string ⟨#[]⟩]) = some (infoD ⟨#[]⟩ 0 ⟨#[]⟩ ⟨#[]⟩, []) := rfl
      obtain ⟨v, vp, hlk, hv⟩ := ho.look_ok law Tryz.underlying145 (info_zero wr) hz (keyOf_int_mk Tryz.underlying3 (WalkArith.wf_i64 (⟨h0, h1⟩ : -9223372036854775808 ≤ code ∧ code ≤ 9223372036854775807)))
      have hm := mapD_row ⟨l1, l2, l3, l4, l5, l6⟩ code
      rw [hps] at hm
      rw [hm.1] at hlk
      rw [hm.2] at hv
      have hvv : v = infoVal (rowIn ⟨l1, l2, l3, l4, l5, l6⟩ code) := by
        cases hrow : rowIn ⟨l1, l2, l3, l4, l5, l6⟩ code with
        | none => rw [hrow] at hv; exact infoRead_inv hv
        | some r => rw [hrow] at hv; exact infoRead_inv hv
      subst hvv
      clear hv hm hz
      obtain ⟨vn, vs, vp2, vr, hI⟩ : ∃ n s p r, infoVal (rowIn ⟨l1, l2, l3, l4, l5, l6⟩ code) = .agg #[.string n, .int .i64 s, .string p, .string r] := by
        cases rowIn ⟨l1, l2, l3, l4, l5, l6⟩ code
        · exact ⟨_, _, _, _, rfl⟩
        · exact ⟨_, _, _, _, rfl⟩
      rw [hI] at hlk
      obtain ⟨ok, hok⟩ : ∃ ok, (rowIn ⟨l1, l2, l3, l4, l5, l6⟩ code).isSome = ok := ⟨_, rfl⟩
      rw [hok] at hlk
      have HI := Lib.hid hI
      have HO := Lib.hid hok
      have hfr : ∀ j, wr.cell? ⟨w.heap.size, j, none⟩ = w1.cell? ⟨w.heap.size, j, none⟩ := fun j => (hBM.cell (p := ⟨w.heap.size, j, none⟩) (by have := hB.size; show w.heap.size < _; omega)).trans (hr j)
      have hff : ∀ j, wr.frozen? ⟨w.heap.size, j, none⟩ = w1.frozen? ⟨w.heap.size, j, none⟩ := fun j => (hBM.frozen (p := ⟨w.heap.size, j, none⟩) (by have := hB.size; show w.heap.size < _; omega)).trans (hrf j)
      obtain ⟨r0, r1, r2, r3, z0, z1, z2, z3⟩ := hR
      have r0' := (hfr 0).trans r0
      have r1' := (hfr 1).trans r1
      have r2' := (hfr 2).trans r2
      have r3' := (hfr 3).trans r3
      have z0' := (hff 0).trans z0
      have z1' := (hff 1).trans z1
      have z2' := (hff 2).trans z2
      have z3' := (hff 3).trans z3
      have hBr : Below w.heap.size w wr := hB3.trans (hBM.mono (by have := hB.size; omega))
      have hwlt : w.heap.size < wr.heap.size := by have := hB.size; omega
      have ha := fun o j => World.cell?_alloc_lt wr o (⟨w.heap.size, j, none⟩ : Addr) hwlt
      have r0a := fun o => (ha o 0).trans r0'
      have r1a := fun o => (ha o 1).trans r1'
      have r2a := fun o => (ha o 2).trans r2'
      have r3a := fun o => (ha o 3).trans r3'
      clear ha hfr hff r0 r1 r2 r3 z0 z1 z2 z3 hr hrf hI hok ho hBM
      go_wp2
      refine bodyPost_ret (v := .tuple #[.agg #[.string vn, .int .i64 vs, .string vp2, .string vr], .bool ok]) ?_ rfl ⟨by rw [HI.out, HO.out], ?_⟩
      · rw [results_cell_tmp rfl]; go_simp
      · exact ((((hBr.setCell (Nat.le_refl _) _).setCell (Nat.le_refl _) _).setCell (Nat.le_refl _) _).setCell (Nat.le_refl _) _).alloc (by simp [World.setCell]; omega) _
theorem op_of (code : Int) (h0 : -9223372036854775808 ≤ code) (h1 : code ≤ 9223372036854775807) (w : World) (hL : Spaces w) :
    Calls Tryz.prog 68 #[.int .i64 code] w fun e w' => e = .returned (.tuple #[infoVal (byCode code), .bool (byCode code).isSome]) ∧ Below w.heap.size w w' := by
  have c := of_raw code h0 h1 _ rfl w hL
  rwa [near_row] at c
end Go.Proofs.YtomffpibdinkaaaGreatDoor
