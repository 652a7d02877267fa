/-
  A module with one br_table whose labels are appended one by one, and its copy: where they lie. Plain; no statement is proved here.
-/
import Derived.Test.YtnonedmkdcbmfaaGreatDoorZModCopiesA
namespace Go.Proofs.YtnonedmkdcbmfaaGreatDoor
open Go.RowKit
theorem row4_map (ls : List Int) : ls.flatMap Int.row4 = ls.map (Value.int .i64) := by
  induction ls with
  | nil => rfl
  | cons x l ih => rw [List.flatMap_cons, ih]; rfl
/-- The instruction, in its variable; its labels in a block of their own. -/
structure Box4 (w1 : World) (v : Value) (ls : List Int) (X : World) : Prop where
  x : X.heap[w1.heap.size]? = some (.cells #[.int .i64 14, .int .i64 0, .int .i64 0, v] 40)
  labels : X.ownsRow (w1.heap.size + 1) 3 1 v ls.length (ls.map (Value.int .i64))
  low : Below w1.heap.size w1 X
theorem Box4.start (w1 : World) : Box4 w1 (.slice none 0 0) [] (w1.alloc (.cells #[.int .i64 14, .int .i64 0, .int .i64 0, .slice none 0 0] 40)) :=
  ⟨heap_alloc_new _ _, ⟨rfl, .inl ⟨rfl, rfl⟩⟩, (Below.refl _ _).alloc (Nat.le_refl _) _⟩
theorem Box4.size {w1 X : World} {v : Value} {ls : List Int} (h : Box4 w1 v ls X) : w1.heap.size + 1 ≤ X.heap.size := heap_in h.x
theorem Box4.cells {w1 X : World} {v : Value} {ls : List Int} (h : Box4 w1 v ls X) : (X.cell? ⟨w1.heap.size, 0, none⟩ = some (.int .i64 14) ∧ X.cell? ⟨w1.heap.size, 1, none⟩ = some (.int .i64 0) ∧ X.cell? ⟨w1.heap.size, 2, none⟩ = some (.int .i64 0) ∧ X.cell? ⟨w1.heap.size, 3, none⟩ = some v) ∧ X.frozen? ⟨w1.heap.size, 3, none⟩ = false := by
  refine ⟨⟨?_, ?_, ?_, ?_⟩, ?_⟩ <;> simp [World.cell?, World.frozen?, h.x]
theorem Box4.alloc {w1 X : World} {v : Value} {ls : List Int} (h : Box4 w1 v ls X) (o : Obj) : Box4 w1 v ls (X.alloc o) :=
  ⟨(Below.heap_alloc _ _ _ (heap_in h.x)).trans h.x, h.labels.alloc o, h.low.alloc h.low.size o⟩
theorem Box4.drew {w1 X : World} {v : Value} {ls : List Int} (h : Box4 w1 v ls X) : Box4 w1 v ls X.drew := ⟨h.x, own_below h.labels (Below.refl _ _).drew, h.low.drew⟩
/-- One more label. -/
theorem Box4.more {w1 X Y : World} {v v' : Value} {ls : List Int} {x : Int} (h : Box4 w1 v ls X) (hg : X.grownBy Y v.ownBlock) (hown : Y.ownsRow (w1.heap.size + 1) 3 1 v' (ls.length + 1) (ls.map (Value.int .i64) ++ [.int .i64 x])) : Box4 w1 v' (ls ++ [x]) (Y.setCell ⟨w1.heap.size, 3, none⟩ v') := by
  have hs := h.size
  have hY : Y.heap[w1.heap.size]? = some (.cells #[.int .i64 14, .int .i64 0, .int .i64 0, v] 40) := by
    rw [hg.block _ (by omega) (fun e => by have := (own_ge h.labels _ e.symm).1; omega)]; exact h.x
  refine ⟨heap_setCell_same Y _ 3 _ _ _ hY, ?_, ?_⟩
  · have := ownsRow_setCell_below hown (by show w1.heap.size < w1.heap.size + 1; omega) (a := ⟨w1.heap.size, 3, none⟩) v'
    simpa using this
  · exact (h.low.grown hg h.low.size (fun k e => by have := (own_ge h.labels k e).1; omega)).setCell (Nat.le_refl _) _
theorem Box4.kept {w1 X Y : World} {v : Value} {ls : List Int} (h : Box4 w1 v ls X) (hg : X.grownBy Y v.ownBlock) : Y.cell? ⟨w1.heap.size, 3, none⟩ = some v ∧ Y.frozen? ⟨w1.heap.size, 3, none⟩ = false := by
  have hs := h.size
  have hY : Y.heap[w1.heap.size]? = some (.cells #[.int .i64 14, .int .i64 0, .int .i64 0, v] 40) := by
    rw [hg.block _ (by omega) (fun e => by have := (own_ge h.labels _ e.symm).1; omega)]; exact h.x
  simp [World.cell?, World.frozen?, hY]
def labI (lp : Option Addr) (lc : Nat) (ls : List Int) : InsV := ⟨14, 0, 0, lp, lc, ls⟩
def labE : InsV := ⟨11, 0, 0, none, 0, []⟩
def labF (G : Nat) (lp : Option Addr) (lc : Nat) (ls : List Int) : FnV := ⟨0, ⟨#[]⟩, some ⟨G, 0, none⟩, 2, [labI lp lc ls, labE]⟩
def labV (G : Nat) (lp : Option Addr) (lc : Nat) (ls : List Int) : MoV := ⟨none, 0, [], some ⟨G + 1, 0, none⟩, 1, [labF G lp lc ls], none, 0, [], none, 0, [], none, 0, [], -1, none, 0, []⟩
theorem labV_val (G : Nat) (lp : Option Addr) (lc : Nat) (ls : List Int) : (labV G lp lc ls).val = .agg #[.slice none 0 0, .slice (some ⟨G + 1, 0, none⟩) 1 1, .slice none 0 0, .slice none 0 0, .slice none 0 0, .int .i64 (-1), .slice none 0 0] := rfl
/-- The module, its function, its code, and the labels: each in a block of its own. -/
structure LabAt (w1 : World) (G : Nat) (lp : Option Addr) (lc : Nat) (ls : List Int) (X : World) : Prop where
  x : X.heap[w1.heap.size]? = some (.cells #[.int .i64 14, .int .i64 0, .int .i64 0, .slice lp ls.length lc] 40)
  labels : X.ownsRow (w1.heap.size + 1) 3 1 (.slice lp ls.length lc) ls.length (ls.map (Value.int .i64))
  lt : ∀ g, (Value.slice lp ls.length lc).ownBlock = some g → g < G
  above : w1.heap.size + 1 ≤ G
  g1 : X.heap[G]? = some (.cells #[.int .i64 14, .int .i64 0, .int .i64 0, .slice lp ls.length lc, .int .i64 11, .int .i64 0, .int .i64 0, .slice none 0 0] 40)
  g2 : X.heap[G + 1]? = some (.cells #[.int .i64 0, .string ⟨#[]⟩, .slice (some ⟨G, 0, none⟩) 2 2] 33)
  g3 : X.heap[G + 1 + 1]? = some (.cells #[.slice none 0 0, .slice (some ⟨G + 1, 0, none⟩) 1 1, .slice none 0 0, .slice none 0 0, .slice none 0 0, .int .i64 (-1), .slice none 0 0] 29)
  low : Below w1.heap.size w1 X
  most : ls.length ≤ 50
  small : ∀ y ∈ ls, 0 ≤ y ∧ y ≤ 65536
theorem LabAt.start {w1 wz : World} {lp : Option Addr} {lc : Nat} {ls : List Int} (h : Box4 w1 (.slice lp ls.length lc) ls wz) (hm : ls.length ≤ 50) (hs : ∀ y ∈ ls, 0 ≤ y ∧ y ≤ 65536) : LabAt w1 wz.heap.size lp lc ls (((wz.alloc (.cells #[.int .i64 14, .int .i64 0, .int .i64 0, .slice lp ls.length lc, .int .i64 11, .int .i64 0, .int .i64 0, .slice none 0 0] 40)).alloc (.cells #[.int .i64 0, .string ⟨#[]⟩, .slice (some ⟨wz.heap.size, 0, none⟩) 2 2] 33)).alloc (.cells #[.slice none 0 0, .slice (some ⟨wz.heap.size + 1, 0, none⟩) 1 1, .slice none 0 0, .slice none 0 0, .slice none 0 0, .int .i64 (-1), .slice none 0 0] 29)) := by
  have hz := h.size
  have k : ∀ (w : World) (o : Obj) (b : Nat) (q : Obj), w.heap[b]? = some q → (w.alloc o).heap[b]? = some q := fun w o b q h => by rw [Below.heap_alloc w o b (heap_in h)]; exact h
  have nw : ∀ (w : World) (o : Obj) (b : Nat), w.heap.size = b → (w.alloc o).heap[b]? = some o := fun w o b h => by subst h; exact heap_alloc_new w o
  exact ⟨k _ _ _ _ (k _ _ _ _ (k _ _ _ _ h.x)), ((h.labels.alloc _).alloc _).alloc _, fun g hg => (own_ge h.labels g hg).2, hz, k _ _ _ _ (k _ _ _ _ (nw _ _ _ rfl)), k _ _ _ _ (nw _ _ _ (by simp)), nw _ _ _ (by simp), ((h.low.alloc h.low.size _).alloc (by simp; omega) _).alloc (by simp; omega) _, hm, hs⟩
theorem LabAt.below {w1 X Y : World} {G : Nat} {lp : Option Addr} {lc : Nat} {ls : List Int} (h : LabAt w1 G lp lc ls X) (hb : Below X.heap.size X Y) : LabAt w1 G lp lc ls Y :=
  { h with x := (hb.block _ (heap_in h.x)).trans h.x, labels := own_below h.labels hb, g1 := (hb.block _ (heap_in h.g1)).trans h.g1, g2 := (hb.block _ (heap_in h.g2)).trans h.g2, g3 := (hb.block _ (heap_in h.g3)).trans h.g3, low := belt h.low (Nat.le_refl _) hb }
theorem LabAt.ints {w1 X : World} {G : Nat} {lp : Option Addr} {lc : Nat} {ls : List Int} (h : LabAt w1 G lp lc ls X) : IntsAt X lp ls := fun j hj => by
  obtain ⟨b, o, hp, hb, hc⟩ := rows_own (row := Int.row4) (l := ls) (by rw [row4_map]; exact h.labels) rfl (fun _ _ => rfl) j hj 0 (.int .i64 ls[j]) rfl
  exact ⟨b, o, hp, hb, by simpa using hc⟩
theorem LabAt.code {w1 X : World} {G : Nat} {lp : Option Addr} {lc : Nat} {ls : List Int} (h : LabAt w1 G lp lc ls X) : CodeAt X (some ⟨G, 0, none⟩) [labI lp lc ls, labE] := by
  have hm := h.most
  refine ⟨rows_block h.g1 rfl (fun _ _ => rfl), fun x hx => ?_, by simp⟩
  rcases List.mem_cons.1 hx with rfl | hx
  · exact ⟨h.ints, by show ls.length ≤ _; omega, by show inI64 14; decide, by show inI64 0; decide, by show inI64 0; decide, fun n hn => by have := h.small n hn; unfold inI64; omega⟩
  · rw [List.mem_singleton.1 hx]
    exact ⟨fun j hj => absurd hj (by simp [labE]), by simp [labE], by show inI64 11; decide, by show inI64 0; decide, by show inI64 0; decide, fun n hn => by simp [labE] at hn⟩
theorem LabAt.modAt {w1 X : World} {G : Nat} {lp : Option Addr} {lc : Nat} {ls : List Int} (h : LabAt w1 G lp lc ls X) : ModAt X (labV G lp lc ls) where
  types := RowsAt.nil
  typesIn := fun t ht => by cases ht
  typesMost := by show 0 ≤ mostThings; decide
  funcs := rows_block h.g2 rfl (fun _ _ => rfl)
  funcsIn := by intro f hf; rw [List.mem_singleton.1 hf]; exact ⟨h.code, (by show 0 ≤ maxLen; decide), (by show inI64 0; decide)⟩
  funcsMost := by show 1 ≤ mostThings; decide
  memory := RowsAt.nil
  memoryIn := fun t ht => by cases ht
  memoryMost := by show 0 ≤ mostThings; decide
  globals := RowsAt.nil
  globalsIn := fun t ht => by cases ht
  globalsMost := by show 0 ≤ mostThings; decide
  exports := RowsAt.nil
  exportsIn := fun t ht => by cases ht
  exportsMost := by show 0 ≤ mostThings; decide
  startIn := by show inI64 (-1); decide
  data := RowsAt.nil
  dataIn := fun t ht => by cases ht
  dataMost := by show 0 ≤ mostThings; decide
theorem LabAt.okMod {w1 X : World} {G : Nat} {lp : Option Addr} {lc : Nat} {ls : List Int} (h : LabAt w1 G lp lc ls X) : OkMod X (labV G lp lc ls) (labF G lp lc ls) where
  one := rfl
  at0 := h.modAt
  types := ⟨by show 0 ≤ 1000000; decide, fun _ => rfl⟩
  funcs := fun e => by cases e
  memory := ⟨by show 0 ≤ 1000000; decide, fun _ => rfl⟩
  globals := ⟨by show 0 ≤ 1000000; decide, fun _ => rfl⟩
  exports := ⟨by show 0 ≤ 1000000; decide, fun _ => rfl⟩
  data := ⟨by show 0 ≤ 1000000; decide, fun _ => rfl⟩
  tyIn := fun t ht => by cases ht
  exIn := fun t ht => by cases ht
  daIn := fun t ht => by cases ht
  fn := by
    refine ⟨h.code.1, (fun e => by cases e), by show 2 ≤ 1000000; decide, by show 0 ≤ 281474976710656; decide, fun x hx => ?_⟩
    rcases List.mem_cons.1 hx with rfl | hx
    · exact ⟨h.ints, own_cap h.labels, by have := h.most; show ls.length ≤ 1000000; omega⟩
    · rw [List.mem_singleton.1 hx]
      exact ⟨fun j hj => absurd hj (by simp [labE]), fun _ => rfl, by simp [labE]⟩
  some1 := fun e => by cases e
/-- .. and its copy. -/
structure LabC (w1 : World) (G : Nat) (lp : Option Addr) (lc : Nat) (ls : List Int) (vc : Array Value) (Z B T : Nat) (m : MoV) (f : FnV) (gf gk : Nat) (X : World) : Prop where
  lab : LabAt w1 G lp lc ls X
  own : ∃ b1 b2 bc b3 b4 b5 b6, Own1 X b1 b2 bc b3 b4 b5 b6 T m f ∧ B ≤ b1
  fine : Fine m f
  fp : m.fp = some ⟨gf, 0, none⟩
  cp : f.cp = some ⟨gk, 0, none⟩
  len : f.code.length = 2
  z : X.heap[Z]? = some (.cells vc 29)
  gB : G + 3 ≤ B
  tZ : T ≤ Z
theorem LabC.below {w1 X Y : World} {G : Nat} {lp : Option Addr} {lc : Nat} {ls : List Int} {vc : Array Value} {Z B T : Nat} {m : MoV} {f : FnV} {gf gk : Nat} (h : LabC w1 G lp lc ls vc Z B T m f gf gk X) (hb : Below X.heap.size X Y) : LabC w1 G lp lc ls vc Z B T m f gf gk Y := by
  obtain ⟨b1, b2, bc, b3, b4, b5, b6, ho, hB⟩ := h.own
  exact { h with lab := h.lab.below hb, own := ⟨b1, b2, bc, b3, b4, b5, b6, ho.below hb, hB⟩, z := (hb.block _ (heap_in h.z)).trans h.z }
theorem LabC.at {w1 X : World} {G : Nat} {lp : Option Addr} {lc : Nat} {ls : List Int} {vc : Array Value} {Z B T : Nat} {m : MoV} {f : FnV} {gf gk : Nat} (h : LabC w1 G lp lc ls vc Z B T m f gf gk X) : ModAt X m := by
  obtain ⟨b1, b2, bc, b3, b4, b5, b6, ho, hB⟩ := h.own
  exact ho.modAt h.fine
/-- The first label is another one: of the module, not of the copy. -/
theorem LabC.turn {w1 X : World} {G : Nat} {lg lc : Nat} {y : Int} {rest : List Int} {vc : Array Value} {Z B T : Nat} {m : MoV} {f : FnV} {gf gk : Nat} (h : LabC w1 G (some ⟨lg, 0, none⟩) lc (y :: rest) vc Z B T m f gf gk X) (hy : y + 1 ≤ 65536) : LabC w1 G (some ⟨lg, 0, none⟩) lc ((y + 1) :: rest) vc Z B T m f gf gk (X.setCell ⟨lg, 0, none⟩ (.int .i64 (y + 1))) := by
  have hg1 := (own_ge h.lab.labels lg rfl).1
  have hg2 := h.lab.lt lg rfl
  have hB := h.gB; have hT := h.tZ
  have hgr := cell_grow1 X lg 0 (.int .i64 (y + 1))
  obtain ⟨b1, b2, bc, b3, b4, b5, b6, ho, hB1⟩ := h.own
  have h1 := ho.o1; have h2 := ho.o2; have h3 := ho.oc; have h4 := ho.o3; have h5 := ho.o4; have h6 := ho.o5; have h7 := ho.o6
  have hs := (h.lab.labels.stored 0 (.int .i64 (y + 1))).1
  have ks : ∀ b : Nat, b ≠ lg → (X.setCell ⟨lg, 0, none⟩ (.int .i64 (y + 1))).heap[b]? = X.heap[b]? := fun b hb => Below.heap_setCell X _ _ b hb
  have hlab : LabAt w1 G (some ⟨lg, 0, none⟩) lc ((y + 1) :: rest) (X.setCell ⟨lg, 0, none⟩ (.int .i64 (y + 1))) :=
    ⟨(ks _ (by omega)).trans h.lab.x, hs, h.lab.lt, h.lab.above, (ks _ (by omega)).trans h.lab.g1, (ks _ (by omega)).trans h.lab.g2, (ks _ (by omega)).trans h.lab.g3, h.lab.low.setCell (by show w1.heap.size ≤ lg; omega) _, h.lab.most, fun z hz => by
      rcases List.mem_cons.1 hz with rfl | hz
      · have := h.lab.small y (by simp); omega
      · exact h.lab.small z (by simp [hz])⟩
  exact { h with lab := hlab, own := ⟨b1, b2, bc, b3, b4, b5, b6, ho.on hgr (by omega), hB1⟩, z := (ks _ (by omega)).trans h.z }
theorem LabC.first {w1 X : World} {G : Nat} {lg lc : Nat} {y : Int} {rest : List Int} {vc : Array Value} {Z B T : Nat} {m : MoV} {f : FnV} {gf gk : Nat} (h : LabC w1 G (some ⟨lg, 0, none⟩) lc (y :: rest) vc Z B T m f gf gk X) : X.cell? ⟨lg, 0, none⟩ = some (.int .i64 y) ∧ X.frozen? ⟨lg, 0, none⟩ = false ∧ w1.heap.size < lg ∧ lg < G ∧ lg < Z := by
  have hg1 := (own_ge h.lab.labels lg rfl).1
  have hg2 := h.lab.lt lg rfl
  have hB := h.gB; have hT := h.tZ
  obtain ⟨b1, b2, bc, b3, b4, b5, b6, ho, hB1⟩ := h.own
  have h1 := ho.o1; have h2 := ho.o2; have h3 := ho.oc; have h4 := ho.o3; have h5 := ho.o4; have h6 := ho.o5; have h7 := ho.o6
  exact ⟨(h.lab.labels.cellAt 0 (by simp)).trans rfl, h.lab.labels.frozenAt 0, by omega, hg2, by omega⟩
/-- What a walk reads. -/
theorem LabC.cells {w1 X : World} {G : Nat} {lp : Option Addr} {lc : Nat} {ls : List Int} {v0 v1 v2 v3 v4 v5 v6 : Value} {Z B T : Nat} {m : MoV} {f : FnV} {gf gk : Nat} (h : LabC w1 G lp lc ls #[v0, v1, v2, v3, v4, v5, v6] Z B T m f gf gk X) :
    X.cell? ⟨w1.heap.size, 3, none⟩ = some (.slice lp ls.length lc) ∧ (X.cell? ⟨G + 1 + 1, 0, none⟩ = some (.slice none 0 0) ∧ X.cell? ⟨G + 1 + 1, 1, none⟩ = some (.slice (some ⟨G + 1, 0, none⟩) 1 1) ∧ X.cell? ⟨G + 1 + 1, 2, none⟩ = some (.slice none 0 0) ∧ X.cell? ⟨G + 1 + 1, 3, none⟩ = some (.slice none 0 0) ∧ X.cell? ⟨G + 1 + 1, 4, none⟩ = some (.slice none 0 0) ∧ X.cell? ⟨G + 1 + 1, 5, none⟩ = some (.int .i64 (-1)) ∧ X.cell? ⟨G + 1 + 1, 6, none⟩ = some (.slice none 0 0)) ∧ (X.cell? ⟨Z, 0, none⟩ = some v0 ∧ X.cell? ⟨Z, 1, none⟩ = some v1 ∧ X.cell? ⟨Z, 2, none⟩ = some v2 ∧ X.cell? ⟨Z, 3, none⟩ = some v3 ∧ X.cell? ⟨Z, 4, none⟩ = some v4 ∧ X.cell? ⟨Z, 5, none⟩ = some v5 ∧ X.cell? ⟨Z, 6, none⟩ = some v6) ∧ X.cell? ⟨gf, 2, none⟩ = some (.slice (some ⟨gk, 0, none⟩) 2 f.cc) := by
  obtain ⟨b1, b2, bc, b3, b4, b5, b6, ho, hB1⟩ := h.own
  have hr := rows_own (l := [f]) (n := 1) (row := FnV.row) (by simpa using ho.funcs.1) rfl (fun _ _ => rfl)
  rw [h.fp] at hr
  have hc := hr.cell (j := 0) (by simp) 2 (v := .slice f.cp f.code.length f.cc) rfl
  rw [h.cp, h.len] at hc
  refine ⟨by simp [World.cell?, h.lab.x], box_seven h.lab.g3, box_seven h.z, by simpa using hc⟩
theorem LabC.start {w1 W3 w4 : World} {G : Nat} {lp : Option Addr} {lc : Nat} {ls : List Int} (h : LabAt w1 G lp lc ls W3) (hG : W3.heap.size = G + 3) {m : MoV} {f : FnV} {b1 b2 bc b3 b4 b5 b6 : Nat} (hlo : W3.heap.size ≤ b1) (hO : Own1 w4 b1 b2 bc b3 b4 b5 b6 w4.heap.size m f) (hL : Like (labV G lp lc ls) m (labF G lp lc ls) f) (hb : Below W3.heap.size W3 w4) :
    ∃ gf gk, m.val = .agg #[.slice m.tp 0 m.tc, .slice (some ⟨gf, 0, none⟩) 1 m.fc, .slice m.mp 0 m.mc, .slice m.gp 0 m.gc, .slice m.ep 0 m.ec, .int .i64 (-1), .slice m.dp 0 m.dc] ∧ ∀ vc, LabC w1 G lp lc ls vc w4.heap.size W3.heap.size w4.heap.size m f gf gk (w4.alloc (.cells vc 29)) := by
  have hn : f.code.length = 2 := hL.len
  obtain ⟨gf, h1, _⟩ := own_nil hO.funcs.1 (by omega)
  obtain ⟨gk, h2, _⟩ := own_nil hO.code.1 (by omega)
  refine ⟨gf, gk, ?_, fun vc => ?_⟩
  · unfold MoV.val
    rw [hL.types, hO.one, hL.memory, hL.globals, hL.exports, hL.start, hL.data, h1]; rfl
  · have hb5 : Below w4.heap.size w4 (w4.alloc (.cells vc 29)) := (Below.refl _ _).alloc (Nat.le_refl _) _
    exact ⟨(h.below hb).below hb5, ⟨_, _, _, _, _, _, _, hO.below hb5, hlo⟩, Fine.of h.modAt rfl hO.one hL, h1, h2, hn, heap_alloc_new _ _, by omega, Nat.le_refl _⟩
theorem same_lab {G : Nat} {lp : Option Addr} {lc : Nat} {y : Int} {rest : List Int} {m : MoV} {f : FnV} (hone : m.funcs = [f]) (hL : Like (labV G lp lc (y :: rest)) m (labF G lp lc (y :: rest)) f) : sameMod (labV G lp lc ((y + 1) :: rest)) m = false := by
  have hn : f.code.length = 2 := hL.len
  have hls := (hL.code 0 (by show 0 < 2; omega) (by omega)).2.2.2
  have hc : sameCode (labF G lp lc ((y + 1) :: rest)).code f.code = false := by
    rw [← sameL_code]
    refine sameL_not 0 (by show 0 < 2; omega) (by omega) ?_
    have e : f.code[0].ls = y :: rest := hls
    refine decide_eq_false fun h => ?_
    have h4 : (y + 1) :: rest = f.code[0].ls := h.2.2.2
    rw [e] at h4
    injection h4 with h4
    omega
  unfold sameMod
  rw [hone]
  simp [labV, sameL, sameFn, hc]
theorem keep_15 {W W' : World} {B C D : Nat} {u u0 u1 u2 u3 u4 u5 u6 v0 v1 v2 v3 v4 v5 v6 : Value} (hb : Below W.heap.size W W') (h : W.cell? ⟨D, 3, none⟩ = some u ∧ (W.cell? ⟨B, 0, none⟩ = some u0 ∧ W.cell? ⟨B, 1, none⟩ = some u1 ∧ W.cell? ⟨B, 2, none⟩ = some u2 ∧ W.cell? ⟨B, 3, none⟩ = some u3 ∧ W.cell? ⟨B, 4, none⟩ = some u4 ∧ W.cell? ⟨B, 5, none⟩ = some u5 ∧ W.cell? ⟨B, 6, none⟩ = some u6) ∧ (W.cell? ⟨C, 0, none⟩ = some v0 ∧ W.cell? ⟨C, 1, none⟩ = some v1 ∧ W.cell? ⟨C, 2, none⟩ = some v2 ∧ W.cell? ⟨C, 3, none⟩ = some v3 ∧ W.cell? ⟨C, 4, none⟩ = some v4 ∧ W.cell? ⟨C, 5, none⟩ = some v5 ∧ W.cell? ⟨C, 6, none⟩ = some v6)) :
    W'.cell? ⟨D, 3, none⟩ = some u ∧ (W'.cell? ⟨B, 0, none⟩ = some u0 ∧ W'.cell? ⟨B, 1, none⟩ = some u1 ∧ W'.cell? ⟨B, 2, none⟩ = some u2 ∧ W'.cell? ⟨B, 3, none⟩ = some u3 ∧ W'.cell? ⟨B, 4, none⟩ = some u4 ∧ W'.cell? ⟨B, 5, none⟩ = some u5 ∧ W'.cell? ⟨B, 6, none⟩ = some u6) ∧ (W'.cell? ⟨C, 0, none⟩ = some v0 ∧ W'.cell? ⟨C, 1, none⟩ = some v1 ∧ W'.cell? ⟨C, 2, none⟩ = some v2 ∧ W'.cell? ⟨C, 3, none⟩ = some v3 ∧ W'.cell? ⟨C, 4, none⟩ = some v4 ∧ W'.cell? ⟨C, 5, none⟩ = some v5 ∧ W'.cell? ⟨C, 6, none⟩ = some v6) := by
  obtain ⟨h, hu, hv⟩ := h
  exact ⟨cell_below h hb, keep_7 hb hu, keep_7 hb hv⟩
end Go.Proofs.YtnonedmkdcbmfaaGreatDoor
