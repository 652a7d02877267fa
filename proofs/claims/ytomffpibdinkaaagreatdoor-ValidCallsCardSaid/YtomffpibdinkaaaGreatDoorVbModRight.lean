/-
  Facts and contracts that the proof calls.
-/
import Derived.Test.YtomffpibdinkaaaGreatDoorVbModClos
import Derived.Laws.EntriesVeiled
import Derived.Test.YtomffpibdinkaaaGreatDoorVbModDoesB
namespace Go.Proofs.YtomffpibdinkaaaGreatDoor
set_option maxRecDepth 100000
set_option maxHeartbeats 16000000
open Go.RowKit
structure RIn (w0 : World) (cs : Array Value) (a3 a4 a5 a6 a7 a8 : Nat) (l3 l4 l5 l6 l7 l8 : Array Value) (W : World) : Prop where
  base : Below w0.heap.size w0 W
  in0 : w0.heap.size < W.heap.size
  box : ∀ j, W.cell? ⟨w0.heap.size, j, none⟩ = cs[j]?
  c3 : W.cell? ⟨a3, 0, none⟩ = some (.func (.func 58) #[] l3)
  c4 : W.cell? ⟨a4, 0, none⟩ = some (.func (.func 58) #[] l4)
  c5 : W.cell? ⟨a5, 0, none⟩ = some (.func (.func 58) #[] l5)
  c6 : W.cell? ⟨a6, 0, none⟩ = some (.func (.func 59) #[] l6)
  c7 : W.cell? ⟨a7, 0, none⟩ = some (.func (.func 59) #[] l7)
  c8 : W.cell? ⟨a8, 0, none⟩ = some (.func (.func 59) #[] l8)
  s3 : Says 58 l3 (.int .i64) anyInt (within 0 4294967295) W
  s4 : Says 58 l4 (.int .i64) anyInt (within (-1) 4294967295) W
  s5 : Says 58 l5 (.int .i64) anyInt (within (-2147483648) 2147483647) W
  s6 : Says 59 l6 .string anyStr (fun s => vtypes s.data.toList 4096) W
  s7 : Says 59 l7 .string anyStr (fun s => vtypes s.data.toList 1) W
  s8 : Says 59 l8 .string anyStr (fun s => vtypes s.data.toList 4096) W
theorem RIn.below {w0 W W' : World} {cs : Array Value} {a3 a4 a5 a6 a7 a8 : Nat} {l3 l4 l5 l6 l7 l8 : Array Value} (h : RIn w0 cs a3 a4 a5 a6 a7 a8 l3 l4 l5 l6 l7 l8 W) (hb : Below W.heap.size W W') : RIn w0 cs a3 a4 a5 a6 a7 a8 l3 l4 l5 l6 l7 l8 W' :=
  ⟨h.base.trans (hb.mono h.base.size), Nat.lt_of_lt_of_le h.in0 hb.size, fun j => (hb.cell (p := ⟨w0.heap.size, j, none⟩) h.in0).trans (h.box j), (hb.cell (p := ⟨a3, 0, none⟩) (in_heap h.c3)).trans h.c3, (hb.cell (p := ⟨a4, 0, none⟩) (in_heap h.c4)).trans h.c4, (hb.cell (p := ⟨a5, 0, none⟩) (in_heap h.c5)).trans h.c5, (hb.cell (p := ⟨a6, 0, none⟩) (in_heap h.c6)).trans h.c6, (hb.cell (p := ⟨a7, 0, none⟩) (in_heap h.c7)).trans h.c7, (hb.cell (p := ⟨a8, 0, none⟩) (in_heap h.c8)).trans h.c8, h.s3.later hb, h.s4.later hb, h.s5.later hb, h.s6.later hb, h.s7.later hb, h.s8.later hb⟩
theorem cell_below {W W' : World} {b o : Nat} {v : Value} (h : W.cell? ⟨b, o, none⟩ = some v) (hb : Below W.heap.size W W') : W'.cell? ⟨b, o, none⟩ = some v := (hb.cell (p := ⟨b, o, none⟩) (in_heap h)).trans h
theorem alloc_below (w : World) (o : Obj) : Below w.heap.size w (w.alloc o) := (Below.refl _ w).alloc (Nat.le_refl _) o
theorem rin_made {w w1 w2 w3 w4 w5 w6 : World} {cs : Array Value} {t t65 t36 : TypeId} {l3 l4 l5 l6 l7 l8 : Array Value} {W0 W1 W2 W6 : World}
    (h0 : W0 = w.alloc (.cells cs t)) (hb1 : Below W0.heap.size W0 w1) (hb2 : Below w1.heap.size w1 w2)
    (h1 : W1 = (w2.alloc (.cells #[.func (.func 58) #[] l3] t65)).alloc (.cells #[.func (.func 58) #[] l4] t65)) (hb3 : Below W1.heap.size W1 w3)
    (h2 : W2 = w3.alloc (.cells #[.func (.func 58) #[] l5] t65)) (hb4 : Below W2.heap.size W2 w4) (hb5 : Below w4.heap.size w4 w5) (hb6 : Below w5.heap.size w5 w6)
    (h6 : W6 = ((w6.alloc (.cells #[.func (.func 59) #[] l6] t36)).alloc (.cells #[.func (.func 59) #[] l7] t36)).alloc (.cells #[.func (.func 59) #[] l8] t36))
    (s3 : Says 58 l3 (.int .i64) anyInt (within 0 4294967295) w1)
    (s4 : Says 58 l4 (.int .i64) anyInt (within (-1) 4294967295) w2)
    (s5 : Says 58 l5 (.int .i64) anyInt (within (-2147483648) 2147483647) w3)
    (s6 : Says 59 l6 .string anyStr (fun s => vtypes s.data.toList 4096) w4)
    (s7 : Says 59 l7 .string anyStr (fun s => vtypes s.data.toList 1) w5)
    (s8 : Says 59 l8 .string anyStr (fun s => vtypes s.data.toList 4096) w6) :
    RIn w cs w2.heap.size (w2.heap.size + 1) w3.heap.size w6.heap.size (w6.heap.size + 1) (w6.heap.size + 1 + 1) l3 l4 l5 l6 l7 l8 W6 := by
  have bW6 : Below w6.heap.size w6 W6 := by
    rw [h6]; exact (((Below.refl _ w6).alloc (Nat.le_refl _) _).alloc (by simp) _).alloc (by simp; omega) _
  have b5 := bnext hb6 hb6.size bW6
  have b5' : Below w5.heap.size w5 W6 := hb6.trans (bW6.mono hb6.size)
  have b4 : Below w4.heap.size w4 W6 := hb5.trans (b5'.mono hb5.size)
  have b2 : Below W2.heap.size W2 W6 := hb4.trans (b4.mono hb4.size)
  have b3 : Below w3.heap.size w3 W6 := (by rw [h2]; exact alloc_below w3 _ : Below w3.heap.size w3 W2).trans (b2.mono (by rw [h2]; simp))
  have b1 : Below W1.heap.size W1 W6 := hb3.trans (b3.mono hb3.size)
  have bw2 : Below w2.heap.size w2 W6 := (by rw [h1]; exact ((Below.refl _ w2).alloc (Nat.le_refl _) _).alloc (by simp) _ : Below w2.heap.size w2 W1).trans (b1.mono (by rw [h1]; simp; omega))
  have bw1 : Below w1.heap.size w1 W6 := hb2.trans (bw2.mono hb2.size)
  have b0 : Below W0.heap.size W0 W6 := hb1.trans (bw1.mono hb1.size)
  have bw : Below w.heap.size w W6 := (by rw [h0]; exact alloc_below w _ : Below w.heap.size w W0).trans (b0.mono (by rw [h0]; simp))
  have hW0 : w.heap.size < W0.heap.size := by rw [h0]; simp
  refine ⟨bw, Nat.lt_of_lt_of_le hW0 b0.size, fun j => ?_, ?_, ?_, ?_, ?_, ?_, ?_, s3.later bw1, s4.later bw2, s5.later b3, s6.later b4, s7.later b5', s8.later bW6⟩
  · rw [b0.cell (p := ⟨w.heap.size, j, none⟩) hW0, h0, World.cell?_alloc_new]
  · refine cell_below ?_ b1; rw [h1, World.cell?_alloc_lt _ _ _ (by simp), World.cell?_alloc_new]; rfl
  · refine cell_below ?_ b1; rw [h1, show w2.heap.size + 1 = (w2.alloc (.cells #[.func (.func 58) #[] l3] t65)).heap.size by simp, World.cell?_alloc_new]; rfl
  · refine cell_below ?_ b2; rw [h2, World.cell?_alloc_new]; rfl
  · rw [h6, World.cell?_alloc_lt _ _ _ (by simp; omega), World.cell?_alloc_lt _ _ _ (by simp), World.cell?_alloc_new]; rfl
  · rw [h6, World.cell?_alloc_lt _ _ _ (by simp), show w6.heap.size + 1 = (w6.alloc (.cells #[.func (.func 59) #[] l6] t36)).heap.size by simp, World.cell?_alloc_new]; rfl
  · rw [h6, show w6.heap.size + 1 + 1 = ((w6.alloc (.cells #[.func (.func 59) #[] l6] t36)).alloc (.cells #[.func (.func 59) #[] l7] t36)).heap.size by simp, World.cell?_alloc_new]; rfl
theorem within_word (n : Int) : within 0 4294967295 n = word4 n := by unfold within word4; rw [decide_eq_decide]; omega
theorem within_none (n : Int) : within (-1) 4294967295 n = (decide (n = -1) || word4 n) := by unfold within word4; rw [Bool.eq_iff_iff]; simp; omega
theorem within_small (n : Int) : within (-2147483648) 2147483647 n = small4 n := by unfold within small4; rw [decide_eq_decide]; omega
def right7 (m : MoV) : Bool := within (-1) 4294967295 m.start && ((decide (m.types.length ≤ 4096) && m.types.all rightTy) && ((decide (m.memory.length ≤ 4096) && m.memory.all rightMem) && ((decide (m.globals.length ≤ 4096) && m.globals.all rightGlob) && ((decide (m.exports.length ≤ 4096) && m.exports.all rightExp) && ((decide (m.data.length ≤ 4096) && m.data.all rightDat) && (decide (m.funcs.length ≤ 4096) && m.funcs.all rightFn))))))
theorem right7_is (m : MoV) : right7 m = rightMod m := by
  unfold right7 rightMod fewMod
  rw [within_none, Bool.eq_iff_iff]
  simp only [Bool.and_eq_true, Bool.or_eq_true, decide_eq_true_eq]
  grind
theorem rf_is : (fun f : FnV => within 0 4294967295 f.type && (vtypes f.locals.data.toList 4096 && (runs (opsOf f.code) [] && f.code.all rightIns))) = rightFn := by
  funext f; unfold rightFn; rw [within_word, Bool.eq_iff_iff]; simp only [Bool.and_eq_true]; grind
theorem RIn.fields {w W : World} {c0 c1 c2 c3 c4 c5 c6 : Value} {a3 a4 a5 a6 a7 a8 : Nat} {l3 l4 l5 l6 l7 l8 : Array Value} (h : RIn w #[c0, c1, c2, c3, c4, c5, c6] a3 a4 a5 a6 a7 a8 l3 l4 l5 l6 l7 l8 W) :
    W.cell? ⟨w.heap.size, 0, none⟩ = some c0 ∧ W.cell? ⟨w.heap.size, 1, none⟩ = some c1 ∧ W.cell? ⟨w.heap.size, 2, none⟩ = some c2 ∧ W.cell? ⟨w.heap.size, 3, none⟩ = some c3 ∧ W.cell? ⟨w.heap.size, 4, none⟩ = some c4 ∧ W.cell? ⟨w.heap.size, 5, none⟩ = some c5 ∧ W.cell? ⟨w.heap.size, 6, none⟩ = some c6 :=
  ⟨h.box 0, h.box 1, h.box 2, h.box 3, h.box 4, h.box 5, h.box 6⟩
theorem Says.congr {α : Type} {g : Nat} {lb : Array Value} {val : α → Value} {ok : World → α → Prop} {p q : α → Bool} {w0 : World} (h : Says g lb val ok p w0) (e : p = q) : Says g lb val ok q w0 := e ▸ h
theorem enters_r1 : ∀ args w, (callFunc 36 args).run Tryz.prog w = .ok (.enter 36 args) w := enters_of Tryz.func36 (by kernel_rfl) rfl
theorem right_types {w : World} (_ : Laid w) {m : MoV} (hm : ModAt w m) {cs : Array Value} (a3 a4 a5 a6 a7 a8 : Nat) (l3 l4 l5 l6 l7 l8 : Array Value) (W : World) (h : RIn w cs a3 a4 a5 a6 a7 a8 l3 l4 l5 l6 l7 l8 W) :
    Calls Tryz.prog 35 #[.slice m.tp m.types.length m.tc, .func (.func 36) #[] #[.pointer (some ⟨a6, 0, none⟩), .pointer (some ⟨a7, 0, none⟩)]] W fun e w' => e = .returned (.bool (decide (m.types.length ≤ 4096) && m.types.all rightTy)) ∧ Below W.heap.size W w' := by
  have hs := (r1_says W a6 a7 l6 l7 _ _ h.c6 h.c7 h.s6 h.s7).congr (q := rightTy) (rfl)
  exact short_TyV hs enters_r1 m.tp _ m.tc m.types rfl (by have := hm.typesMost; unfold mostThings at this; omega) W (Below.refl _ _) (hm.types.below h.base (Nat.le_refl _)) (fun x hx => hm.typesIn x hx)
theorem enters_r2 : ∀ args w, (callFunc 38 args).run Tryz.prog w = .ok (.enter 38 args) w := enters_of Tryz.func38 (by kernel_rfl) rfl
theorem right_memory {w : World} (_ : Laid w) {m : MoV} (hm : ModAt w m) {cs : Array Value} (a3 a4 a5 a6 a7 a8 : Nat) (l3 l4 l5 l6 l7 l8 : Array Value) (W : World) (h : RIn w cs a3 a4 a5 a6 a7 a8 l3 l4 l5 l6 l7 l8 W) :
    Calls Tryz.prog 37 #[.slice m.mp m.memory.length m.mc, .func (.func 38) #[] #[.pointer (some ⟨a3, 0, none⟩), .pointer (some ⟨a4, 0, none⟩)]] W fun e w' => e = .returned (.bool (decide (m.memory.length ≤ 4096) && m.memory.all rightMem)) ∧ Below W.heap.size W w' := by
  have hs := (r2_says W a3 a4 l3 l4 _ _ h.c3 h.c4 h.s3 h.s4).congr (q := rightMem) (by funext x; simp only [rightMem, within_word, within_none])
  exact short_MemV hs enters_r2 m.mp _ m.mc m.memory rfl (by have := hm.memoryMost; unfold mostThings at this; omega) W (Below.refl _ _) (hm.memory.below h.base (Nat.le_refl _)) (fun x hx => hm.memoryIn x hx)
theorem enters_r3 : ∀ args w, (callFunc 40 args).run Tryz.prog w = .ok (.enter 40 args) w := enters_of Tryz.func40 (by kernel_rfl) rfl
theorem right_globals {w : World} (_ : Laid w) {m : MoV} (hm : ModAt w m) {cs : Array Value} (a3 a4 a5 a6 a7 a8 : Nat) (l3 l4 l5 l6 l7 l8 : Array Value) (W : World) (h : RIn w cs a3 a4 a5 a6 a7 a8 l3 l4 l5 l6 l7 l8 W) :
    Calls Tryz.prog 39 #[.slice m.gp m.globals.length m.gc, .func (.func 40) #[] #[.pointer (some ⟨a5, 0, none⟩)]] W fun e w' => e = .returned (.bool (decide (m.globals.length ≤ 4096) && m.globals.all rightGlob)) ∧ Below W.heap.size W w' := by
  have hs := (r3_says W a5 l5 _ h.c5 h.s5).congr (q := rightGlob) (by funext x; simp only [rightGlob, within_small])
  exact short_GlobV hs enters_r3 m.gp _ m.gc m.globals rfl (by have := hm.globalsMost; unfold mostThings at this; omega) W (Below.refl _ _) (hm.globals.below h.base (Nat.le_refl _)) (fun x hx => hm.globalsIn x hx)
theorem enters_r4 : ∀ args w, (callFunc 42 args).run Tryz.prog w = .ok (.enter 42 args) w := enters_of Tryz.func42 (by kernel_rfl) rfl
theorem right_exports {w : World} (hL : Laid w) {m : MoV} (hm : ModAt w m) {cs : Array Value} (a3 a4 a5 a6 a7 a8 : Nat) (l3 l4 l5 l6 l7 l8 : Array Value) (W : World) (h : RIn w cs a3 a4 a5 a6 a7 a8 l3 l4 l5 l6 l7 l8 W) :
    Calls Tryz.prog 41 #[.slice m.ep m.exports.length m.ec, .func (.func 42) #[] #[.pointer (some ⟨a3, 0, none⟩)]] W fun e w' => e = .returned (.bool (decide (m.exports.length ≤ 4096) && m.exports.all rightExp)) ∧ Below W.heap.size W w' := by
  have hs := (r4_says W (hL.below h.base) a3 l3 _ h.c3 h.s3).congr (q := rightExp) (by funext x; simp only [rightExp, within_word])
  exact short_ExpV hs enters_r4 m.ep _ m.ec m.exports rfl (by have := hm.exportsMost; unfold mostThings at this; omega) W (Below.refl _ _) (hm.exports.below h.base (Nat.le_refl _)) (fun x hx => hm.exportsIn x hx)
theorem enters_r5 : ∀ args w, (callFunc 46 args).run Tryz.prog w = .ok (.enter 46 args) w := enters_of Tryz.func46 (by kernel_rfl) rfl
theorem right_data {w : World} (_ : Laid w) {m : MoV} (hm : ModAt w m) {cs : Array Value} (a3 a4 a5 a6 a7 a8 : Nat) (l3 l4 l5 l6 l7 l8 : Array Value) (W : World) (h : RIn w cs a3 a4 a5 a6 a7 a8 l3 l4 l5 l6 l7 l8 W) :
    Calls Tryz.prog 45 #[.slice m.dp m.data.length m.dc, .func (.func 46) #[] #[.pointer (some ⟨a5, 0, none⟩)]] W fun e w' => e = .returned (.bool (decide (m.data.length ≤ 4096) && m.data.all rightDat)) ∧ Below W.heap.size W w' := by
  have hs := (r5_says W a5 l5 _ h.c5 h.s5).congr (q := rightDat) (by funext x; simp only [rightDat, within_small])
  exact short_DatV hs enters_r5 m.dp _ m.dc m.data rfl (by have := hm.dataMost; unfold mostThings at this; omega) W (Below.refl _ _) (hm.data.below h.base (Nat.le_refl _)) (fun x hx => hm.dataIn x hx)
theorem enters_r6 : ∀ args w, (callFunc 48 args).run Tryz.prog w = .ok (.enter 48 args) w := enters_of Tryz.func48 (by kernel_rfl) rfl
theorem right_funcs {w : World} (hL : Laid w) {m : MoV} (hm : ModAt w m) {cs : Array Value} (a3 a4 a5 a6 a7 a8 : Nat) (l3 l4 l5 l6 l7 l8 : Array Value) (W : World) (h : RIn w cs a3 a4 a5 a6 a7 a8 l3 l4 l5 l6 l7 l8 W) :
    Calls Tryz.prog 47 #[.slice m.fp m.funcs.length m.fc, .func (.func 48) #[] #[.pointer (some ⟨a3, 0, none⟩), .pointer (some ⟨a8, 0, none⟩)]] W fun e w' => e = .returned (.bool (decide (m.funcs.length ≤ 4096) && m.funcs.all rightFn)) ∧ Below W.heap.size W w' := by
  have hs := (r6_says W (hL.below h.base) a3 a8 l3 l8 _ _ h.c3 h.c8 h.s3 h.s8).congr (q := rightFn) (rf_is)
  exact short_FnV hs enters_r6 m.fp _ m.fc m.funcs rfl (by have := hm.funcsMost; unfold mostThings at this; omega) W (Below.refl _ _) (hm.funcs.below h.base (Nat.le_refl _)) (fun w1 h1 x hx => (hm.funcsIn x hx).below (h.base.trans (h1.mono h.base.size)) (Nat.le_refl _))
theorem mod_right (m : MoV) (w : World) (hL : Laid w) (hm : ModAt w m) :
    Calls Tryz.prog 18 #[m.val] w fun e w' => e = .returned (.bool (rightMod m)) ∧ Below w.heap.size w w' := by
  rw [← right7_is]
  unfold right7
  have c0 := fun (a3 a4 a5 a6 a7 a8 : Nat) (l3 l4 l5 l6 l7 l8 : Array Value) (W : World) (h : RIn w #[.slice m.tp m.types.length m.tc, .slice m.fp m.funcs.length m.fc, .slice m.mp m.memory.length m.mc, .slice m.gp m.globals.length m.gc, .slice m.ep m.exports.length m.ec, .int .i64 m.start, .slice m.dp m.data.length m.dc] a3 a4 a5 a6 a7 a8 l3 l4 l5 l6 l7 l8 W) => h.s4 m.start W (Below.refl _ _) hm.startIn
  have c1 := fun (a3 a4 a5 a6 a7 a8 : Nat) (l3 l4 l5 l6 l7 l8 : Array Value) (W : World) (h : RIn w #[.slice m.tp m.types.length m.tc, .slice m.fp m.funcs.length m.fc, .slice m.mp m.memory.length m.mc, .slice m.gp m.globals.length m.gc, .slice m.ep m.exports.length m.ec, .int .i64 m.start, .slice m.dp m.data.length m.dc] a3 a4 a5 a6 a7 a8 l3 l4 l5 l6 l7 l8 W) => right_types hL hm a3 a4 a5 a6 a7 a8 l3 l4 l5 l6 l7 l8 W h
  have c2 := fun (a3 a4 a5 a6 a7 a8 : Nat) (l3 l4 l5 l6 l7 l8 : Array Value) (W : World) (h : RIn w #[.slice m.tp m.types.length m.tc, .slice m.fp m.funcs.length m.fc, .slice m.mp m.memory.length m.mc, .slice m.gp m.globals.length m.gc, .slice m.ep m.exports.length m.ec, .int .i64 m.start, .slice m.dp m.data.length m.dc] a3 a4 a5 a6 a7 a8 l3 l4 l5 l6 l7 l8 W) => right_memory hL hm a3 a4 a5 a6 a7 a8 l3 l4 l5 l6 l7 l8 W h
  have c3 := fun (a3 a4 a5 a6 a7 a8 : Nat) (l3 l4 l5 l6 l7 l8 : Array Value) (W : World) (h : RIn w #[.slice m.tp m.types.length m.tc, .slice m.fp m.funcs.length m.fc, .slice m.mp m.memory.length m.mc, .slice m.gp m.globals.length m.gc, .slice m.ep m.exports.length m.ec, .int .i64 m.start, .slice m.dp m.data.length m.dc] a3 a4 a5 a6 a7 a8 l3 l4 l5 l6 l7 l8 W) => right_globals hL hm a3 a4 a5 a6 a7 a8 l3 l4 l5 l6 l7 l8 W h
  have c4 := fun (a3 a4 a5 a6 a7 a8 : Nat) (l3 l4 l5 l6 l7 l8 : Array Value) (W : World) (h : RIn w #[.slice m.tp m.types.length m.tc, .slice m.fp m.funcs.length m.fc, .slice m.mp m.memory.length m.mc, .slice m.gp m.globals.length m.gc, .slice m.ep m.exports.length m.ec, .int .i64 m.start, .slice m.dp m.data.length m.dc] a3 a4 a5 a6 a7 a8 l3 l4 l5 l6 l7 l8 W) => right_exports hL hm a3 a4 a5 a6 a7 a8 l3 l4 l5 l6 l7 l8 W h
  have c5 := fun (a3 a4 a5 a6 a7 a8 : Nat) (l3 l4 l5 l6 l7 l8 : Array Value) (W : World) (h : RIn w #[.slice m.tp m.types.length m.tc, .slice m.fp m.funcs.length m.fc, .slice m.mp m.memory.length m.mc, .slice m.gp m.globals.length m.gc, .slice m.ep m.exports.length m.ec, .int .i64 m.start, .slice m.dp m.data.length m.dc] a3 a4 a5 a6 a7 a8 l3 l4 l5 l6 l7 l8 W) => right_data hL hm a3 a4 a5 a6 a7 a8 l3 l4 l5 l6 l7 l8 W h
  have c6 := fun (a3 a4 a5 a6 a7 a8 : Nat) (l3 l4 l5 l6 l7 l8 : Array Value) (W : World) (h : RIn w #[.slice m.tp m.types.length m.tc, .slice m.fp m.funcs.length m.fc, .slice m.mp m.memory.length m.mc, .slice m.gp m.globals.length m.gc, .slice m.ep m.exports.length m.ec, .int .i64 m.start, .slice m.dp m.data.length m.dc] a3 a4 a5 a6 a7 a8 l3 l4 l5 l6 l7 l8 W) => right_funcs hL hm a3 a4 a5 a6 a7 a8 l3 l4 l5 l6 l7 l8 W h
  simp only [MoV.val]
  generalize within (-1) 4294967295 m.start = S0 at c0 ⊢
  generalize (decide (m.types.length ≤ 4096) && m.types.all rightTy) = S1 at c1 ⊢
  generalize (decide (m.memory.length ≤ 4096) && m.memory.all rightMem) = S2 at c2 ⊢
  generalize (decide (m.globals.length ≤ 4096) && m.globals.all rightGlob) = S3 at c3 ⊢
  generalize (decide (m.exports.length ≤ 4096) && m.exports.all rightExp) = S4 at c4 ⊢
  generalize (decide (m.data.length ≤ 4096) && m.data.all rightDat) = S5 at c5 ⊢
  generalize (decide (m.funcs.length ≤ 4096) && m.funcs.all rightFn) = S6 at c6 ⊢
  clear hm hL
  obtain ⟨tp, tc, mt, fp, fc, mf, mp, mc, mm, gp, gc, mg, ep, ec, me, st, dp, dc, md⟩ := m
  simp only at *
  generalize mt.length = nt at *
  generalize mf.length = nf at *
  generalize mm.length = nm at *
  generalize mg.length = ng at *
  generalize me.length = ne at *
  generalize md.length = nd at *
  cases S0 with
  | false =>
    have eg := enters_within
    go_enter Tryz.func18, Tryz.ntmps18
    go_wp2_with (first
      | (go_at_call 33; (with_reducible refine (within_of 0 4294967295 _).mono ?_); rintro e w1 ⟨l3, rfl, s3, hb1⟩)
      | (go_at_call 33; (with_reducible refine (within_of (-1) 4294967295 _).mono ?_); rintro e w2 ⟨l4, rfl, s4, hb2⟩)
      | (go_at_call 33; (with_reducible refine (within_of (-2147483648) 2147483647 _).mono ?_); rintro e w3 ⟨l5, rfl, s5, hb3⟩)
      | (go_at_call 34; have tk := hb5; clear tk; (with_reducible refine (kinds_of 4096 _).mono ?_); rintro e w6 ⟨l8, rfl, s8, hb6⟩; have hI := rin_made (t36 := 85) rfl hb1 hb2 rfl hb3 rfl hb4 hb5 hb6 rfl s3 s4 s5 s6 s7 s8; clear s3 s4 s5 s6 s7 s8 hb1 hb2 hb3 hb4 hb5 hb6; have g9 := hI.c4; have ⟨g0, g1, g2, g3, g4, g5, g6⟩ := hI.fields)
      | (go_at_call 34; (with_reducible refine (kinds_of 4096 _).mono ?_); rintro e w4 ⟨l6, rfl, s6, hb4⟩)
      | (go_at_call 34; (with_reducible refine (kinds_of 1 _).mono ?_); rintro e w5 ⟨l7, rfl, s7, hb5⟩)
      | (go_at_fn 58; refine (c0 _ _ _ _ _ _ _ _ _ _ _ _ _ hI).mono ?_; rintro e W0 ⟨rfl, hc⟩; have hJ := hI.below hc; clear hI hc; have hI := hJ; clear hJ))
    go_ret
    exact ⟨rfl, hI.base⟩
  | true =>
    cases S1 with
    | false =>
      have eg := enters_within
      go_enter Tryz.func18, Tryz.ntmps18
      go_wp2_with (first
        | (go_at_call 33; (with_reducible refine (within_of 0 4294967295 _).mono ?_); rintro e w1 ⟨l3, rfl, s3, hb1⟩)
        | (go_at_call 33; (with_reducible refine (within_of (-1) 4294967295 _).mono ?_); rintro e w2 ⟨l4, rfl, s4, hb2⟩)
        | (go_at_call 33; (with_reducible refine (within_of (-2147483648) 2147483647 _).mono ?_); rintro e w3 ⟨l5, rfl, s5, hb3⟩)
        | (go_at_call 34; have tk := hb5; clear tk; (with_reducible refine (kinds_of 4096 _).mono ?_); rintro e w6 ⟨l8, rfl, s8, hb6⟩; have hI := rin_made (t36 := 85) rfl hb1 hb2 rfl hb3 rfl hb4 hb5 hb6 rfl s3 s4 s5 s6 s7 s8; clear s3 s4 s5 s6 s7 s8 hb1 hb2 hb3 hb4 hb5 hb6; have g9 := hI.c4; have ⟨g0, g1, g2, g3, g4, g5, g6⟩ := hI.fields)
        | (go_at_call 34; (with_reducible refine (kinds_of 4096 _).mono ?_); rintro e w4 ⟨l6, rfl, s6, hb4⟩)
        | (go_at_call 34; (with_reducible refine (kinds_of 1 _).mono ?_); rintro e w5 ⟨l7, rfl, s7, hb5⟩)
        | (go_at_fn 58; refine (c0 _ _ _ _ _ _ _ _ _ _ _ _ _ hI).mono ?_; rintro e W0 ⟨rfl, hc⟩; have hJ := hI.below hc; clear hI hc; have hI := hJ; clear hJ; clear g0 g1 g2 g3 g4 g5 g6; have ⟨g0, g1, g2, g3, g4, g5, g6⟩ := hI.fields)
        | (go_at_call 35; refine (c1 _ _ _ _ _ _ _ _ _ _ _ _ _ hI).mono ?_; rintro e W1 ⟨rfl, hc⟩; have hJ := hI.below hc; clear hI hc; have hI := hJ; clear hJ))
      go_ret
      exact ⟨rfl, hI.base⟩
    | true =>
      cases S2 with
      | false =>
        have eg := enters_within
        go_enter Tryz.func18, Tryz.ntmps18
        go_wp2_with (first
          | (go_at_call 33; (with_reducible refine (within_of 0 4294967295 _).mono ?_); rintro e w1 ⟨l3, rfl, s3, hb1⟩)
          | (go_at_call 33; (with_reducible refine (within_of (-1) 4294967295 _).mono ?_); rintro e w2 ⟨l4, rfl, s4, hb2⟩)
          | (go_at_call 33; (with_reducible refine (within_of (-2147483648) 2147483647 _).mono ?_); rintro e w3 ⟨l5, rfl, s5, hb3⟩)
          | (go_at_call 34; have tk := hb5; clear tk; (with_reducible refine (kinds_of 4096 _).mono ?_); rintro e w6 ⟨l8, rfl, s8, hb6⟩; have hI := rin_made (t36 := 85) rfl hb1 hb2 rfl hb3 rfl hb4 hb5 hb6 rfl s3 s4 s5 s6 s7 s8; clear s3 s4 s5 s6 s7 s8 hb1 hb2 hb3 hb4 hb5 hb6; have g9 := hI.c4; have ⟨g0, g1, g2, g3, g4, g5, g6⟩ := hI.fields)
          | (go_at_call 34; (with_reducible refine (kinds_of 4096 _).mono ?_); rintro e w4 ⟨l6, rfl, s6, hb4⟩)
          | (go_at_call 34; (with_reducible refine (kinds_of 1 _).mono ?_); rintro e w5 ⟨l7, rfl, s7, hb5⟩)
          | (go_at_fn 58; refine (c0 _ _ _ _ _ _ _ _ _ _ _ _ _ hI).mono ?_; rintro e W0 ⟨rfl, hc⟩; have hJ := hI.below hc; clear hI hc; have hI := hJ; clear hJ; clear g0 g1 g2 g3 g4 g5 g6; have ⟨g0, g1, g2, g3, g4, g5, g6⟩ := hI.fields)
          | (go_at_call 35; refine (c1 _ _ _ _ _ _ _ _ _ _ _ _ _ hI).mono ?_; rintro e W1 ⟨rfl, hc⟩; have hJ := hI.below hc; clear hI hc; have hI := hJ; clear hJ; clear g0 g1 g2 g3 g4 g5 g6; have ⟨g0, g1, g2, g3, g4, g5, g6⟩ := hI.fields)
          | (go_at_call 37; refine (c2 _ _ _ _ _ _ _ _ _ _ _ _ _ hI).mono ?_; rintro e W2 ⟨rfl, hc⟩; have hJ := hI.below hc; clear hI hc; have hI := hJ; clear hJ))
        go_ret
        exact ⟨rfl, hI.base⟩
      | true =>
        cases S3 with
        | false =>
          have eg := enters_within
          go_enter Tryz.func18, Tryz.ntmps18
          go_wp2_with (first
            | (go_at_call 33; (with_reducible refine (within_of 0 4294967295 _).mono ?_); rintro e w1 ⟨l3, rfl, s3, hb1⟩)
            | (go_at_call 33; (with_reducible refine (within_of (-1) 4294967295 _).mono ?_); rintro e w2 ⟨l4, rfl, s4, hb2⟩)
            | (go_at_call 33; (with_reducible refine (within_of (-2147483648) 2147483647 _).mono ?_); rintro e w3 ⟨l5, rfl, s5, hb3⟩)
            | (go_at_call 34; have tk := hb5; clear tk; (with_reducible refine (kinds_of 4096 _).mono ?_); rintro e w6 ⟨l8, rfl, s8, hb6⟩; have hI := rin_made (t36 := 85) rfl hb1 hb2 rfl hb3 rfl hb4 hb5 hb6 rfl s3 s4 s5 s6 s7 s8; clear s3 s4 s5 s6 s7 s8 hb1 hb2 hb3 hb4 hb5 hb6; have g9 := hI.c4; have ⟨g0, g1, g2, g3, g4, g5, g6⟩ := hI.fields)
            | (go_at_call 34; (with_reducible refine (kinds_of 4096 _).mono ?_); rintro e w4 ⟨l6, rfl, s6, hb4⟩)
            | (go_at_call 34; (with_reducible refine (kinds_of 1 _).mono ?_); rintro e w5 ⟨l7, rfl, s7, hb5⟩)
            | (go_at_fn 58; refine (c0 _ _ _ _ _ _ _ _ _ _ _ _ _ hI).mono ?_; rintro e W0 ⟨rfl, hc⟩; have hJ := hI.below hc; clear hI hc; have hI := hJ; clear hJ; clear g0 g1 g2 g3 g4 g5 g6; have ⟨g0, g1, g2, g3, g4, g5, g6⟩ := hI.fields)
            | (go_at_call 35; refine (c1 _ _ _ _ _ _ _ _ _ _ _ _ _ hI).mono ?_; rintro e W1 ⟨rfl, hc⟩; have hJ := hI.below hc; clear hI hc; have hI := hJ; clear hJ; clear g0 g1 g2 g3 g4 g5 g6; have ⟨g0, g1, g2, g3, g4, g5, g6⟩ := hI.fields)
            | (go_at_call 37; refine (c2 _ _ _ _ _ _ _ _ _ _ _ _ _ hI).mono ?_; rintro e W2 ⟨rfl, hc⟩; have hJ := hI.below hc; clear hI hc; have hI := hJ; clear hJ; clear g0 g1 g2 g3 g4 g5 g6; have ⟨g0, g1, g2, g3, g4, g5, g6⟩ := hI.fields)
            | (go_at_call 39; refine (c3 _ _ _ _ _ _ _ _ _ _ _ _ _ hI).mono ?_; rintro e W3 ⟨rfl, hc⟩; have hJ := hI.below hc; clear hI hc; have hI := hJ; clear hJ))
          go_ret
          exact ⟨rfl, hI.base⟩
        | true =>
          cases S4 with
          | false =>
            have eg := enters_within
            go_enter Tryz.func18, Tryz.ntmps18
            go_wp2_with (first
              | (go_at_call 33; (with_reducible refine (within_of 0 4294967295 _).mono ?_); rintro e w1 ⟨l3, rfl, s3, hb1⟩)
              | (go_at_call 33; (with_reducible refine (within_of (-1) 4294967295 _).mono ?_); rintro e w2 ⟨l4, rfl, s4, hb2⟩)
              | (go_at_call 33; (with_reducible refine (within_of (-2147483648) 2147483647 _).mono ?_); rintro e w3 ⟨l5, rfl, s5, hb3⟩)
              | (go_at_call 34; have tk := hb5; clear tk; (with_reducible refine (kinds_of 4096 _).mono ?_); rintro e w6 ⟨l8, rfl, s8, hb6⟩; have hI := rin_made (t36 := 85) rfl hb1 hb2 rfl hb3 rfl hb4 hb5 hb6 rfl s3 s4 s5 s6 s7 s8; clear s3 s4 s5 s6 s7 s8 hb1 hb2 hb3 hb4 hb5 hb6; have g9 := hI.c4; have ⟨g0, g1, g2, g3, g4, g5, g6⟩ := hI.fields)
              | (go_at_call 34; (with_reducible refine (kinds_of 4096 _).mono ?_); rintro e w4 ⟨l6, rfl, s6, hb4⟩)
              | (go_at_call 34; (with_reducible refine (kinds_of 1 _).mono ?_); rintro e w5 ⟨l7, rfl, s7, hb5⟩)
              | (go_at_fn 58; refine (c0 _ _ _ _ _ _ _ _ _ _ _ _ _ hI).mono ?_; rintro e W0 ⟨rfl, hc⟩; have hJ := hI.below hc; clear hI hc; have hI := hJ; clear hJ; clear g0 g1 g2 g3 g4 g5 g6; have ⟨g0, g1, g2, g3, g4, g5, g6⟩ := hI.fields)
              | (go_at_call 35; refine (c1 _ _ _ _ _ _ _ _ _ _ _ _ _ hI).mono ?_; rintro e W1 ⟨rfl, hc⟩; have hJ := hI.below hc; clear hI hc; have hI := hJ; clear hJ; clear g0 g1 g2 g3 g4 g5 g6; have ⟨g0, g1, g2, g3, g4, g5, g6⟩ := hI.fields)
              | (go_at_call 37; refine (c2 _ _ _ _ _ _ _ _ _ _ _ _ _ hI).mono ?_; rintro e W2 ⟨rfl, hc⟩; have hJ := hI.below hc; clear hI hc; have hI := hJ; clear hJ; clear g0 g1 g2 g3 g4 g5 g6; have ⟨g0, g1, g2, g3, g4, g5, g6⟩ := hI.fields)
              | (go_at_call 39; refine (c3 _ _ _ _ _ _ _ _ _ _ _ _ _ hI).mono ?_; rintro e W3 ⟨rfl, hc⟩; have hJ := hI.below hc; clear hI hc; have hI := hJ; clear hJ; clear g0 g1 g2 g3 g4 g5 g6; have ⟨g0, g1, g2, g3, g4, g5, g6⟩ := hI.fields)
              | (go_at_call 41; refine (c4 _ _ _ _ _ _ _ _ _ _ _ _ _ hI).mono ?_; rintro e W4 ⟨rfl, hc⟩; have hJ := hI.below hc; clear hI hc; have hI := hJ; clear hJ))
            go_ret
            exact ⟨rfl, hI.base⟩
          | true =>
            cases S5 with
            | false =>
              have eg := enters_within
              go_enter Tryz.func18, Tryz.ntmps18
              go_wp2_with (first
                | (go_at_call 33; (with_reducible refine (within_of 0 4294967295 _).mono ?_); rintro e w1 ⟨l3, rfl, s3, hb1⟩)
                | (go_at_call 33; (with_reducible refine (within_of (-1) 4294967295 _).mono ?_); rintro e w2 ⟨l4, rfl, s4, hb2⟩)
                | (go_at_call 33; (with_reducible refine (within_of (-2147483648) 2147483647 _).mono ?_); rintro e w3 ⟨l5, rfl, s5, hb3⟩)
                | (go_at_call 34; have tk := hb5; clear tk; (with_reducible refine (kinds_of 4096 _).mono ?_); rintro e w6 ⟨l8, rfl, s8, hb6⟩; have hI := rin_made (t36 := 85) rfl hb1 hb2 rfl hb3 rfl hb4 hb5 hb6 rfl s3 s4 s5 s6 s7 s8; clear s3 s4 s5 s6 s7 s8 hb1 hb2 hb3 hb4 hb5 hb6; have g9 := hI.c4; have ⟨g0, g1, g2, g3, g4, g5, g6⟩ := hI.fields)
                | (go_at_call 34; (with_reducible refine (kinds_of 4096 _).mono ?_); rintro e w4 ⟨l6, rfl, s6, hb4⟩)
                | (go_at_call 34; (with_reducible refine (kinds_of 1 _).mono ?_); rintro e w5 ⟨l7, rfl, s7, hb5⟩)
                | (go_at_fn 58; refine (c0 _ _ _ _ _ _ _ _ _ _ _ _ _ hI).mono ?_; rintro e W0 ⟨rfl, hc⟩; have hJ := hI.below hc; clear hI hc; have hI := hJ; clear hJ; clear g0 g1 g2 g3 g4 g5 g6; have ⟨g0, g1, g2, g3, g4, g5, g6⟩ := hI.fields)
                | (go_at_call 35; refine (c1 _ _ _ _ _ _ _ _ _ _ _ _ _ hI).mono ?_; rintro e W1 ⟨rfl, hc⟩; have hJ := hI.below hc; clear hI hc; have hI := hJ; clear hJ; clear g0 g1 g2 g3 g4 g5 g6; have ⟨g0, g1, g2, g3, g4, g5, g6⟩ := hI.fields)
                | (go_at_call 37; refine (c2 _ _ _ _ _ _ _ _ _ _ _ _ _ hI).mono ?_; rintro e W2 ⟨rfl, hc⟩; have hJ := hI.below hc; clear hI hc; have hI := hJ; clear hJ; clear g0 g1 g2 g3 g4 g5 g6; have ⟨g0, g1, g2, g3, g4, g5, g6⟩ := hI.fields)
                | (go_at_call 39; refine (c3 _ _ _ _ _ _ _ _ _ _ _ _ _ hI).mono ?_; rintro e W3 ⟨rfl, hc⟩; have hJ := hI.below hc; clear hI hc; have hI := hJ; clear hJ; clear g0 g1 g2 g3 g4 g5 g6; have ⟨g0, g1, g2, g3, g4, g5, g6⟩ := hI.fields)
                | (go_at_call 41; refine (c4 _ _ _ _ _ _ _ _ _ _ _ _ _ hI).mono ?_; rintro e W4 ⟨rfl, hc⟩; have hJ := hI.below hc; clear hI hc; have hI := hJ; clear hJ; clear g0 g1 g2 g3 g4 g5 g6; have ⟨g0, g1, g2, g3, g4, g5, g6⟩ := hI.fields)
                | (go_at_call 45; refine (c5 _ _ _ _ _ _ _ _ _ _ _ _ _ hI).mono ?_; rintro e W5 ⟨rfl, hc⟩; have hJ := hI.below hc; clear hI hc; have hI := hJ; clear hJ))
              go_ret
              exact ⟨rfl, hI.base⟩
            | true =>
              have eg := enters_within
              go_enter Tryz.func18, Tryz.ntmps18
              go_wp2_with (first
                | (go_at_call 33; (with_reducible refine (within_of 0 4294967295 _).mono ?_); rintro e w1 ⟨l3, rfl, s3, hb1⟩)
                | (go_at_call 33; (with_reducible refine (within_of (-1) 4294967295 _).mono ?_); rintro e w2 ⟨l4, rfl, s4, hb2⟩)
                | (go_at_call 33; (with_reducible refine (within_of (-2147483648) 2147483647 _).mono ?_); rintro e w3 ⟨l5, rfl, s5, hb3⟩)
                | (go_at_call 34; have tk := hb5; clear tk; (with_reducible refine (kinds_of 4096 _).mono ?_); rintro e w6 ⟨l8, rfl, s8, hb6⟩; have hI := rin_made (t36 := 85) rfl hb1 hb2 rfl hb3 rfl hb4 hb5 hb6 rfl s3 s4 s5 s6 s7 s8; clear s3 s4 s5 s6 s7 s8 hb1 hb2 hb3 hb4 hb5 hb6; have g9 := hI.c4; have ⟨g0, g1, g2, g3, g4, g5, g6⟩ := hI.fields)
                | (go_at_call 34; (with_reducible refine (kinds_of 4096 _).mono ?_); rintro e w4 ⟨l6, rfl, s6, hb4⟩)
                | (go_at_call 34; (with_reducible refine (kinds_of 1 _).mono ?_); rintro e w5 ⟨l7, rfl, s7, hb5⟩)
                | (go_at_fn 58; refine (c0 _ _ _ _ _ _ _ _ _ _ _ _ _ hI).mono ?_; rintro e W0 ⟨rfl, hc⟩; have hJ := hI.below hc; clear hI hc; have hI := hJ; clear hJ; clear g0 g1 g2 g3 g4 g5 g6; have ⟨g0, g1, g2, g3, g4, g5, g6⟩ := hI.fields)
                | (go_at_call 35; refine (c1 _ _ _ _ _ _ _ _ _ _ _ _ _ hI).mono ?_; rintro e W1 ⟨rfl, hc⟩; have hJ := hI.below hc; clear hI hc; have hI := hJ; clear hJ; clear g0 g1 g2 g3 g4 g5 g6; have ⟨g0, g1, g2, g3, g4, g5, g6⟩ := hI.fields)
                | (go_at_call 37; refine (c2 _ _ _ _ _ _ _ _ _ _ _ _ _ hI).mono ?_; rintro e W2 ⟨rfl, hc⟩; have hJ := hI.below hc; clear hI hc; have hI := hJ; clear hJ; clear g0 g1 g2 g3 g4 g5 g6; have ⟨g0, g1, g2, g3, g4, g5, g6⟩ := hI.fields)
                | (go_at_call 39; refine (c3 _ _ _ _ _ _ _ _ _ _ _ _ _ hI).mono ?_; rintro e W3 ⟨rfl, hc⟩; have hJ := hI.below hc; clear hI hc; have hI := hJ; clear hJ; clear g0 g1 g2 g3 g4 g5 g6; have ⟨g0, g1, g2, g3, g4, g5, g6⟩ := hI.fields)
                | (go_at_call 41; refine (c4 _ _ _ _ _ _ _ _ _ _ _ _ _ hI).mono ?_; rintro e W4 ⟨rfl, hc⟩; have hJ := hI.below hc; clear hI hc; have hI := hJ; clear hJ; clear g0 g1 g2 g3 g4 g5 g6; have ⟨g0, g1, g2, g3, g4, g5, g6⟩ := hI.fields)
                | (go_at_call 45; refine (c5 _ _ _ _ _ _ _ _ _ _ _ _ _ hI).mono ?_; rintro e W5 ⟨rfl, hc⟩; have hJ := hI.below hc; clear hI hc; have hI := hJ; clear hJ; clear g0 g1 g2 g3 g4 g5 g6; have ⟨g0, g1, g2, g3, g4, g5, g6⟩ := hI.fields)
                | (go_at_call 47; refine (c6 _ _ _ _ _ _ _ _ _ _ _ _ _ hI).mono ?_; rintro e W6 ⟨rfl, hc⟩; have hJ := hI.below hc; clear hI hc; have hI := hJ; clear hJ))
              go_ret
              exact ⟨by cases S6 <;> rfl, hI.base⟩
def Res7 (W : World) (C : Nat) : Prop := W.heap[C]? = some (.cells #[.slice none 0 0, .slice none 0 0, .slice none 0 0, .slice none 0 0, .slice none 0 0, .int .i64 0, .slice none 0 0] 31)
theorem heap_in {w : World} {b : Nat} {o : Obj} (h : w.heap[b]? = some o) : b < w.heap.size := by
  by_cases hh : b < w.heap.size
  · exact hh
  · rw [Array.getElem?_eq_none (by omega)] at h; cases h
theorem Res7.cells {W : World} {C : Nat} (h : Res7 W C) : W.cell? ⟨C, 0, none⟩ = some (.slice none 0 0) ∧ W.cell? ⟨C, 1, none⟩ = some (.slice none 0 0) ∧ W.cell? ⟨C, 2, none⟩ = some (.slice none 0 0) ∧ W.cell? ⟨C, 3, none⟩ = some (.slice none 0 0) ∧ W.cell? ⟨C, 4, none⟩ = some (.slice none 0 0) ∧ W.cell? ⟨C, 5, none⟩ = some (.int .i64 0) ∧ W.cell? ⟨C, 6, none⟩ = some (.slice none 0 0) ∧ W.frozen? ⟨C, 0, none⟩ = false ∧ W.frozen? ⟨C, 1, none⟩ = false ∧ W.frozen? ⟨C, 2, none⟩ = false ∧ W.frozen? ⟨C, 3, none⟩ = false ∧ W.frozen? ⟨C, 4, none⟩ = false ∧ W.frozen? ⟨C, 5, none⟩ = false ∧ W.frozen? ⟨C, 6, none⟩ = false := by
  have c : ∀ j, W.cell? ⟨C, j, none⟩ = _ := fun j => by rw [World.cell?, h]
  have f : ∀ j, W.frozen? ⟨C, j, none⟩ = false := fun j => by simp [World.frozen?, show W.heap[C]? = _ from h]
  exact ⟨c 0, c 1, c 2, c 3, c 4, c 5, c 6, f 0, f 1, f 2, f 3, f 4, f 5, f 6⟩
theorem Res7.below {W W' : World} {C : Nat} (h : Res7 W C) (hb : Below W.heap.size W W') : Res7 W' C := (hb.block C (heap_in h)).trans h
theorem cell_grown (w : World) (b o : Nat) (x : Value) : w.grownBy (w.setCell ⟨b, o, none⟩ x) (some b) := ⟨rfl, rfl, rfl, by simp [World.setCell], fun k _ hne => Below.heap_setCell w _ _ k (fun e => hne (by rw [e]))⟩
def insOf (x : PI) : InsV := ⟨x.op, x.a, x.b, none, 0, []⟩
def madeF (pc : Option Addr) (cc : Nat) (code : List PI) : FnV := ⟨0, ⟨#[127, 126]⟩, pc, cc, code.map insOf⟩
def someBytes : ByteArray := ⟨#[115, 111, 109, 101, 32, 98, 121, 116, 101, 115]⟩
def madeV (H : Nat) (pc : Option Addr) (cc : Nat) (code : List PI) (mx i0 i1 ix st : Int) : MoV :=
  ⟨some ⟨H, 0, none⟩, 1, [⟨⟨#[126, 127]⟩, ⟨#[126]⟩⟩], some ⟨H + 1, 0, none⟩, 1, [madeF pc cc code], some ⟨H + 2, 0, none⟩, 1, [⟨1, mx⟩], some ⟨H + 3, 0, none⟩, 2, [⟨127, true, i0⟩, ⟨126, true, i1⟩], some ⟨H + 4, 0, none⟩, 1, [⟨⟨#[102]⟩, 0, ix⟩], st, some ⟨H + 5, 0, none⟩, 1, [⟨100, someBytes⟩]⟩
structure MadeAt (w : World) (lo H : Nat) (pc : Option Addr) (cc : Nat) (code : List PI) (mx i0 i1 ix : Int) : Prop where
  size : H + 6 ≤ w.heap.size
  from0 : lo ≤ H
  types : w.heap[H]? = some (.cells #[.string ⟨#[126, 127]⟩, .string ⟨#[126]⟩] 51)
  funcs : w.heap[H + 1]? = some (.cells #[.int .i64 0, .string ⟨#[127, 126]⟩, .slice pc code.length cc] 35)
  memory : w.heap[H + 2]? = some (.cells #[.int .i64 1, .int .i64 mx] 47)
  globals : w.heap[H + 3]? = some (.cells #[.int .i64 127, .bool true, .int .i64 i0, .int .i64 126, .bool true, .int .i64 i1] 71)
  exports : w.heap[H + 4]? = some (.cells #[.string ⟨#[102]⟩, .int .i64 0, .int .i64 ix] 45)
  data : w.heap[H + 5]? = some (.cells #[.int .i64 100, .string someBytes] 73)
  owned : w.ownsRow lo 38 4 (.slice pc code.length cc) code.length (codeCells code)
  ahead : ∀ g, (Value.slice pc code.length cc).ownBlock = some g → g < H
  right : ∀ x ∈ code, rightPI x = true
  runs0 : runs (code.map PI.op) [] = true
  most : code.length ≤ 10000
theorem MadeAt.below {w w' : World} {lo H : Nat} {pc : Option Addr} {cc : Nat} {code : List PI} {mx i0 i1 ix : Int} (h : MadeAt w lo H pc cc code mx i0 i1 ix) (hb : Below w.heap.size w w') : MadeAt w' lo H pc cc code mx i0 i1 ix := by
  have hs := h.size
  exact { h with size := Nat.le_trans hs hb.size, types := by rw [hb.block _ (by omega)]; exact h.types, funcs := by rw [hb.block _ (by omega)]; exact h.funcs, memory := by rw [hb.block _ (by omega)]; exact h.memory, globals := by rw [hb.block _ (by omega)]; exact h.globals, exports := by rw [hb.block _ (by omega)]; exact h.exports, data := by rw [hb.block _ (by omega)]; exact h.data, owned := own_below h.owned hb }
theorem MadeAt.on {w w' : World} {lo H g : Nat} {pc : Option Addr} {cc : Nat} {code : List PI} {mx i0 i1 ix : Int} (h : MadeAt w lo H pc cc code mx i0 i1 ix) (hg : w.grownBy w' (some g)) (hn : g < lo ∨ H + 6 ≤ g) : MadeAt w' lo H pc cc code mx i0 i1 ix := by
  have hs := h.size
  have hlo := h.from0
  have k : ∀ i, i < 6 → w'.heap[H + i]? = w.heap[H + i]? := fun i hi => hg.block _ (by omega) (fun e => by injection e with e; omega)
  exact { h with size := Nat.le_trans hs hg.size, types := (k 0 (by omega)).trans h.types, funcs := (k 1 (by omega)).trans h.funcs, memory := (k 2 (by omega)).trans h.memory, globals := (k 3 (by omega)).trans h.globals, exports := (k 4 (by omega)).trans h.exports, data := (k 5 (by omega)).trans h.data, owned := h.owned.kept hg (by
    cases hv : (Value.slice pc code.length cc).ownBlock with
    | none => exact .inl rfl
    | some b => exact .inr fun e => by injection e with e; have := (h.owned.lt b hv).1; have := h.ahead b hv; omega) }
theorem flat_at {α : Type} {c : Nat} {row : α → List Value} (i : Nat) (hi : i < c) : ∀ (l : List α) (_ : ∀ x ∈ l, (row x).length = c) (j : Nat) (hj : j < l.length), (l.flatMap row)[j * c + i]? = (row l[j])[i]? := by
  intro l
  induction l with
  | nil => intro _ j hj; simp at hj
  | cons x l ih =>
    intro hc j hj
    have hx := hc x (by simp)
    cases j with
    | zero => simp only [List.flatMap_cons, List.getElem_cons_zero, Nat.zero_mul, Nat.zero_add]; rw [List.getElem?_append_left (by omega)]
    | succ j =>
      simp only [List.flatMap_cons, List.getElem_cons_succ]
      rw [List.getElem?_append_right (by rw [hx, Nat.succ_mul]; omega), hx, show (j + 1) * c + i - c = j * c + i by rw [Nat.succ_mul]; omega]
      exact ih (fun y hy => hc y (by simp [hy])) j (by simpa using hj)
theorem rows_block {α : Type} {w : World} {b : Nat} {cs : Array Value} {t : TypeId} {c : Nat} {row : α → List Value} {l : List α} (h : w.heap[b]? = some (.cells cs t)) (hl : l.flatMap row = cs.toList) (hc : ∀ x ∈ l, (row x).length = c) : RowsAt w (some ⟨b, 0, none⟩) c row l := by
  intro j hj i v hv
  refine ⟨b, 0, rfl, heap_in h, ?_⟩
  have hi : i < c := by
    have := hc l[j] (List.getElem_mem hj)
    have h2 := (List.getElem?_eq_some_iff.1 hv).1
    omega
  have := flat_at i hi l hc j hj
  rw [hl, hv] at this
  simp only [Array.getElem?_toList] at this
  simp [World.cell?, h, this]
theorem code_cells (code : List PI) : (code.map insOf).flatMap InsV.row = codeCells code := by
  induction code with
  | nil => rfl
  | cons x l ih =>
    have e : codeCells (x :: l) = x.cells ++ codeCells l := rfl
    rw [List.map_cons, List.flatMap_cons, ih, e]; rfl
theorem rows_own {α : Type} {w : World} {lo : Nat} {t : TypeId} {c n cap : Nat} {p : Option Addr} {row : α → List Value} {l : List α} (h : w.ownsRow lo t c (.slice p n cap) n (l.flatMap row)) (hn : l.length = n) (hc : ∀ x ∈ l, (row x).length = c) : RowsAt w p c row l := by
  intro j hj i v hv
  have hi : i < c := by
    have := hc l[j] (List.getElem_mem hj)
    have h2 := (List.getElem?_eq_some_iff.1 hv).1
    omega
  have hf := flat_at i hi l hc j hj
  obtain ⟨n', rfl⟩ : ∃ n', n = n' + 1 := ⟨n - 1, by omega⟩
  obtain ⟨g, cp, e, hb, hg, hcap, hcell, _⟩ := own_block h
  cases e
  refine ⟨g, 0, rfl, hg, ?_⟩
  rw [Nat.zero_add]
  exact hcell _ _ (hf.trans hv)
theorem MadeAt.insAt {w : World} {x : PI} (h : rightPI x = true) : InsAt w (insOf x) := by
  unfold rightPI at h
  simp only [Bool.and_eq_true, decide_eq_true_eq] at h
  obtain ⟨h1, h2⟩ := h
  unfold rightOf at h1
  have hop : inI64 x.op := by
    cases e : byCode x.op with
    | none => rw [e] at h1; cases h1
    | some r =>
      have hb := byCode_bd e
      have hc : r.code = x.op := by
        have := List.find?_some e
        simpa using this
      unfold inI64; omega
  have hb : inI64 x.b := by
    cases e : byCode x.op with
    | none => rw [e] at h1; cases h1
    | some r =>
      rw [e] at h1
      simp only at h1
      split at h1
      · cases h1
      · rename_i hnb
        by_cases hz : x.b = 0
        · rw [hz]; unfold inI64; omega
        · have h5 : r.shape = 5 := by
            by_cases h5 : r.shape = 5
            · exact h5
            · exact absurd ⟨hz, h5⟩ hnb
          simp [h5, word] at h1
          unfold inI64; omega
  exact ⟨fun j hj => absurd hj (by simp [insOf]), by simp [insOf], hop, h2, hb, fun n hn => by simp [insOf] at hn⟩
theorem MadeAt.codeAt {w : World} {lo H : Nat} {pc : Option Addr} {cc : Nat} {code : List PI} {mx i0 i1 ix : Int} (h : MadeAt w lo H pc cc code mx i0 i1 ix) : CodeAt w pc (code.map insOf) := by
  refine ⟨rows_own (by rw [code_cells]; exact h.owned) (by simp) (fun x _ => rfl), fun x hx => ?_, by have := h.most; simp; omega⟩
  obtain ⟨y, hy, rfl⟩ := List.mem_map.1 hx
  exact MadeAt.insAt (h.right y hy)
theorem MadeAt.modAt {w : World} {lo H : Nat} {pc : Option Addr} {cc : Nat} {code : List PI} {mx i0 i1 ix st : Int} (h : MadeAt w lo H pc cc code mx i0 i1 ix) (h1 : inI64 mx) (h2 : inI64 i0) (h3 : inI64 i1) (h4 : inI64 ix) (h5 : inI64 st) : ModAt w (madeV H pc cc code mx i0 i1 ix st) where
  types := rows_block h.types rfl (fun x _ => rfl)
  typesIn := by intro t ht; rw [List.mem_singleton.1 ht]; exact ⟨by decide, by decide⟩
  typesMost := by show 1 ≤ mostThings; decide
  funcs := rows_block h.funcs (by simp [madeV, madeF, FnV.row]) (fun x _ => rfl)
  funcsIn := by intro f hf; rw [List.mem_singleton.1 hf]; exact ⟨h.codeAt, (by show 2 ≤ maxLen; decide), (by show inI64 0; decide)⟩
  funcsMost := by show 1 ≤ mostThings; decide
  memory := rows_block h.memory rfl (fun x _ => rfl)
  memoryIn := by intro t ht; rw [List.mem_singleton.1 ht]; exact ⟨(by show inI64 1; decide), h1⟩
  memoryMost := by show 1 ≤ mostThings; decide
  globals := rows_block h.globals rfl (fun x _ => rfl)
  globalsIn := by
    intro t ht
    rcases List.mem_cons.1 ht with rfl | ht
    · exact ⟨(by show inI64 127; decide), h2⟩
    · rw [List.mem_singleton.1 ht]; exact ⟨(by show inI64 126; decide), h3⟩
  globalsMost := by show 2 ≤ mostThings; decide
  exports := rows_block h.exports rfl (fun x _ => rfl)
  exportsIn := by intro t ht; rw [List.mem_singleton.1 ht]; exact ⟨(by show 1 ≤ maxLen; decide), (by show inI64 0; decide), h4⟩
  exportsMost := by show 1 ≤ mostThings; decide
  startIn := h5
  data := rows_block h.data rfl (fun x _ => rfl)
  dataIn := by intro t ht; rw [List.mem_singleton.1 ht]; exact ⟨(by show inI64 100; decide), (by show 10 ≤ maxLen; decide)⟩
  dataMost := by show 1 ≤ mostThings; decide
end Go.Proofs.YtomffpibdinkaaaGreatDoor
namespace Go.Proofs.YtomffpibdinkaaaGreatDoor
set_option maxRecDepth 100000
set_option maxHeartbeats 16000000
open Go.RowKit
structure StepV where
  kind : Int
  a : Int
  b : Int
  op : Int
def StepV.row (x : StepV) : List Value := [.int .u8 x.kind, .int .i64 x.a, .int .i64 x.b, .int .u8 x.op]
structure StepsAt (w : World) (p : Option Addr) (l : List StepV) : Prop where
  rows : RowsAt w p 4 StepV.row l
  within : ∀ x ∈ l, (0 ≤ x.kind ∧ x.kind < 256) ∧ (0 ≤ x.op ∧ x.op < 256) ∧ inI64 x.a
  most : l.length ≤ mostThings
theorem StepsAt.below {w w' : World} {p : Option Addr} {l : List StepV} {B : Nat} (h : StepsAt w p l) (hB : Below B w w') (hs : w.heap.size ≤ B) : StepsAt w' p l := ⟨h.rows.below hB hs, h.within, h.most⟩
theorem Prog.begin (w : World) : Prog w [] ⟨[], [], []⟩ (w.alloc (.cells #[.slice none 0 0, .slice none 0 0, .slice none 0 0] 64)) := by
  refine ⟨.slice none 0 0, .slice none 0 0, .slice none 0 0, ?_⟩
  refine ⟨(Below.refl _ _).alloc (Nat.le_refl _) _, by simp, heap_alloc_new _ _, ?_, ?_, ?_, ?_, ?_, ?_, ?_⟩
  · exact ⟨rfl, .inl ⟨rfl, rfl⟩⟩
  · exact ⟨rfl, .inl ⟨rfl, rfl⟩⟩
  · exact ⟨rfl, .inl ⟨rfl, rfl⟩⟩
  all_goals first | (intro g h; cases h) | (intro p hp; cases hp)
def BX7 : Obj := .cells #[.slice none 0 0, .slice none 0 0, .slice none 0 0, .slice none 0 0, .slice none 0 0, .int .i64 0, .slice none 0 0] 31
theorem res_six {w : World} {C : Nat} (h : Res7 w C) (o1 o2 o3 o4 o5 o6 : Obj) : Res7 ((((((w.alloc o1).alloc o2).alloc o3).alloc o4).alloc o5).alloc o6) C :=
  h.below ((((((Below.refl _ w).alloc (Nat.le_refl _) o1).alloc (by simp) o2).alloc (by simp; omega) o3).alloc (by simp; omega) o4).alloc (by simp; omega) o5 |>.alloc (by simp; omega) o6)
theorem made_cells (w : World) (s : PS) {w2 : World} (h : Prog (w.alloc BX7) [] s w2) : ∃ n pc cc, s.code.length = n ∧ w2.ownsRow (w.heap.size + 2) 38 4 (.slice pc n cc) n (codeCells s.code) ∧ w.heap.size + 1 < w2.heap.size ∧ (∀ o, (w2.alloc o).cell? ⟨w.heap.size + 1, 0, none⟩ = some (.slice pc n cc)) ∧
    (∀ o1 o2 o3 o4 o5 o6, let W := ((((((w2.alloc o1).alloc o2).alloc o3).alloc o4).alloc o5).alloc o6); W.cell? ⟨w.heap.size, 0, none⟩ = some (.slice none 0 0) ∧ W.cell? ⟨w.heap.size, 1, none⟩ = some (.slice none 0 0) ∧ W.cell? ⟨w.heap.size, 2, none⟩ = some (.slice none 0 0) ∧ W.cell? ⟨w.heap.size, 3, none⟩ = some (.slice none 0 0) ∧ W.cell? ⟨w.heap.size, 4, none⟩ = some (.slice none 0 0) ∧ W.cell? ⟨w.heap.size, 5, none⟩ = some (.int .i64 0) ∧ W.cell? ⟨w.heap.size, 6, none⟩ = some (.slice none 0 0) ∧ W.frozen? ⟨w.heap.size, 0, none⟩ = false ∧ W.frozen? ⟨w.heap.size, 1, none⟩ = false ∧ W.frozen? ⟨w.heap.size, 2, none⟩ = false ∧ W.frozen? ⟨w.heap.size, 3, none⟩ = false ∧ W.frozen? ⟨w.heap.size, 4, none⟩ = false ∧ W.frozen? ⟨w.heap.size, 5, none⟩ = false ∧ W.frozen? ⟨w.heap.size, 6, none⟩ = false) ∧ Below w.heap.size w w2 := by
  obtain ⟨cv, sv, ov, hA⟩ := h
  obtain ⟨d0, _⟩ := prog_cells hA
  have hC := hA.code
  have hs1 : (w.alloc BX7).heap.size = w.heap.size + 1 := by simp
  rw [hs1] at d0 hC
  obtain ⟨pc, cc, rfl⟩ := own_any hC
  have hsz2 : w.heap.size + 1 < w2.heap.size := by have := hA.size; rw [hs1] at this; omega
  have hres : Res7 w2 w.heap.size := (hA.below.block w.heap.size (by rw [hs1]; omega)).trans (heap_alloc_new _ _)
  exact ⟨_, pc, cc, rfl, hC, hsz2, fun o => (World.cell?_alloc_lt w2 o (⟨w.heap.size + 1, 0, none⟩ : Addr) hsz2).trans d0, fun o1 o2 o3 o4 o5 o6 => (res_six hres o1 o2 o3 o4 o5 o6).cells, ((Below.refl _ w).alloc (Nat.le_refl _) BX7).trans (hA.below.mono (by simp))⟩
def StepV.does (x : StepV) (s : PS) : PS := doesF s x.kind x.op x.a x.b
def runF (l : List StepV) : PS := l.foldl (fun s x => x.does s) ⟨[], [], []⟩
theorem runF_snoc (l : List StepV) (x : StepV) : runF (l ++ [x]) = x.does (runF l) := by unfold runF; rw [List.foldl_append]; rfl
def codeF (l : List StepV) : List PI := (levelF (shuts (runF (l.take 60)).opens.length (runF (l.take 60))) 126 0).code ++ [⟨11, 0, 0⟩]
theorem does_at (w : World) (o : Obj) (s : PS) (x : StepV) (hx : (0 ≤ x.kind ∧ x.kind < 256) ∧ (0 ≤ x.op ∧ x.op < 256) ∧ inI64 x.a) (hg : Good s) (hw : s.weight ≤ 200000) (W : World) (h : Prog (w.alloc o) [] s W) :
    Calls Tryz.prog 14 #[.pointer (some ⟨w.heap.size + 1, 0, none⟩), .agg #[.int .u8 x.kind, .int .i64 x.a, .int .i64 x.b, .int .u8 x.op]] W fun e w' => e = .returned (.tuple #[]) ∧ Done (w.alloc o) [] s (x.does s) w' := by
  have := does_st (w.alloc o) s x.kind x.op x.a x.b hx.1 hx.2.1 hx.2.2 hg hw W h
  rwa [show (w.alloc o).heap.size = w.heap.size + 1 by simp] at this
theorem shut_at (w : World) (o : Obj) (s : PS) (hg : Good s) (h0 : s.opens ≠ []) (hw : s.weight ≤ 200000) (W : World) (h : Prog (w.alloc o) [] s W) :
    Calls Tryz.prog 15 #[.pointer (some ⟨w.heap.size + 1, 0, none⟩)] W fun e w' => e = .returned (.tuple #[]) ∧ Good (shutF s) ∧ (shutF s).weight ≤ s.weight ∧ (shutF s).opens.length + 1 = s.opens.length ∧ Prog (w.alloc o) [] (shutF s) w' := by
  have := shut_st hg h0 hw h
  rwa [show (w.alloc o).heap.size = w.heap.size + 1 by simp] at this
theorem level_at (w : World) (o : Obj) (s : PS) (h0 : s.opens = []) (hw : s.weight ≤ 200000) (W : World) (h : Prog (w.alloc o) [] s W) :
    Calls Tryz.prog 16 #[.pointer (some ⟨w.heap.size + 1, 0, none⟩), .agg #[.int .i64 0, .int .u8 126, .int .i64 0]] W fun e w' => e = .returned (.tuple #[]) ∧ ∃ c : List PI, c.all okPI = true ∧ c.length ≤ 1 + 3 * s.stack.length ∧ (levelF s 126 0).code = s.code ++ c ∧ Prog (w.alloc o) [] { s with code := s.code ++ c, stack := [] } w' := by
  have hw' : s.code.length + 4 * s.stack.length + 8 * s.opens.length ≤ 200000 := hw
  have := level_126 (w.alloc o) s 0 0 (by unfold topHeight; rw [h0]; rfl) (by omega) (by omega) (by omega) W h
  rw [show (w.alloc o).heap.size = w.heap.size + 1 by simp] at this
  refine this.mono ?_
  rintro e w' ⟨he, c, h1, h2, h3, h4⟩
  exact ⟨he, c, h1, h2, by rw [h3], h4⟩
theorem put_at (w : World) (o : Obj) (s : PS) (hlen : s.code.length ≤ 1000000) (W : World) (h : Prog (w.alloc o) [] s W) :
    Calls Tryz.prog 17 #[.pointer (some ⟨w.heap.size + 1, 0, none⟩), .int .i64 11, .int .i64 0, .int .i64 0] W fun e w' => e = .returned (.tuple #[]) ∧ Prog (w.alloc o) [] { s with code := s.code ++ [(⟨11, 0, 0⟩ : PI)] } w' := by
  have := put_of (w.alloc o) s 11 0 0 hlen W h
  rwa [show (w.alloc o).heap.size = w.heap.size + 1 by simp] at this
theorem made_six (w2 : World) {lo n cc : Nat} {pc : Option Addr} {code : List PI} (hown : w2.ownsRow lo 38 4 (.slice pc n cc) n (codeCells code)) (hlen : code.length = n) (hlo : lo ≤ w2.heap.size) (hr : ∀ x ∈ code, rightPI x = true) (hu : runs (code.map PI.op) [] = true) (hm : code.length ≤ 10000) :
    MadeAt ((((((w2.alloc (.cells #[.string ⟨#[126, 127]⟩, .string ⟨#[126]⟩] 51)).alloc (.cells #[.int .i64 0, .string ⟨#[127, 126]⟩, .slice pc n cc] 35)).alloc (.cells #[.int .i64 1, .int .i64 2] 47)).alloc (.cells #[.int .i64 127, .bool true, .int .i64 5, .int .i64 126, .bool true, .int .i64 (-5)] 71)).alloc (.cells #[.string ⟨#[102]⟩, .int .i64 0, .int .i64 0] 45)).alloc (.cells #[.int .i64 100, .string ⟨#[115, 111, 109, 101, 32, 98, 121, 116, 101, 115]⟩] 73)) lo w2.heap.size pc cc code 2 5 (-5) 0 := by
  subst hlen
  have k : ∀ (w : World) (o : Obj) (b : Nat) (q : Obj), w.heap[b]? = some q → (w.alloc o).heap[b]? = some q := fun w o b q h => by rw [Below.heap_alloc w o b (heap_in h)]; exact h
  have nw : ∀ (w : World) (o : Obj) (b : Nat), w.heap.size = b → (w.alloc o).heap[b]? = some o := fun w o b h => by subst h; exact heap_alloc_new w o
  exact ⟨by simp, hlo, k _ _ _ _ (k _ _ _ _ (k _ _ _ _ (k _ _ _ _ (k _ _ _ _ (nw _ _ _ rfl))))), k _ _ _ _ (k _ _ _ _ (k _ _ _ _ (k _ _ _ _ (nw _ _ _ (by simp))))), k _ _ _ _ (k _ _ _ _ (k _ _ _ _ (nw _ _ _ (by simp)))), k _ _ _ _ (k _ _ _ _ (nw _ _ _ (by simp))), k _ _ _ _ (nw _ _ _ (by simp)), nw _ _ _ (by simp), (((((hown.alloc _).alloc _).alloc _).alloc _).alloc _).alloc _, fun g hg => (hown.lt g hg).2, hr, hu, hm⟩
theorem six_below {w w2 : World} (h : Below w.heap.size w w2) (o1 o2 o3 o4 o5 o6 : Obj) : Below w.heap.size w ((((((w2.alloc o1).alloc o2).alloc o3).alloc o4).alloc o5).alloc o6) :=
  (((((h.alloc h.size o1).alloc (by simp; have := h.size; omega) o2).alloc (by simp; have := h.size; omega) o3).alloc (by simp; have := h.size; omega) o4).alloc (by simp; have := h.size; omega) o5).alloc (by simp; have := h.size; omega) o6
theorem made_fn (p : Option Addr) (c : Nat) (l : List StepV) (w : World) (h : StepsAt w p l) :
    Calls Tryz.prog 10 #[.slice p l.length c] w fun e w' => ∃ H pc cc, e = .returned (madeV H pc cc (codeF l) 2 5 (-5) 0 (-1)).val ∧ MadeAt w' (w.heap.size + 2) H pc cc (codeF l) 2 5 (-5) 0 ∧ Below w.heap.size w w' := by
  have h0 := Prog.begin (w.alloc BX7)
  have hl1 : l.length ≤ mostThings := h.most
  unfold mostThings at hl1
  have hrows := h.rows
  have hin := h.within
  obtain ⟨n, hn⟩ : ∃ n, l.length = n := ⟨_, rfl⟩
  rw [hn] at hl1 ⊢
  have HN := Lib.hid hn
  clear h hn
  go_enter Tryz.func10, Tryz.ntmps10
  go_wp2
  go_loopw [4] (fun i wr => ∃ (k : Nat) (s : PS), k ≤ n ∧ k ≤ 60 ∧ i = .int .i64 k ∧ s = runF (l.take k) ∧ Good s ∧ s.weight ≤ 20 * k ∧ Prog (w.alloc BX7) [] s wr) (fun i _ => n - (intOf i).toNat)
  case atStart => exact ⟨0, ⟨[], [], []⟩, by omega, by omega, rfl, (by rw [List.take_zero]; rfl), Good.none, by decide, h0⟩
  case round =>
    clear h0
    obtain ⟨k, s, hk, hk60, rfl, hsF, hg, hw, hP⟩ := hrel
    have HS := Lib.hid hsF
    clear hsF
    by_cases hlt : k < n ∧ k < 60
    · obtain ⟨hlt, h60⟩ := hlt
      have hle : k < l.length := by have := HN.out; omega
      have hB : Below w.heap.size w wr := by
        obtain ⟨cv, sv, ov, hA⟩ := hP
        exact ((Below.refl _ w).alloc (Nat.le_refl _) BX7).trans (hA.below.mono (by simp))
      have hr := hrows.below hB (Nat.le_refl _)
      obtain ⟨b1, o1, hp1, hb1, e0⟩ := hr k hle 0 _ rfl
      subst hp1
      have e1 := hr.cell hle 1 rfl
      have e2 := hr.cell hle 2 rfl
      have e3 := hr.cell hle 3 rfl
      have hx := hin _ (List.getElem_mem hle)
      have HT := Lib.hid (show l.take (k + 1) = l.take k ++ [l[k]] by rw [List.take_add_one, List.getElem?_eq_getElem hle]; rfl)
      have ce := does_at w BX7 s l[k] hx hg (by omega) wr hP
      have HW := Lib.hid hw
      generalize l[k] = x at *
      clear hr hP hg hin hrows hw
      obtain ⟨xk, xa, xb, xo⟩ := x
      simp only [Nat.add_zero] at e0 e1 e2 e3 ce
      go_wp2_with (go_at_call 14; refine ce.mono ?_; rintro e w1 ⟨rfl, h1, h2, h3⟩)
      go_roundw
      case rel => exact ⟨k + 1, _, by omega, by omega, by simp, by rw [HT.out, runF_snoc, ← HS.out], h1, by have := HW.out; omega, h3⟩
      case measure => simp [intOf]; omega
    · have hkk : k = min l.length 60 := by have := HN.out; omega
      have HS2 : Hid (s = runF (l.take 60)) := Lib.hid (by rw [HS.out]; congr 1; rw [hkk]; exact (by rw [Nat.min_comm]; exact List.take_eq_take_min.symm))
      clear hrows hin HN hkk HS
      have hw' : s.weight ≤ 1200 := by omega
      have hc : ¬ (k : Int) < n ∨ ((k : Int) < n ∧ ¬ (k : Int) < 60) := by omega
      clear hlt hw hk hk60 hl1
      obtain ⟨n0, hn0⟩ : ∃ n0, s.opens.length = n0 := ⟨_, rfl⟩
      rcases hc with h1 | ⟨h1, h2⟩
      all_goals
        go_wp2
        go_loopg [] n0 (fun gg wr2 => ∃ t : PS, (∃ d, d + gg = n0 ∧ t = shuts d s) ∧ Good t ∧ t.weight ≤ 1200 ∧ t.opens.length = gg ∧ Prog (w.alloc BX7) [] t wr2)
        case atStart => exact ⟨s, ⟨0, by omega, rfl⟩, hg, hw', hn0, hP⟩
        case round =>
          obtain ⟨t, hdt, hgt, hwt, hlt, hPt⟩ := hrel
          have HD := Lib.hid hdt
          have HN0 := Lib.hid hn0
          have HP := Lib.hid hPt
          have hwt2 : t.code.length + 4 * t.stack.length + 8 * t.opens.length ≤ 1200 := hwt
          obtain ⟨cv, sv, ov, hA⟩ := hPt
          obtain ⟨c0, c1, c2, f0, f1, f2⟩ := prog_cells hA
          rw [show (w.alloc BX7).heap.size = w.heap.size + 1 by simp] at c0 c1 c2 f0 f1 f2
          have hO := hA.opens
          rw [hlt] at hO
          obtain ⟨op, oc, rfl⟩ := own_any hO
          clear hO hA hg hw' hn0 hP hdt
          by_cases hz : gk = 0
          · subst hz
            have h0 : t.opens = [] := List.eq_nil_of_length_eq_zero hlt
            have cl := level_at w BX7 t h0 (by omega) _ HP.out
            have hs3 : t.code.length + 3 * t.stack.length ≤ 1200 := by omega
            go_wp2_with (first
              | (go_at_call 16; refine cl.mono ?_; rintro e w1 ⟨rfl, cs, hall, hcn, hlv, hp1⟩; have HL := Lib.hid hlv; clear hlv; have cp := put_at w BX7 { t with code := t.code ++ cs, stack := [] } (by simp only [List.length_append]; omega) _ hp1; clear c0 c1 c2 f0 f1 f2)
              | (go_at_call 17; refine cp.mono ?_; rintro e w2 ⟨rfl, hp2⟩; clear cp hp1; obtain ⟨n2, pc, cc, hn2, hown, hsz2, d0, r6, hbl⟩ := made_cells w _ hp2; clear hp2))
            have hd := hgt.done h0 cs hall
            have hm : (t.code ++ cs ++ [(⟨11, 0, 0⟩ : PI)]).length ≤ 10000 := by simp only [List.length_append, List.length_singleton]; omega
            have hFn : t.code ++ cs ++ [(⟨11, 0, 0⟩ : PI)] = codeF l := by
              obtain ⟨d, hd1, hd2⟩ := HD.out
              have hd3 : d = n0 := by omega
              unfold codeF
              rw [← HS2.out, HN0.out, ← hd3, ← hd2, HL.out]
            have HFn := Lib.hid hFn
            clear hFn
            generalize t.code ++ cs ++ [(⟨11, 0, 0⟩ : PI)] = L at *
            have hmade := made_six w2 hown hn2 (by omega) hd.2 hd.1 hm
            have hbl6 := six_below hbl
            subst hn2
            refine bodyPost_ret (v := (madeV w2.heap.size pc cc L 2 5 (-5) 0 (-1)).val) ?_ rfl ?_
            · rw [results_one_cell rfl]; simp [madeV, MoV.val]; go_simp
            · obtain rfl : L = codeF l := HFn.out
              refine ⟨w2.heap.size, pc, cc, rfl, ?_, ?_⟩
              · exact (((((((hmade.on (cell_grown _ _ _ _) (.inl (by omega))).on (cell_grown _ _ _ _) (.inl (by omega))).on (cell_grown _ _ _ _) (.inl (by omega))).on (cell_grown _ _ _ _) (.inl (by omega))).on (cell_grown _ _ _ _) (.inl (by omega))).on (cell_grown _ _ _ _) (.inl (by omega))).on (cell_grown _ _ _ _) (.inl (by omega)))
              · exact ((((((((hbl6 _ _ _ _ _ _).setCell (Nat.le_refl _) _).setCell (Nat.le_refl _) _).setCell (Nat.le_refl _) _).setCell (Nat.le_refl _) _).setCell (Nat.le_refl _) _).setCell (Nat.le_refl _) _).setCell (Nat.le_refl _) _)
          · have hpos : (0 : Int) < gk := by omega
            have h0 : t.opens ≠ [] := fun e => by rw [e] at hlt; simp at hlt; omega
            have ce := shut_at w BX7 t hgt h0 (by omega)
            go_wp2_with (go_at_call 15; refine (ce _ HP.out).mono ?_; rintro e w1 ⟨rfl, h1, h2, h3, h4⟩)
            go_roundg (gk - 1)
            case rel =>
              refine ⟨_, ?_, h1, by omega, by omega, h4⟩
              obtain ⟨d, hd1, hd2⟩ := HD.out
              exact ⟨d + 1, by omega, by rw [hd2, shuts_snoc]⟩
            case measure => omega
theorem codeF_ne (l : List StepV) : codeF l ≠ [] := by unfold codeF; simp
theorem made_of (p : Option Addr) (c : Nat) (l : List StepV) (w : World) (h : StepsAt w p l) :
    Calls Tryz.prog 10 #[.slice p l.length c] w fun e w' => ∃ H pc cc code, e = .returned (madeV H pc cc code 2 5 (-5) 0 (-1)).val ∧ MadeAt w' (w.heap.size + 2) H pc cc code 2 5 (-5) 0 ∧ code ≠ [] ∧ Below w.heap.size w w' := by
  refine (made_fn p c l w h).mono ?_
  rintro e w' ⟨H, pc, cc, h1, h2, h3⟩
  exact ⟨H, pc, cc, codeF l, h1, h2, codeF_ne l, h3⟩
end Go.Proofs.YtomffpibdinkaaaGreatDoor
