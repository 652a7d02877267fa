/-
  Package module's Right, walked: it tells what the document's own answer tells. Contracts that the proofs call; no statement is proved here.
-/
import Derived.Test.YtpamchagidnijaaGreatDoorModClos
import Derived.Test.YtpamchagidnijaaGreatDoorModRefMany
import Derived.Laws.EntriesVeiled
namespace Go.Proofs.YtpamchagidnijaaGreatDoor
open Go.RowKit

/-- What stands in memory while Right asks its lists: the module's cells, and the six function values that it keeps. -/
structure RIn (w0 : World) (cs : Array Value) (a3 a4 a5 a6 a7 a8 : Nat) (l3 l4 l5 l6 l7 l8 : Array Value) (W : World) : Prop where
  base : Below w0.heap.size w0 W
  in0 : w0.heap.size < W.heap.size
  box : ∀ j, W.cell? ⟨w0.heap.size, j, none⟩ = cs[j]?
  c3 : W.cell? ⟨a3, 0, none⟩ = some (.func (.func 164) #[] l3)
  c4 : W.cell? ⟨a4, 0, none⟩ = some (.func (.func 164) #[] l4)
  c5 : W.cell? ⟨a5, 0, none⟩ = some (.func (.func 164) #[] l5)
  c6 : W.cell? ⟨a6, 0, none⟩ = some (.func (.func 165) #[] l6)
  c7 : W.cell? ⟨a7, 0, none⟩ = some (.func (.func 165) #[] l7)
  c8 : W.cell? ⟨a8, 0, none⟩ = some (.func (.func 165) #[] l8)
  s3 : Says 164 l3 (.int .i64) anyInt (within 0 4294967295) W
  s4 : Says 164 l4 (.int .i64) anyInt (within (-1) 4294967295) W
  s5 : Says 164 l5 (.int .i64) anyInt (within (-2147483648) 2147483647) W
  s6 : Says 165 l6 .string anyStr (fun s => vtypes s.data.toList 4096) W
  s7 : Says 165 l7 .string anyStr (fun s => vtypes s.data.toList 1) W
  s8 : Says 165 l8 .string anyStr (fun s => vtypes s.data.toList 4096) W
theorem RIn.below {w0 W W' : World} {cs : Array Value} {a3 a4 a5 a6 a7 a8 : Nat} {l3 l4 l5 l6 l7 l8 : Array Value} (h : RIn w0 cs a3 a4 a5 a6 a7 a8 l3 l4 l5 l6 l7 l8 W) (hb : Below W.heap.size W W') : RIn w0 cs a3 a4 a5 a6 a7 a8 l3 l4 l5 l6 l7 l8 W' :=
  ⟨h.base.trans (hb.mono h.base.size), Nat.lt_of_lt_of_le h.in0 hb.size, fun j => (hb.cell (p := ⟨w0.heap.size, j, none⟩) h.in0).trans (h.box j), (hb.cell (p := ⟨a3, 0, none⟩) (in_heap h.c3)).trans h.c3, (hb.cell (p := ⟨a4, 0, none⟩) (in_heap h.c4)).trans h.c4, (hb.cell (p := ⟨a5, 0, none⟩) (in_heap h.c5)).trans h.c5, (hb.cell (p := ⟨a6, 0, none⟩) (in_heap h.c6)).trans h.c6, (hb.cell (p := ⟨a7, 0, none⟩) (in_heap h.c7)).trans h.c7, (hb.cell (p := ⟨a8, 0, none⟩) (in_heap h.c8)).trans h.c8, h.s3.later hb, h.s4.later hb, h.s5.later hb, h.s6.later hb, h.s7.later hb, h.s8.later hb⟩

theorem cell_below {W W' : World} {b o : Nat} {v : Value} (h : W.cell? ⟨b, o, none⟩ = some v) (hb : Below W.heap.size W W') : W'.cell? ⟨b, o, none⟩ = some v := (hb.cell (p := ⟨b, o, none⟩) (in_heap h)).trans h
theorem alloc_below (w : World) (o : Obj) : Below w.heap.size w (w.alloc o) := (Below.refl _ w).alloc (Nat.le_refl _) o
/-- The function values are made, and laid. -/
theorem rin_made {w w1 w2 w3 w4 w5 w6 : World} {cs : Array Value} {t t65 t36 : TypeId} {l3 l4 l5 l6 l7 l8 : Array Value} {W0 W1 W2 W6 : World}
    (h0 : W0 = w.alloc (.cells cs t)) (hb1 : Below W0.heap.size W0 w1) (hb2 : Below w1.heap.size w1 w2)
    (h1 : W1 = (w2.alloc (.cells #[.func (.func 164) #[] l3] t65)).alloc (.cells #[.func (.func 164) #[] l4] t65)) (hb3 : Below W1.heap.size W1 w3)
    (h2 : W2 = w3.alloc (.cells #[.func (.func 164) #[] l5] t65)) (hb4 : Below W2.heap.size W2 w4) (hb5 : Below w4.heap.size w4 w5) (hb6 : Below w5.heap.size w5 w6)
    (h6 : W6 = ((w6.alloc (.cells #[.func (.func 165) #[] l6] t36)).alloc (.cells #[.func (.func 165) #[] l7] t36)).alloc (.cells #[.func (.func 165) #[] l8] t36))
    (s3 : Says 164 l3 (.int .i64) anyInt (within 0 4294967295) w1)
    (s4 : Says 164 l4 (.int .i64) anyInt (within (-1) 4294967295) w2)
    (s5 : Says 164 l5 (.int .i64) anyInt (within (-2147483648) 2147483647) w3)
    (s6 : Says 165 l6 .string anyStr (fun s => vtypes s.data.toList 4096) w4)
    (s7 : Says 165 l7 .string anyStr (fun s => vtypes s.data.toList 1) w5)
    (s8 : Says 165 l8 .string anyStr (fun s => vtypes s.data.toList 4096) w6) :
    RIn w cs w2.heap.size (w2.heap.size + 1) w3.heap.size w6.heap.size (w6.heap.size + 1) (w6.heap.size + 1 + 1) l3 l4 l5 l6 l7 l8 W6 := by
  have bW6 : Below w6.heap.size w6 W6 := by
    rw [h6]; exact (((Below.refl _ w6).alloc (Nat.le_refl _) _).alloc (by simp) _).alloc (by simp; omega) _
  have b5 := bnext hb6 hb6.size bW6
  have b5' : Below w5.heap.size w5 W6 := hb6.trans (bW6.mono hb6.size)
  have b4 : Below w4.heap.size w4 W6 := hb5.trans (b5'.mono hb5.size)
  have b2 : Below W2.heap.size W2 W6 := hb4.trans (b4.mono hb4.size)
  have b3 : Below w3.heap.size w3 W6 := (by rw [h2]; exact alloc_below w3 _ : Below w3.heap.size w3 W2).trans (b2.mono (by rw [h2]; simp))
  have b1 : Below W1.heap.size W1 W6 := hb3.trans (b3.mono hb3.size)
  have bw2 : Below w2.heap.size w2 W6 := (by rw [h1]; exact ((Below.refl _ w2).alloc (Nat.le_refl _) _).alloc (by simp) _ : Below w2.heap.size w2 W1).trans (b1.mono (by rw [h1]; simp; omega))
  have bw1 : Below w1.heap.size w1 W6 := hb2.trans (bw2.mono hb2.size)
  have b0 : Below W0.heap.size W0 W6 := hb1.trans (bw1.mono hb1.size)
  have bw : Below w.heap.size w W6 := (by rw [h0]; exact alloc_below w _ : Below w.heap.size w W0).trans (b0.mono (by rw [h0]; simp))
  have hW0 : w.heap.size < W0.heap.size := by rw [h0]; simp
  refine ⟨bw, Nat.lt_of_lt_of_le hW0 b0.size, fun j => ?_, ?_, ?_, ?_, ?_, ?_, ?_, s3.later bw1, s4.later bw2, s5.later b3, s6.later b4, s7.later b5', s8.later bW6⟩
  · rw [b0.cell (p := ⟨w.heap.size, j, none⟩) hW0, h0, World.cell?_alloc_new]
  · refine cell_below ?_ b1; rw [h1, World.cell?_alloc_lt _ _ _ (by simp), World.cell?_alloc_new]; rfl
  · refine cell_below ?_ b1; rw [h1, show w2.heap.size + 1 = (w2.alloc (.cells #[.func (.func 164) #[] l3] t65)).heap.size by simp, World.cell?_alloc_new]; rfl
  · refine cell_below ?_ b2; rw [h2, World.cell?_alloc_new]; rfl
  · rw [h6, World.cell?_alloc_lt _ _ _ (by simp; omega), World.cell?_alloc_lt _ _ _ (by simp), World.cell?_alloc_new]; rfl
  · rw [h6, World.cell?_alloc_lt _ _ _ (by simp), show w6.heap.size + 1 = (w6.alloc (.cells #[.func (.func 165) #[] l6] t36)).heap.size by simp, World.cell?_alloc_new]; rfl
  · rw [h6, show w6.heap.size + 1 + 1 = ((w6.alloc (.cells #[.func (.func 165) #[] l6] t36)).alloc (.cells #[.func (.func 165) #[] l7] t36)).heap.size by simp, World.cell?_alloc_new]; rfl

theorem within_word (n : Int) : within 0 4294967295 n = word4 n := by unfold within word4; rw [decide_eq_decide]; omega
theorem within_none (n : Int) : within (-1) 4294967295 n = (decide (n = -1) || word4 n) := by unfold within word4; rw [Bool.eq_iff_iff]; simp; omega
theorem within_small (n : Int) : within (-2147483648) 2147483647 n = small4 n := by unfold within small4; rw [decide_eq_decide]; omega

/-- Right's parts, as the code asks them. -/
def right7 (m : MoV) : Bool := within (-1) 4294967295 m.start && ((decide (m.types.length ≤ 4096) && m.types.all rightTy) && ((decide (m.memory.length ≤ 4096) && m.memory.all rightMem) && ((decide (m.globals.length ≤ 4096) && m.globals.all rightGlob) && ((decide (m.exports.length ≤ 4096) && m.exports.all rightExp) && ((decide (m.data.length ≤ 4096) && m.data.all rightDat) && (decide (m.funcs.length ≤ 4096) && m.funcs.all rightFn))))))
theorem right7_is (m : MoV) : right7 m = rightMod m := by
  unfold right7 rightMod fewMod
  rw [within_none, Bool.eq_iff_iff]
  simp only [Bool.and_eq_true, Bool.or_eq_true, decide_eq_true_eq]
  grind
theorem rf_is : (fun f : FnV => within 0 4294967295 f.type && (vtypes f.locals.data.toList 4096 && (runs (opsOf f.code) [] && f.code.all rightIns))) = rightFn := by
  funext f; unfold rightFn; rw [within_word, Bool.eq_iff_iff]; simp only [Bool.and_eq_true]; grind

/-! The walk. -/
theorem RIn.fields {w W : World} {c0 c1 c2 c3 c4 c5 c6 : Value} {a3 a4 a5 a6 a7 a8 : Nat} {l3 l4 l5 l6 l7 l8 : Array Value} (h : RIn w #[c0, c1, c2, c3, c4, c5, c6] a3 a4 a5 a6 a7 a8 l3 l4 l5 l6 l7 l8 W) :
    W.cell? ⟨w.heap.size, 0, none⟩ = some c0 ∧ W.cell? ⟨w.heap.size, 1, none⟩ = some c1 ∧ W.cell? ⟨w.heap.size, 2, none⟩ = some c2 ∧ W.cell? ⟨w.heap.size, 3, none⟩ = some c3 ∧ W.cell? ⟨w.heap.size, 4, none⟩ = some c4 ∧ W.cell? ⟨w.heap.size, 5, none⟩ = some c5 ∧ W.cell? ⟨w.heap.size, 6, none⟩ = some c6 :=
  ⟨h.box 0, h.box 1, h.box 2, h.box 3, h.box 4, h.box 5, h.box 6⟩
theorem Says.congr {α : Type} {g : Nat} {lb : Array Value} {val : α → Value} {ok : World → α → Prop} {p q : α → Bool} {w0 : World} (h : Says g lb val ok p w0) (e : p = q) : Says g lb val ok q w0 := e ▸ h

theorem enters_r1 : ∀ args w, (callFunc 79 args).run Tryz.prog w = .ok (.enter 79 args) w := enters_of Tryz.func79 (by kernel_rfl) rfl
theorem right_types {w : World} (_ : Laid w) {m : MoV} (hm : ModAt w m) {cs : Array Value} (a3 a4 a5 a6 a7 a8 : Nat) (l3 l4 l5 l6 l7 l8 : Array Value) (W : World) (h : RIn w cs a3 a4 a5 a6 a7 a8 l3 l4 l5 l6 l7 l8 W) :
    Calls Tryz.prog 78 #[.slice m.tp m.types.length m.tc, .func (.func 79) #[] #[.pointer (some ⟨a6, 0, none⟩), .pointer (some ⟨a7, 0, none⟩)]] W fun e w' => e = .returned (.bool (decide (m.types.length ≤ 4096) && m.types.all rightTy)) ∧ Below W.heap.size W w' := by
  have hs := (r1_says W a6 a7 l6 l7 _ _ h.c6 h.c7 h.s6 h.s7).congr (q := rightTy) (rfl)
  exact short_TyV hs enters_r1 m.tp _ m.tc m.types rfl (by have := hm.typesMost; unfold mostThings at this; omega) W (Below.refl _ _) (hm.types.below h.base (Nat.le_refl _)) (fun x hx => hm.typesIn x hx)

theorem enters_r2 : ∀ args w, (callFunc 81 args).run Tryz.prog w = .ok (.enter 81 args) w := enters_of Tryz.func81 (by kernel_rfl) rfl
theorem right_memory {w : World} (_ : Laid w) {m : MoV} (hm : ModAt w m) {cs : Array Value} (a3 a4 a5 a6 a7 a8 : Nat) (l3 l4 l5 l6 l7 l8 : Array Value) (W : World) (h : RIn w cs a3 a4 a5 a6 a7 a8 l3 l4 l5 l6 l7 l8 W) :
    Calls Tryz.prog 80 #[.slice m.mp m.memory.length m.mc, .func (.func 81) #[] #[.pointer (some ⟨a3, 0, none⟩), .pointer (some ⟨a4, 0, none⟩)]] W fun e w' => e = .returned (.bool (decide (m.memory.length ≤ 4096) && m.memory.all rightMem)) ∧ Below W.heap.size W w' := by
  have hs := (r2_says W a3 a4 l3 l4 _ _ h.c3 h.c4 h.s3 h.s4).congr (q := rightMem) (by funext x; simp only [rightMem, within_word, within_none])
  exact short_MemV hs enters_r2 m.mp _ m.mc m.memory rfl (by have := hm.memoryMost; unfold mostThings at this; omega) W (Below.refl _ _) (hm.memory.below h.base (Nat.le_refl _)) (fun x hx => hm.memoryIn x hx)

theorem enters_r3 : ∀ args w, (callFunc 83 args).run Tryz.prog w = .ok (.enter 83 args) w := enters_of Tryz.func83 (by kernel_rfl) rfl
theorem right_globals {w : World} (_ : Laid w) {m : MoV} (hm : ModAt w m) {cs : Array Value} (a3 a4 a5 a6 a7 a8 : Nat) (l3 l4 l5 l6 l7 l8 : Array Value) (W : World) (h : RIn w cs a3 a4 a5 a6 a7 a8 l3 l4 l5 l6 l7 l8 W) :
    Calls Tryz.prog 82 #[.slice m.gp m.globals.length m.gc, .func (.func 83) #[] #[.pointer (some ⟨a5, 0, none⟩)]] W fun e w' => e = .returned (.bool (decide (m.globals.length ≤ 4096) && m.globals.all rightGlob)) ∧ Below W.heap.size W w' := by
  have hs := (r3_says W a5 l5 _ h.c5 h.s5).congr (q := rightGlob) (by funext x; simp only [rightGlob, within_small])
  exact short_GlobV hs enters_r3 m.gp _ m.gc m.globals rfl (by have := hm.globalsMost; unfold mostThings at this; omega) W (Below.refl _ _) (hm.globals.below h.base (Nat.le_refl _)) (fun x hx => hm.globalsIn x hx)

theorem enters_r4 : ∀ args w, (callFunc 85 args).run Tryz.prog w = .ok (.enter 85 args) w := enters_of Tryz.func85 (by kernel_rfl) rfl
theorem right_exports {w : World} (hL : Laid w) {m : MoV} (hm : ModAt w m) {cs : Array Value} (a3 a4 a5 a6 a7 a8 : Nat) (l3 l4 l5 l6 l7 l8 : Array Value) (W : World) (h : RIn w cs a3 a4 a5 a6 a7 a8 l3 l4 l5 l6 l7 l8 W) :
    Calls Tryz.prog 84 #[.slice m.ep m.exports.length m.ec, .func (.func 85) #[] #[.pointer (some ⟨a3, 0, none⟩)]] W fun e w' => e = .returned (.bool (decide (m.exports.length ≤ 4096) && m.exports.all rightExp)) ∧ Below W.heap.size W w' := by
  have hs := (r4_says W (hL.below h.base) a3 l3 _ h.c3 h.s3).congr (q := rightExp) (by funext x; simp only [rightExp, within_word])
  exact short_ExpV hs enters_r4 m.ep _ m.ec m.exports rfl (by have := hm.exportsMost; unfold mostThings at this; omega) W (Below.refl _ _) (hm.exports.below h.base (Nat.le_refl _)) (fun x hx => hm.exportsIn x hx)

theorem enters_r5 : ∀ args w, (callFunc 88 args).run Tryz.prog w = .ok (.enter 88 args) w := enters_of Tryz.func88 (by kernel_rfl) rfl
theorem right_data {w : World} (_ : Laid w) {m : MoV} (hm : ModAt w m) {cs : Array Value} (a3 a4 a5 a6 a7 a8 : Nat) (l3 l4 l5 l6 l7 l8 : Array Value) (W : World) (h : RIn w cs a3 a4 a5 a6 a7 a8 l3 l4 l5 l6 l7 l8 W) :
    Calls Tryz.prog 87 #[.slice m.dp m.data.length m.dc, .func (.func 88) #[] #[.pointer (some ⟨a5, 0, none⟩)]] W fun e w' => e = .returned (.bool (decide (m.data.length ≤ 4096) && m.data.all rightDat)) ∧ Below W.heap.size W w' := by
  have hs := (r5_says W a5 l5 _ h.c5 h.s5).congr (q := rightDat) (by funext x; simp only [rightDat, within_small])
  exact short_DatV hs enters_r5 m.dp _ m.dc m.data rfl (by have := hm.dataMost; unfold mostThings at this; omega) W (Below.refl _ _) (hm.data.below h.base (Nat.le_refl _)) (fun x hx => hm.dataIn x hx)

theorem enters_r6 : ∀ args w, (callFunc 90 args).run Tryz.prog w = .ok (.enter 90 args) w := enters_of Tryz.func90 (by kernel_rfl) rfl
theorem right_funcs {w : World} (hL : Laid w) {m : MoV} (hm : ModAt w m) {cs : Array Value} (a3 a4 a5 a6 a7 a8 : Nat) (l3 l4 l5 l6 l7 l8 : Array Value) (W : World) (h : RIn w cs a3 a4 a5 a6 a7 a8 l3 l4 l5 l6 l7 l8 W) :
    Calls Tryz.prog 89 #[.slice m.fp m.funcs.length m.fc, .func (.func 90) #[] #[.pointer (some ⟨a3, 0, none⟩), .pointer (some ⟨a8, 0, none⟩)]] W fun e w' => e = .returned (.bool (decide (m.funcs.length ≤ 4096) && m.funcs.all rightFn)) ∧ Below W.heap.size W w' := by
  have hs := (r6_says W (hL.below h.base) a3 a8 l3 l8 _ _ h.c3 h.c8 h.s3 h.s8).congr (q := rightFn) (rf_is)
  exact short_FnV hs enters_r6 m.fp _ m.fc m.funcs rfl (by have := hm.funcsMost; unfold mostThings at this; omega) W (Below.refl _ _) (hm.funcs.below h.base (Nat.le_refl _)) (fun w1 h1 x hx => (hm.funcsIn x hx).below (h.base.trans (h1.mono h.base.size)) (Nat.le_refl _))

set_option maxRecDepth 100000 in
set_option maxHeartbeats 8000000 in
theorem mod_right (m : MoV) (w : World) (hL : Laid w) (hm : ModAt w m) :
    Calls Tryz.prog 24 #[m.val] w fun e w' => e = .returned (.bool (rightMod m)) ∧ Below w.heap.size w w' := by
  rw [← right7_is]
  unfold right7
  have c0 := fun (a3 a4 a5 a6 a7 a8 : Nat) (l3 l4 l5 l6 l7 l8 : Array Value) (W : World) (h : RIn w #[.slice m.tp m.types.length m.tc, .slice m.fp m.funcs.length m.fc, .slice m.mp m.memory.length m.mc, .slice m.gp m.globals.length m.gc, .slice m.ep m.exports.length m.ec, .int .i64 m.start, .slice m.dp m.data.length m.dc] a3 a4 a5 a6 a7 a8 l3 l4 l5 l6 l7 l8 W) => h.s4 m.start W (Below.refl _ _) hm.startIn
  have c1 := fun (a3 a4 a5 a6 a7 a8 : Nat) (l3 l4 l5 l6 l7 l8 : Array Value) (W : World) (h : RIn w #[.slice m.tp m.types.length m.tc, .slice m.fp m.funcs.length m.fc, .slice m.mp m.memory.length m.mc, .slice m.gp m.globals.length m.gc, .slice m.ep m.exports.length m.ec, .int .i64 m.start, .slice m.dp m.data.length m.dc] a3 a4 a5 a6 a7 a8 l3 l4 l5 l6 l7 l8 W) => right_types hL hm a3 a4 a5 a6 a7 a8 l3 l4 l5 l6 l7 l8 W h
  have c2 := fun (a3 a4 a5 a6 a7 a8 : Nat) (l3 l4 l5 l6 l7 l8 : Array Value) (W : World) (h : RIn w #[.slice m.tp m.types.length m.tc, .slice m.fp m.funcs.length m.fc, .slice m.mp m.memory.length m.mc, .slice m.gp m.globals.length m.gc, .slice m.ep m.exports.length m.ec, .int .i64 m.start, .slice m.dp m.data.length m.dc] a3 a4 a5 a6 a7 a8 l3 l4 l5 l6 l7 l8 W) => right_memory hL hm a3 a4 a5 a6 a7 a8 l3 l4 l5 l6 l7 l8 W h
  have c3 := fun (a3 a4 a5 a6 a7 a8 : Nat) (l3 l4 l5 l6 l7 l8 : Array Value) (W : World) (h : RIn w #[.slice m.tp m.types.length m.tc, .slice m.fp m.funcs.length m.fc, .slice m.mp m.memory.length m.mc, .slice m.gp m.globals.length m.gc, .slice m.ep m.exports.length m.ec, .int .i64 m.start, .slice m.dp m.data.length m.dc] a3 a4 a5 a6 a7 a8 l3 l4 l5 l6 l7 l8 W) => right_globals hL hm a3 a4 a5 a6 a7 a8 l3 l4 l5 l6 l7 l8 W h
  have c4 := fun (a3 a4 a5 a6 a7 a8 : Nat) (l3 l4 l5 l6 l7 l8 : Array Value) (W : World) (h : RIn w #[.slice m.tp m.types.length m.tc, .slice m.fp m.funcs.length m.fc, .slice m.mp m.memory.length m.mc, .slice m.gp m.globals.length m.gc, .slice m.ep m.exports.length m.ec, .int .i64 m.start, .slice m.dp m.data.length m.dc] a3 a4 a5 a6 a7 a8 l3 l4 l5 l6 l7 l8 W) => right_exports hL hm a3 a4 a5 a6 a7 a8 l3 l4 l5 l6 l7 l8 W h
  have c5 := fun (a3 a4 a5 a6 a7 a8 : Nat) (l3 l4 l5 l6 l7 l8 : Array Value) (W : World) (h : RIn w #[.slice m.tp m.types.length m.tc, .slice m.fp m.funcs.length m.fc, .slice m.mp m.memory.length m.mc, .slice m.gp m.globals.length m.gc, .slice m.ep m.exports.length m.ec, .int .i64 m.start, .slice m.dp m.data.length m.dc] a3 a4 a5 a6 a7 a8 l3 l4 l5 l6 l7 l8 W) => right_data hL hm a3 a4 a5 a6 a7 a8 l3 l4 l5 l6 l7 l8 W h
  have c6 := fun (a3 a4 a5 a6 a7 a8 : Nat) (l3 l4 l5 l6 l7 l8 : Array Value) (W : World) (h : RIn w #[.slice m.tp m.types.length m.tc, .slice m.fp m.funcs.length m.fc, .slice m.mp m.memory.length m.mc, .slice m.gp m.globals.length m.gc, .slice m.ep m.exports.length m.ec, .int .i64 m.start, .slice m.dp m.data.length m.dc] a3 a4 a5 a6 a7 a8 l3 l4 l5 l6 l7 l8 W) => right_funcs hL hm a3 a4 a5 a6 a7 a8 l3 l4 l5 l6 l7 l8 W h
  simp only [MoV.val]
  generalize within (-1) 4294967295 m.start = S0 at c0 ⊢
  generalize (decide (m.types.length ≤ 4096) && m.types.all rightTy) = S1 at c1 ⊢
  generalize (decide (m.memory.length ≤ 4096) && m.memory.all rightMem) = S2 at c2 ⊢
  generalize (decide (m.globals.length ≤ 4096) && m.globals.all rightGlob) = S3 at c3 ⊢
  generalize (decide (m.exports.length ≤ 4096) && m.exports.all rightExp) = S4 at c4 ⊢
  generalize (decide (m.data.length ≤ 4096) && m.data.all rightDat) = S5 at c5 ⊢
  generalize (decide (m.funcs.length ≤ 4096) && m.funcs.all rightFn) = S6 at c6 ⊢
  clear hm hL
  obtain ⟨tp, tc, mt, fp, fc, mf, mp, mc, mm, gp, gc, mg, ep, ec, me, st, dp, dc, md⟩ := m
  simp only at *
  generalize mt.length = nt at *
  generalize mf.length = nf at *
  generalize mm.length = nm at *
  generalize mg.length = ng at *
  generalize me.length = ne at *
  generalize md.length = nd at *
  cases S0 with
  | false =>
    have eg := enters_within
    go_enter Tryz.func24, Tryz.ntmps24
    go_wp2_with (first
      | (go_at_call 76; (with_reducible refine (within_of 0 4294967295 _).mono ?_); rintro e w1 ⟨l3, rfl, s3, hb1⟩)
      | (go_at_call 76; (with_reducible refine (within_of (-1) 4294967295 _).mono ?_); rintro e w2 ⟨l4, rfl, s4, hb2⟩)
      | (go_at_call 76; (with_reducible refine (within_of (-2147483648) 2147483647 _).mono ?_); rintro e w3 ⟨l5, rfl, s5, hb3⟩)
      | (go_at_call 77; have tk := hb5; clear tk; (with_reducible refine (kinds_of 4096 _).mono ?_); rintro e w6 ⟨l8, rfl, s8, hb6⟩; have hI := rin_made (t36 := 69) rfl hb1 hb2 rfl hb3 rfl hb4 hb5 hb6 rfl s3 s4 s5 s6 s7 s8; clear s3 s4 s5 s6 s7 s8 hb1 hb2 hb3 hb4 hb5 hb6; have g9 := hI.c4; have ⟨g0, g1, g2, g3, g4, g5, g6⟩ := hI.fields)
      | (go_at_call 77; (with_reducible refine (kinds_of 4096 _).mono ?_); rintro e w4 ⟨l6, rfl, s6, hb4⟩)
      | (go_at_call 77; (with_reducible refine (kinds_of 1 _).mono ?_); rintro e w5 ⟨l7, rfl, s7, hb5⟩)
      | (go_at_fn 164; refine (c0 _ _ _ _ _ _ _ _ _ _ _ _ _ hI).mono ?_; rintro e W0 ⟨rfl, hc⟩; have hJ := hI.below hc; clear hI hc; have hI := hJ; clear hJ))
    go_ret
    exact ⟨rfl, hI.base⟩
  | true =>
    cases S1 with
    | false =>
      have eg := enters_within
      go_enter Tryz.func24, Tryz.ntmps24
      go_wp2_with (first
        | (go_at_call 76; (with_reducible refine (within_of 0 4294967295 _).mono ?_); rintro e w1 ⟨l3, rfl, s3, hb1⟩)
        | (go_at_call 76; (with_reducible refine (within_of (-1) 4294967295 _).mono ?_); rintro e w2 ⟨l4, rfl, s4, hb2⟩)
        | (go_at_call 76; (with_reducible refine (within_of (-2147483648) 2147483647 _).mono ?_); rintro e w3 ⟨l5, rfl, s5, hb3⟩)
        | (go_at_call 77; have tk := hb5; clear tk; (with_reducible refine (kinds_of 4096 _).mono ?_); rintro e w6 ⟨l8, rfl, s8, hb6⟩; have hI := rin_made (t36 := 69) rfl hb1 hb2 rfl hb3 rfl hb4 hb5 hb6 rfl s3 s4 s5 s6 s7 s8; clear s3 s4 s5 s6 s7 s8 hb1 hb2 hb3 hb4 hb5 hb6; have g9 := hI.c4; have ⟨g0, g1, g2, g3, g4, g5, g6⟩ := hI.fields)
        | (go_at_call 77; (with_reducible refine (kinds_of 4096 _).mono ?_); rintro e w4 ⟨l6, rfl, s6, hb4⟩)
        | (go_at_call 77; (with_reducible refine (kinds_of 1 _).mono ?_); rintro e w5 ⟨l7, rfl, s7, hb5⟩)
        | (go_at_fn 164; refine (c0 _ _ _ _ _ _ _ _ _ _ _ _ _ hI).mono ?_; rintro e W0 ⟨rfl, hc⟩; have hJ := hI.below hc; clear hI hc; have hI := hJ; clear hJ; clear g0 g1 g2 g3 g4 g5 g6; have ⟨g0, g1, g2, g3, g4, g5, g6⟩ := hI.fields)
        | (go_at_call 78; refine (c1 _ _ _ _ _ _ _ _ _ _ _ _ _ hI).mono ?_; rintro e W1 ⟨rfl, hc⟩; have hJ := hI.below hc; clear hI hc; have hI := hJ; clear hJ))
      go_ret
      exact ⟨rfl, hI.base⟩
    | true =>
      cases S2 with
      | false =>
        have eg := enters_within
        go_enter Tryz.func24, Tryz.ntmps24
        go_wp2_with (first
          | (go_at_call 76; (with_reducible refine (within_of 0 4294967295 _).mono ?_); rintro e w1 ⟨l3, rfl, s3, hb1⟩)
          | (go_at_call 76; (with_reducible refine (within_of (-1) 4294967295 _).mono ?_); rintro e w2 ⟨l4, rfl, s4, hb2⟩)
          | (go_at_call 76; (with_reducible refine (within_of (-2147483648) 2147483647 _).mono ?_); rintro e w3 ⟨l5, rfl, s5, hb3⟩)
          | (go_at_call 77; have tk := hb5; clear tk; (with_reducible refine (kinds_of 4096 _).mono ?_); rintro e w6 ⟨l8, rfl, s8, hb6⟩; have hI := rin_made (t36 := 69) rfl hb1 hb2 rfl hb3 rfl hb4 hb5 hb6 rfl s3 s4 s5 s6 s7 s8; clear s3 s4 s5 s6 s7 s8 hb1 hb2 hb3 hb4 hb5 hb6; have g9 := hI.c4; have ⟨g0, g1, g2, g3, g4, g5, g6⟩ := hI.fields)
          | (go_at_call 77; (with_reducible refine (kinds_of 4096 _).mono ?_); rintro e w4 ⟨l6, rfl, s6, hb4⟩)
          | (go_at_call 77; (with_reducible refine (kinds_of 1 _).mono ?_); rintro e w5 ⟨l7, rfl, s7, hb5⟩)
          | (go_at_fn 164; refine (c0 _ _ _ _ _ _ _ _ _ _ _ _ _ hI).mono ?_; rintro e W0 ⟨rfl, hc⟩; have hJ := hI.below hc; clear hI hc; have hI := hJ; clear hJ; clear g0 g1 g2 g3 g4 g5 g6; have ⟨g0, g1, g2, g3, g4, g5, g6⟩ := hI.fields)
          | (go_at_call 78; refine (c1 _ _ _ _ _ _ _ _ _ _ _ _ _ hI).mono ?_; rintro e W1 ⟨rfl, hc⟩; have hJ := hI.below hc; clear hI hc; have hI := hJ; clear hJ; clear g0 g1 g2 g3 g4 g5 g6; have ⟨g0, g1, g2, g3, g4, g5, g6⟩ := hI.fields)
          | (go_at_call 80; refine (c2 _ _ _ _ _ _ _ _ _ _ _ _ _ hI).mono ?_; rintro e W2 ⟨rfl, hc⟩; have hJ := hI.below hc; clear hI hc; have hI := hJ; clear hJ))
        go_ret
        exact ⟨rfl, hI.base⟩
      | true =>
        cases S3 with
        | false =>
          have eg := enters_within
          go_enter Tryz.func24, Tryz.ntmps24
          go_wp2_with (first
            | (go_at_call 76; (with_reducible refine (within_of 0 4294967295 _).mono ?_); rintro e w1 ⟨l3, rfl, s3, hb1⟩)
            | (go_at_call 76; (with_reducible refine (within_of (-1) 4294967295 _).mono ?_); rintro e w2 ⟨l4, rfl, s4, hb2⟩)
            | (go_at_call 76; (with_reducible refine (within_of (-2147483648) 2147483647 _).mono ?_); rintro e w3 ⟨l5, rfl, s5, hb3⟩)
            | (go_at_call 77; have tk := hb5; clear tk; (with_reducible refine (kinds_of 4096 _).mono ?_); rintro e w6 ⟨l8, rfl, s8, hb6⟩; have hI := rin_made (t36 := 69) rfl hb1 hb2 rfl hb3 rfl hb4 hb5 hb6 rfl s3 s4 s5 s6 s7 s8; clear s3 s4 s5 s6 s7 s8 hb1 hb2 hb3 hb4 hb5 hb6; have g9 := hI.c4; have ⟨g0, g1, g2, g3, g4, g5, g6⟩ := hI.fields)
            | (go_at_call 77; (with_reducible refine (kinds_of 4096 _).mono ?_); rintro e w4 ⟨l6, rfl, s6, hb4⟩)
            | (go_at_call 77; (with_reducible refine (kinds_of 1 _).mono ?_); rintro e w5 ⟨l7, rfl, s7, hb5⟩)
            | (go_at_fn 164; refine (c0 _ _ _ _ _ _ _ _ _ _ _ _ _ hI).mono ?_; rintro e W0 ⟨rfl, hc⟩; have hJ := hI.below hc; clear hI hc; have hI := hJ; clear hJ; clear g0 g1 g2 g3 g4 g5 g6; have ⟨g0, g1, g2, g3, g4, g5, g6⟩ := hI.fields)
            | (go_at_call 78; refine (c1 _ _ _ _ _ _ _ _ _ _ _ _ _ hI).mono ?_; rintro e W1 ⟨rfl, hc⟩; have hJ := hI.below hc; clear hI hc; have hI := hJ; clear hJ; clear g0 g1 g2 g3 g4 g5 g6; have ⟨g0, g1, g2, g3, g4, g5, g6⟩ := hI.fields)
            | (go_at_call 80; refine (c2 _ _ _ _ _ _ _ _ _ _ _ _ _ hI).mono ?_; rintro e W2 ⟨rfl, hc⟩; have hJ := hI.below hc; clear hI hc; have hI := hJ; clear hJ; clear g0 g1 g2 g3 g4 g5 g6; have ⟨g0, g1, g2, g3, g4, g5, g6⟩ := hI.fields)
            | (go_at_call 82; refine (c3 _ _ _ _ _ _ _ _ _ _ _ _ _ hI).mono ?_; rintro e W3 ⟨rfl, hc⟩; have hJ := hI.below hc; clear hI hc; have hI := hJ; clear hJ))
          go_ret
          exact ⟨rfl, hI.base⟩
        | true =>
          cases S4 with
          | false =>
            have eg := enters_within
            go_enter Tryz.func24, Tryz.ntmps24
            go_wp2_with (first
              | (go_at_call 76; (with_reducible refine (within_of 0 4294967295 _).mono ?_); rintro e w1 ⟨l3, rfl, s3, hb1⟩)
              | (go_at_call 76; (with_reducible refine (within_of (-1) 4294967295 _).mono ?_); rintro e w2 ⟨l4, rfl, s4, hb2⟩)
              | (go_at_call 76; (with_reducible refine (within_of (-2147483648) 2147483647 _).mono ?_); rintro e w3 ⟨l5, rfl, s5, hb3⟩)
              | (go_at_call 77; have tk := hb5; clear tk; (with_reducible refine (kinds_of 4096 _).mono ?_); rintro e w6 ⟨l8, rfl, s8, hb6⟩; have hI := rin_made (t36 := 69) rfl hb1 hb2 rfl hb3 rfl hb4 hb5 hb6 rfl s3 s4 s5 s6 s7 s8; clear s3 s4 s5 s6 s7 s8 hb1 hb2 hb3 hb4 hb5 hb6; have g9 := hI.c4; have ⟨g0, g1, g2, g3, g4, g5, g6⟩ := hI.fields)
              | (go_at_call 77; (with_reducible refine (kinds_of 4096 _).mono ?_); rintro e w4 ⟨l6, rfl, s6, hb4⟩)
              | (go_at_call 77; (with_reducible refine (kinds_of 1 _).mono ?_); rintro e w5 ⟨l7, rfl, s7, hb5⟩)
              | (go_at_fn 164; refine (c0 _ _ _ _ _ _ _ _ _ _ _ _ _ hI).mono ?_; rintro e W0 ⟨rfl, hc⟩; have hJ := hI.below hc; clear hI hc; have hI := hJ; clear hJ; clear g0 g1 g2 g3 g4 g5 g6; have ⟨g0, g1, g2, g3, g4, g5, g6⟩ := hI.fields)
              | (go_at_call 78; refine (c1 _ _ _ _ _ _ _ _ _ _ _ _ _ hI).mono ?_; rintro e W1 ⟨rfl, hc⟩; have hJ := hI.below hc; clear hI hc; have hI := hJ; clear hJ; clear g0 g1 g2 g3 g4 g5 g6; have ⟨g0, g1, g2, g3, g4, g5, g6⟩ := hI.fields)
              | (go_at_call 80; refine (c2 _ _ _ _ _ _ _ _ _ _ _ _ _ hI).mono ?_; rintro e W2 ⟨rfl, hc⟩; have hJ := hI.below hc; clear hI hc; have hI := hJ; clear hJ; clear g0 g1 g2 g3 g4 g5 g6; have ⟨g0, g1, g2, g3, g4, g5, g6⟩ := hI.fields)
              | (go_at_call 82; refine (c3 _ _ _ _ _ _ _ _ _ _ _ _ _ hI).mono ?_; rintro e W3 ⟨rfl, hc⟩; have hJ := hI.below hc; clear hI hc; have hI := hJ; clear hJ; clear g0 g1 g2 g3 g4 g5 g6; have ⟨g0, g1, g2, g3, g4, g5, g6⟩ := hI.fields)
              | (go_at_call 84; refine (c4 _ _ _ _ _ _ _ _ _ _ _ _ _ hI).mono ?_; rintro e W4 ⟨rfl, hc⟩; have hJ := hI.below hc; clear hI hc; have hI := hJ; clear hJ))
            go_ret
            exact ⟨rfl, hI.base⟩
          | true =>
            cases S5 with
            | false =>
              have eg := enters_within
              go_enter Tryz.func24, Tryz.ntmps24
              go_wp2_with (first
                | (go_at_call 76; (with_reducible refine (within_of 0 4294967295 _).mono ?_); rintro e w1 ⟨l3, rfl, s3, hb1⟩)
                | (go_at_call 76; (with_reducible refine (within_of (-1) 4294967295 _).mono ?_); rintro e w2 ⟨l4, rfl, s4, hb2⟩)
                | (go_at_call 76; (with_reducible refine (within_of (-2147483648) 2147483647 _).mono ?_); rintro e w3 ⟨l5, rfl, s5, hb3⟩)
                | (go_at_call 77; have tk := hb5; clear tk; (with_reducible refine (kinds_of 4096 _).mono ?_); rintro e w6 ⟨l8, rfl, s8, hb6⟩; have hI := rin_made (t36 := 69) rfl hb1 hb2 rfl hb3 rfl hb4 hb5 hb6 rfl s3 s4 s5 s6 s7 s8; clear s3 s4 s5 s6 s7 s8 hb1 hb2 hb3 hb4 hb5 hb6; have g9 := hI.c4; have ⟨g0, g1, g2, g3, g4, g5, g6⟩ := hI.fields)
                | (go_at_call 77; (with_reducible refine (kinds_of 4096 _).mono ?_); rintro e w4 ⟨l6, rfl, s6, hb4⟩)
                | (go_at_call 77; (with_reducible refine (kinds_of 1 _).mono ?_); rintro e w5 ⟨l7, rfl, s7, hb5⟩)
                | (go_at_fn 164; refine (c0 _ _ _ _ _ _ _ _ _ _ _ _ _ hI).mono ?_; rintro e W0 ⟨rfl, hc⟩; have hJ := hI.below hc; clear hI hc; have hI := hJ; clear hJ; clear g0 g1 g2 g3 g4 g5 g6; have ⟨g0, g1, g2, g3, g4, g5, g6⟩ := hI.fields)
                | (go_at_call 78; refine (c1 _ _ _ _ _ _ _ _ _ _ _ _ _ hI).mono ?_; rintro e W1 ⟨rfl, hc⟩; have hJ := hI.below hc; clear hI hc; have hI := hJ; clear hJ; clear g0 g1 g2 g3 g4 g5 g6; have ⟨g0, g1, g2, g3, g4, g5, g6⟩ := hI.fields)
                | (go_at_call 80; refine (c2 _ _ _ _ _ _ _ _ _ _ _ _ _ hI).mono ?_; rintro e W2 ⟨rfl, hc⟩; have hJ := hI.below hc; clear hI hc; have hI := hJ; clear hJ; clear g0 g1 g2 g3 g4 g5 g6; have ⟨g0, g1, g2, g3, g4, g5, g6⟩ := hI.fields)
                | (go_at_call 82; refine (c3 _ _ _ _ _ _ _ _ _ _ _ _ _ hI).mono ?_; rintro e W3 ⟨rfl, hc⟩; have hJ := hI.below hc; clear hI hc; have hI := hJ; clear hJ; clear g0 g1 g2 g3 g4 g5 g6; have ⟨g0, g1, g2, g3, g4, g5, g6⟩ := hI.fields)
                | (go_at_call 84; refine (c4 _ _ _ _ _ _ _ _ _ _ _ _ _ hI).mono ?_; rintro e W4 ⟨rfl, hc⟩; have hJ := hI.below hc; clear hI hc; have hI := hJ; clear hJ; clear g0 g1 g2 g3 g4 g5 g6; have ⟨g0, g1, g2, g3, g4, g5, g6⟩ := hI.fields)
                | (go_at_call 87; refine (c5 _ _ _ _ _ _ _ _ _ _ _ _ _ hI).mono ?_; rintro e W5 ⟨rfl, hc⟩; have hJ := hI.below hc; clear hI hc; have hI := hJ; clear hJ))
              go_ret
              exact ⟨rfl, hI.base⟩
            | true =>
              have eg := enters_within
              go_enter Tryz.func24, Tryz.ntmps24
              go_wp2_with (first
                | (go_at_call 76; (with_reducible refine (within_of 0 4294967295 _).mono ?_); rintro e w1 ⟨l3, rfl, s3, hb1⟩)
                | (go_at_call 76; (with_reducible refine (within_of (-1) 4294967295 _).mono ?_); rintro e w2 ⟨l4, rfl, s4, hb2⟩)
                | (go_at_call 76; (with_reducible refine (within_of (-2147483648) 2147483647 _).mono ?_); rintro e w3 ⟨l5, rfl, s5, hb3⟩)
                | (go_at_call 77; have tk := hb5; clear tk; (with_reducible refine (kinds_of 4096 _).mono ?_); rintro e w6 ⟨l8, rfl, s8, hb6⟩; have hI := rin_made (t36 := 69) rfl hb1 hb2 rfl hb3 rfl hb4 hb5 hb6 rfl s3 s4 s5 s6 s7 s8; clear s3 s4 s5 s6 s7 s8 hb1 hb2 hb3 hb4 hb5 hb6; have g9 := hI.c4; have ⟨g0, g1, g2, g3, g4, g5, g6⟩ := hI.fields)
                | (go_at_call 77; (with_reducible refine (kinds_of 4096 _).mono ?_); rintro e w4 ⟨l6, rfl, s6, hb4⟩)
                | (go_at_call 77; (with_reducible refine (kinds_of 1 _).mono ?_); rintro e w5 ⟨l7, rfl, s7, hb5⟩)
                | (go_at_fn 164; refine (c0 _ _ _ _ _ _ _ _ _ _ _ _ _ hI).mono ?_; rintro e W0 ⟨rfl, hc⟩; have hJ := hI.below hc; clear hI hc; have hI := hJ; clear hJ; clear g0 g1 g2 g3 g4 g5 g6; have ⟨g0, g1, g2, g3, g4, g5, g6⟩ := hI.fields)
                | (go_at_call 78; refine (c1 _ _ _ _ _ _ _ _ _ _ _ _ _ hI).mono ?_; rintro e W1 ⟨rfl, hc⟩; have hJ := hI.below hc; clear hI hc; have hI := hJ; clear hJ; clear g0 g1 g2 g3 g4 g5 g6; have ⟨g0, g1, g2, g3, g4, g5, g6⟩ := hI.fields)
                | (go_at_call 80; refine (c2 _ _ _ _ _ _ _ _ _ _ _ _ _ hI).mono ?_; rintro e W2 ⟨rfl, hc⟩; have hJ := hI.below hc; clear hI hc; have hI := hJ; clear hJ; clear g0 g1 g2 g3 g4 g5 g6; have ⟨g0, g1, g2, g3, g4, g5, g6⟩ := hI.fields)
                | (go_at_call 82; refine (c3 _ _ _ _ _ _ _ _ _ _ _ _ _ hI).mono ?_; rintro e W3 ⟨rfl, hc⟩; have hJ := hI.below hc; clear hI hc; have hI := hJ; clear hJ; clear g0 g1 g2 g3 g4 g5 g6; have ⟨g0, g1, g2, g3, g4, g5, g6⟩ := hI.fields)
                | (go_at_call 84; refine (c4 _ _ _ _ _ _ _ _ _ _ _ _ _ hI).mono ?_; rintro e W4 ⟨rfl, hc⟩; have hJ := hI.below hc; clear hI hc; have hI := hJ; clear hJ; clear g0 g1 g2 g3 g4 g5 g6; have ⟨g0, g1, g2, g3, g4, g5, g6⟩ := hI.fields)
                | (go_at_call 87; refine (c5 _ _ _ _ _ _ _ _ _ _ _ _ _ hI).mono ?_; rintro e W5 ⟨rfl, hc⟩; have hJ := hI.below hc; clear hI hc; have hI := hJ; clear hJ; clear g0 g1 g2 g3 g4 g5 g6; have ⟨g0, g1, g2, g3, g4, g5, g6⟩ := hI.fields)
                | (go_at_call 89; refine (c6 _ _ _ _ _ _ _ _ _ _ _ _ _ hI).mono ?_; rintro e W6 ⟨rfl, hc⟩; have hJ := hI.below hc; clear hI hc; have hI := hJ; clear hJ))
              go_ret
              exact ⟨by cases S6 <;> rfl, hI.base⟩
end Go.Proofs.YtpamchagidnijaaGreatDoor
