/-
  Facts and contracts that the proof calls.
-/
import Derived.Test.YtdinpakclmnacaaGreatDoorKfModAlike
import Derived.Test.YtdinpakclmnacaaGreatDoorKfModClos
namespace Go.Proofs.YtdinpakclmnacaaGreatDoor
set_option maxRecDepth 100000
set_option maxHeartbeats 16000000
open Go.RowKit
theorem equal_TyV (x y : TyV) (w : World) :
    Calls Tryz.prog 56 #[x.val, y.val] w fun e w' => e = .returned (.bool (sameTy x y)) ∧ Below w.heap.size w w' := by
  have hB := fun o o' => ((Below.refl w.heap.size w).alloc (Nat.le_refl _) o).alloc (by simp) o'
  obtain ⟨x0, x1⟩ := x
  obtain ⟨y0, y1⟩ := y
  simp only [TyV.val, sameTy]
  by_cases h0 : x0 = y0
  case neg =>
    have n0 : (x0.toList == y0.toList) = false := name_ne h0
    rw [decide_eq_false (by simp [h0])]
    clear h0
    go_enter Tryz.func56, Tryz.ntmps56
    go_wp2
    go_ret
    exact ⟨rfl, hB _ _⟩
  subst h0
  by_cases h1 : x1 = y1
  case neg =>
    have n1 : (x1.toList == y1.toList) = false := name_ne h1
    rw [decide_eq_false (by simp [h1])]
    clear h1
    go_enter Tryz.func56, Tryz.ntmps56
    go_wp2
    go_ret
    exact ⟨rfl, hB _ _⟩
  subst h1
  rw [decide_eq_true (by simp)]
  go_enter Tryz.func56, Tryz.ntmps56
  go_wp2
  go_ret
  exact ⟨rfl, hB _ _⟩
theorem enters_equal_TyV : ∀ args w, (callFunc 56 args).run Tryz.prog w = .ok (.enter 56 args) w := enters_of Tryz.func56 (by kernel_rfl) rfl
theorem equal_TyV_says (w0 : World) : Says2 56 #[] TyV.val anyTy sameTy w0 := fun x y w _ _ _ => equal_TyV x y w
theorem equal_MemV (x y : MemV) (w : World) :
    Calls Tryz.prog 58 #[x.val, y.val] w fun e w' => e = .returned (.bool (sameMem x y)) ∧ Below w.heap.size w w' := by
  have hB := fun o o' => ((Below.refl w.heap.size w).alloc (Nat.le_refl _) o).alloc (by simp) o'
  obtain ⟨x0, x1⟩ := x
  obtain ⟨y0, y1⟩ := y
  simp only [MemV.val, sameMem]
  by_cases h0 : x0 = y0
  case neg =>
    have n0 : (x0 == y0) = false := beq_eq_false_iff_ne.2 h0
    rw [decide_eq_false (by simp [h0])]
    clear h0
    go_enter Tryz.func58, Tryz.ntmps58
    go_wp2
    go_ret
    exact ⟨rfl, hB _ _⟩
  subst h0
  by_cases h1 : x1 = y1
  case neg =>
    have n1 : (x1 == y1) = false := beq_eq_false_iff_ne.2 h1
    rw [decide_eq_false (by simp [h1])]
    clear h1
    go_enter Tryz.func58, Tryz.ntmps58
    go_wp2
    go_ret
    exact ⟨rfl, hB _ _⟩
  subst h1
  rw [decide_eq_true (by simp)]
  go_enter Tryz.func58, Tryz.ntmps58
  go_wp2
  go_ret
  exact ⟨rfl, hB _ _⟩
theorem enters_equal_MemV : ∀ args w, (callFunc 58 args).run Tryz.prog w = .ok (.enter 58 args) w := enters_of Tryz.func58 (by kernel_rfl) rfl
theorem equal_MemV_says (w0 : World) : Says2 58 #[] MemV.val anyMem sameMem w0 := fun x y w _ _ _ => equal_MemV x y w
theorem equal_GlobV (x y : GlobV) (w : World) :
    Calls Tryz.prog 60 #[x.val, y.val] w fun e w' => e = .returned (.bool (sameGlob x y)) ∧ Below w.heap.size w w' := by
  have hB := fun o o' => ((Below.refl w.heap.size w).alloc (Nat.le_refl _) o).alloc (by simp) o'
  obtain ⟨x0, x1, x2⟩ := x
  obtain ⟨y0, y1, y2⟩ := y
  simp only [GlobV.val, sameGlob]
  by_cases h0 : x0 = y0
  case neg =>
    have n0 : (x0 == y0) = false := beq_eq_false_iff_ne.2 h0
    rw [decide_eq_false (by simp [h0])]
    clear h0
    go_enter Tryz.func60, Tryz.ntmps60
    go_wp2
    go_ret
    exact ⟨rfl, hB _ _⟩
  subst h0
  by_cases h1 : x1 = y1
  case neg =>
    have n1 : (x1 == y1) = false := beq_eq_false_iff_ne.2 h1
    rw [decide_eq_false (by simp [h1])]
    clear h1
    go_enter Tryz.func60, Tryz.ntmps60
    go_wp2
    go_ret
    exact ⟨rfl, hB _ _⟩
  subst h1
  by_cases h2 : x2 = y2
  case neg =>
    have n2 : (x2 == y2) = false := beq_eq_false_iff_ne.2 h2
    rw [decide_eq_false (by simp [h2])]
    clear h2
    go_enter Tryz.func60, Tryz.ntmps60
    go_wp2
    go_ret
    exact ⟨rfl, hB _ _⟩
  subst h2
  rw [decide_eq_true (by simp)]
  go_enter Tryz.func60, Tryz.ntmps60
  go_wp2
  go_ret
  exact ⟨rfl, hB _ _⟩
theorem enters_equal_GlobV : ∀ args w, (callFunc 60 args).run Tryz.prog w = .ok (.enter 60 args) w := enters_of Tryz.func60 (by kernel_rfl) rfl
theorem equal_GlobV_says (w0 : World) : Says2 60 #[] GlobV.val anyGlob sameGlob w0 := fun x y w _ _ _ => equal_GlobV x y w
theorem equal_ExpV (x y : ExpV) (w : World) :
    Calls Tryz.prog 62 #[x.val, y.val] w fun e w' => e = .returned (.bool (sameExp x y)) ∧ Below w.heap.size w w' := by
  have hB := fun o o' => ((Below.refl w.heap.size w).alloc (Nat.le_refl _) o).alloc (by simp) o'
  obtain ⟨x0, x1, x2⟩ := x
  obtain ⟨y0, y1, y2⟩ := y
  simp only [ExpV.val, sameExp]
  by_cases h0 : x0 = y0
  case neg =>
    have n0 : (x0.toList == y0.toList) = false := name_ne h0
    rw [decide_eq_false (by simp [h0])]
    clear h0
    go_enter Tryz.func62, Tryz.ntmps62
    go_wp2
    go_ret
    exact ⟨rfl, hB _ _⟩
  subst h0
  by_cases h1 : x1 = y1
  case neg =>
    have n1 : (x1 == y1) = false := beq_eq_false_iff_ne.2 h1
    rw [decide_eq_false (by simp [h1])]
    clear h1
    go_enter Tryz.func62, Tryz.ntmps62
    go_wp2
    go_ret
    exact ⟨rfl, hB _ _⟩
  subst h1
  by_cases h2 : x2 = y2
  case neg =>
    have n2 : (x2 == y2) = false := beq_eq_false_iff_ne.2 h2
    rw [decide_eq_false (by simp [h2])]
    clear h2
    go_enter Tryz.func62, Tryz.ntmps62
    go_wp2
    go_ret
    exact ⟨rfl, hB _ _⟩
  subst h2
  rw [decide_eq_true (by simp)]
  go_enter Tryz.func62, Tryz.ntmps62
  go_wp2
  go_ret
  exact ⟨rfl, hB _ _⟩
theorem enters_equal_ExpV : ∀ args w, (callFunc 62 args).run Tryz.prog w = .ok (.enter 62 args) w := enters_of Tryz.func62 (by kernel_rfl) rfl
theorem equal_ExpV_says (w0 : World) : Says2 62 #[] ExpV.val anyExp sameExp w0 := fun x y w _ _ _ => equal_ExpV x y w
theorem equal_DatV (x y : DatV) (w : World) :
    Calls Tryz.prog 64 #[x.val, y.val] w fun e w' => e = .returned (.bool (sameDat x y)) ∧ Below w.heap.size w w' := by
  have hB := fun o o' => ((Below.refl w.heap.size w).alloc (Nat.le_refl _) o).alloc (by simp) o'
  obtain ⟨x0, x1⟩ := x
  obtain ⟨y0, y1⟩ := y
  simp only [DatV.val, sameDat]
  by_cases h0 : x0 = y0
  case neg =>
    have n0 : (x0 == y0) = false := beq_eq_false_iff_ne.2 h0
    rw [decide_eq_false (by simp [h0])]
    clear h0
    go_enter Tryz.func64, Tryz.ntmps64
    go_wp2
    go_ret
    exact ⟨rfl, hB _ _⟩
  subst h0
  by_cases h1 : x1 = y1
  case neg =>
    have n1 : (x1.toList == y1.toList) = false := name_ne h1
    rw [decide_eq_false (by simp [h1])]
    clear h1
    go_enter Tryz.func64, Tryz.ntmps64
    go_wp2
    go_ret
    exact ⟨rfl, hB _ _⟩
  subst h1
  rw [decide_eq_true (by simp)]
  go_enter Tryz.func64, Tryz.ntmps64
  go_wp2
  go_ret
  exact ⟨rfl, hB _ _⟩
theorem enters_equal_DatV : ∀ args w, (callFunc 64 args).run Tryz.prog w = .ok (.enter 64 args) w := enters_of Tryz.func64 (by kernel_rfl) rfl
theorem equal_DatV_says (w0 : World) : Says2 64 #[] DatV.val anyDat sameDat w0 := fun x y w _ _ _ => equal_DatV x y w
def sameI (x y : Int) : Bool := decide (x = y)
theorem equal_Int (x y : Int) (w : World) : Calls Tryz.prog 150 #[.int .i64 x, .int .i64 y] w fun e w' => e = .returned (.bool (sameI x y)) ∧ Below w.heap.size w w' := by
  unfold sameI
  by_cases h : x = y
  · subst h
    rw [decide_eq_true rfl]
    go_enter Tryz.func150, Tryz.ntmps150
    go_wp2
    go_ret
    exact ⟨by simp, Below.refl _ _⟩
  · rw [decide_eq_false h]
    have n : (x == y) = false := beq_eq_false_iff_ne.2 h
    clear h
    go_enter Tryz.func150, Tryz.ntmps150
    go_wp2
    go_ret
    exact ⟨rfl, Below.refl _ _⟩
theorem enters_equal_Int : ∀ args w, (callFunc 150 args).run Tryz.prog w = .ok (.enter 150 args) w := enters_of Tryz.func150 (by kernel_rfl) rfl
theorem equal_Int_says (w0 : World) : Says2 150 #[] (.int .i64) anyI sameI w0 := fun x y w _ _ _ => equal_Int x y w
theorem sameL_ints : ∀ l m : List Int, sameL sameI l m = decide (l = m)
  | [], [] => by simp [sameL]
  | [], _ :: _ => by simp [sameL]
  | _ :: _, [] => by simp [sameL]
  | x :: l, y :: m => by rw [sameL, sameL_ints l m, sameI, Bool.eq_iff_iff]; simp
theorem sameL_code : ∀ l m : List InsV, sameL sameIns l m = sameCode l m
  | [], [] => rfl
  | [], _ :: _ => rfl
  | _ :: _, [] => rfl
  | x :: l, y :: m => by rw [sameL, sameCode, sameL_code l m]
theorem ints_rows {w : World} {p : Option Addr} {ls : List Int} (h : IntsAt w p ls) : RowsAt w p 1 Int.row4 ls := fun j hj i v hv => by
  obtain ⟨b, o, hp, hb, hc⟩ := h j hj
  cases i with
  | zero => exact ⟨b, o, hp, hb, by simp [Int.row4] at hv; subst hv; simpa using hc⟩
  | succ i => simp [Int.row4] at hv
theorem same_instr (x y : InsV) (w : World) (hX : InsAt w x) (hY : InsAt w y) :
    Calls Tryz.prog 68 #[x.val, y.val] w fun e w' => e = .returned (.bool (sameIns x y)) ∧ Below w.heap.size w w' := by
  have hB := fun o o' => ((Below.refl w.heap.size w).alloc (Nat.le_refl _) o).alloc (by simp) o'
  have c := fun o o' => alike_Int (equal_Int_says ((w.alloc o).alloc o')) enters_equal_Int x.lp y.lp x.ls.length y.ls.length x.lc y.lc x.ls y.ls rfl rfl (by have := hX.2.1; omega) (by have := hY.2.1; omega) ((w.alloc o).alloc o') (Below.refl _ _) (ints_rows (hX.1.below (hB o o') (Nat.le_refl _))) (ints_rows (hY.1.below (hB o o') (Nat.le_refl _))) (fun _ _ => trivial) (fun _ _ => trivial)
  rw [sameL_ints] at c
  have e : sameIns x y = (decide (x.op = y.op) && (decide (x.a = y.a) && (decide (x.b = y.b) && decide (x.ls = y.ls)))) := by unfold sameIns; rw [Bool.eq_iff_iff]; simp
  rw [e]
  clear e hX hY
  obtain ⟨xo, xa, xb, xp, xc, xl⟩ := x
  obtain ⟨yo, ya, yb, yp, yc, yl⟩ := y
  simp only [InsV.val] at *
  generalize decide (xl = yl) = V at *
  generalize xl.length = n at *
  generalize yl.length = m at *
  by_cases h1 : xo = yo
  case neg =>
    have n1 : (xo == yo) = false := beq_eq_false_iff_ne.2 h1
    rw [decide_eq_false h1, Bool.false_and]
    clear c h1
    go_enter Tryz.func68, Tryz.ntmps68
    go_wp2
    go_ret
    exact ⟨rfl, hB _ _⟩
  subst h1
  rw [decide_eq_true rfl, Bool.true_and]
  by_cases h2 : xa = ya
  case neg =>
    have n1 : (xa == ya) = false := beq_eq_false_iff_ne.2 h2
    rw [decide_eq_false h2, Bool.false_and]
    clear c h2
    go_enter Tryz.func68, Tryz.ntmps68
    go_wp2
    go_ret
    exact ⟨rfl, hB _ _⟩
  subst h2
  rw [decide_eq_true rfl, Bool.true_and]
  by_cases h3 : xb = yb
  case neg =>
    have n1 : (xb == yb) = false := beq_eq_false_iff_ne.2 h3
    rw [decide_eq_false h3, Bool.false_and]
    clear c h3
    go_enter Tryz.func68, Tryz.ntmps68
    go_wp2
    go_ret
    exact ⟨rfl, hB _ _⟩
  subst h3
  rw [decide_eq_true rfl, Bool.true_and]
  go_enter Tryz.func68, Tryz.ntmps68
  go_wp2_with (go_at_call 149; (with_reducible refine (c _ _).mono ?_); rintro e w1 ⟨rfl, hb1⟩)
  go_ret
  exact ⟨by cases V <;> rfl, (hB _ _).trans (hb1.mono (hB _ _).size)⟩
theorem enters_sameInstr : ∀ args w, (callFunc 68 args).run Tryz.prog w = .ok (.enter 68 args) w := enters_of Tryz.func68 (by kernel_rfl) rfl
theorem sameInstr_says (w0 : World) : Says2 68 #[] InsV.val InsAt sameIns w0 := fun x y w _ hx hy => same_instr x y w hx hy
theorem same_fn (x y : FnV) (w : World) (hX : FnAt w x) (hY : FnAt w y) :
    Calls Tryz.prog 66 #[x.val, y.val] w fun e w' => e = .returned (.bool (sameFn x y)) ∧ Below w.heap.size w w' := by
  have hB := fun o o' => ((Below.refl w.heap.size w).alloc (Nat.le_refl _) o).alloc (by simp) o'
  have c := fun o o' => alike_InsV (sameInstr_says ((w.alloc o).alloc o')) enters_sameInstr x.cp y.cp x.code.length y.code.length x.cc y.cc x.code y.code rfl rfl (by have := hX.1.2.2; omega) (by have := hY.1.2.2; omega) ((w.alloc o).alloc o') (Below.refl _ _) (hX.1.below (hB o o') (Nat.le_refl _)).1 (hY.1.below (hB o o') (Nat.le_refl _)).1 (fun w1 h1 z hz => (hX.1.below ((hB o o').trans (h1.mono (hB o o').size)) (Nat.le_refl _)).2.1 z hz) (fun w1 h1 z hz => (hY.1.below ((hB o o').trans (h1.mono (hB o o').size)) (Nat.le_refl _)).2.1 z hz)
  rw [sameL_code] at c
  have e : sameFn x y = (decide (x.type = y.type) && (decide (x.locals = y.locals) && sameCode x.code y.code)) := by unfold sameFn; rw [Bool.eq_iff_iff]; simp [and_assoc]
  rw [e]
  clear e hX hY
  obtain ⟨xt, xl, xp, xc, xk⟩ := x
  obtain ⟨yt, yl, yp, yc, yk⟩ := y
  simp only [FnV.val] at *
  generalize sameCode xk yk = V at *
  generalize xk.length = n at *
  generalize yk.length = m at *
  by_cases h1 : xt = yt
  case neg =>
    have n1 : (xt == yt) = false := beq_eq_false_iff_ne.2 h1
    rw [decide_eq_false h1, Bool.false_and]
    clear c h1
    go_enter Tryz.func66, Tryz.ntmps66
    go_wp2
    go_ret
    exact ⟨rfl, hB _ _⟩
  subst h1
  rw [decide_eq_true rfl, Bool.true_and]
  by_cases h2 : xl = yl
  case neg =>
    have n1 : (xl.toList == yl.toList) = false := name_ne h2
    rw [decide_eq_false h2, Bool.false_and]
    clear c h2
    go_enter Tryz.func66, Tryz.ntmps66
    go_wp2
    go_ret
    exact ⟨rfl, hB _ _⟩
  subst h2
  rw [decide_eq_true rfl, Bool.true_and]
  go_enter Tryz.func66, Tryz.ntmps66
  go_wp2_with (go_at_call 67; (with_reducible refine (c _ _).mono ?_); rintro e w1 ⟨rfl, hb1⟩)
  go_ret
  exact ⟨by cases V <;> rfl, (hB _ _).trans (hb1.mono (hB _ _).size)⟩
theorem enters_sameFn : ∀ args w, (callFunc 66 args).run Tryz.prog w = .ok (.enter 66 args) w := enters_of Tryz.func66 (by kernel_rfl) rfl
theorem sameFn_says (w0 : World) : Says2 66 #[] FnV.val FnAt sameFn w0 := fun x y w _ hx hy => same_fn x y w hx hy
end Go.Proofs.YtdinpakclmnacaaGreatDoor
namespace Go.Proofs.YtdinpakclmnacaaGreatDoor
set_option maxRecDepth 100000
set_option maxHeartbeats 16000000
open Go.RowKit
theorem same_types {w : World} {a b : MoV} (ha : ModAt w a) (hb : ModAt w b) (W : World) (hW : Below w.heap.size w W) :
    Calls Tryz.prog 55 #[.slice a.tp a.types.length a.tc, .slice b.tp b.types.length b.tc, .func (.func 56) #[] #[]] W fun e w' => e = .returned (.bool (sameL sameTy a.types b.types)) ∧ Below W.heap.size W w' :=
  alike_TyV (equal_TyV_says W) enters_equal_TyV a.tp b.tp _ _ a.tc b.tc a.types b.types rfl rfl (by have := ha.typesMost; unfold mostThings at this; omega) (by have := hb.typesMost; unfold mostThings at this; omega) W (Below.refl _ _) (ha.types.below hW (Nat.le_refl _)) (hb.types.below hW (Nat.le_refl _)) (fun x hx => ha.typesIn x hx) (fun x hx => hb.typesIn x hx)
theorem same_memory {w : World} {a b : MoV} (ha : ModAt w a) (hb : ModAt w b) (W : World) (hW : Below w.heap.size w W) :
    Calls Tryz.prog 57 #[.slice a.mp a.memory.length a.mc, .slice b.mp b.memory.length b.mc, .func (.func 58) #[] #[]] W fun e w' => e = .returned (.bool (sameL sameMem a.memory b.memory)) ∧ Below W.heap.size W w' :=
  alike_MemV (equal_MemV_says W) enters_equal_MemV a.mp b.mp _ _ a.mc b.mc a.memory b.memory rfl rfl (by have := ha.memoryMost; unfold mostThings at this; omega) (by have := hb.memoryMost; unfold mostThings at this; omega) W (Below.refl _ _) (ha.memory.below hW (Nat.le_refl _)) (hb.memory.below hW (Nat.le_refl _)) (fun x hx => ha.memoryIn x hx) (fun x hx => hb.memoryIn x hx)
theorem same_globals {w : World} {a b : MoV} (ha : ModAt w a) (hb : ModAt w b) (W : World) (hW : Below w.heap.size w W) :
    Calls Tryz.prog 59 #[.slice a.gp a.globals.length a.gc, .slice b.gp b.globals.length b.gc, .func (.func 60) #[] #[]] W fun e w' => e = .returned (.bool (sameL sameGlob a.globals b.globals)) ∧ Below W.heap.size W w' :=
  alike_GlobV (equal_GlobV_says W) enters_equal_GlobV a.gp b.gp _ _ a.gc b.gc a.globals b.globals rfl rfl (by have := ha.globalsMost; unfold mostThings at this; omega) (by have := hb.globalsMost; unfold mostThings at this; omega) W (Below.refl _ _) (ha.globals.below hW (Nat.le_refl _)) (hb.globals.below hW (Nat.le_refl _)) (fun x hx => ha.globalsIn x hx) (fun x hx => hb.globalsIn x hx)
theorem same_exports {w : World} {a b : MoV} (ha : ModAt w a) (hb : ModAt w b) (W : World) (hW : Below w.heap.size w W) :
    Calls Tryz.prog 61 #[.slice a.ep a.exports.length a.ec, .slice b.ep b.exports.length b.ec, .func (.func 62) #[] #[]] W fun e w' => e = .returned (.bool (sameL sameExp a.exports b.exports)) ∧ Below W.heap.size W w' :=
  alike_ExpV (equal_ExpV_says W) enters_equal_ExpV a.ep b.ep _ _ a.ec b.ec a.exports b.exports rfl rfl (by have := ha.exportsMost; unfold mostThings at this; omega) (by have := hb.exportsMost; unfold mostThings at this; omega) W (Below.refl _ _) (ha.exports.below hW (Nat.le_refl _)) (hb.exports.below hW (Nat.le_refl _)) (fun x hx => ha.exportsIn x hx) (fun x hx => hb.exportsIn x hx)
theorem same_data {w : World} {a b : MoV} (ha : ModAt w a) (hb : ModAt w b) (W : World) (hW : Below w.heap.size w W) :
    Calls Tryz.prog 63 #[.slice a.dp a.data.length a.dc, .slice b.dp b.data.length b.dc, .func (.func 64) #[] #[]] W fun e w' => e = .returned (.bool (sameL sameDat a.data b.data)) ∧ Below W.heap.size W w' :=
  alike_DatV (equal_DatV_says W) enters_equal_DatV a.dp b.dp _ _ a.dc b.dc a.data b.data rfl rfl (by have := ha.dataMost; unfold mostThings at this; omega) (by have := hb.dataMost; unfold mostThings at this; omega) W (Below.refl _ _) (ha.data.below hW (Nat.le_refl _)) (hb.data.below hW (Nat.le_refl _)) (fun x hx => ha.dataIn x hx) (fun x hx => hb.dataIn x hx)
theorem same_funcs {w : World} {a b : MoV} (ha : ModAt w a) (hb : ModAt w b) (W : World) (hW : Below w.heap.size w W) :
    Calls Tryz.prog 65 #[.slice a.fp a.funcs.length a.fc, .slice b.fp b.funcs.length b.fc, .func (.func 66) #[] #[]] W fun e w' => e = .returned (.bool (sameL sameFn a.funcs b.funcs)) ∧ Below W.heap.size W w' :=
  alike_FnV (sameFn_says W) enters_sameFn a.fp b.fp _ _ a.fc b.fc a.funcs b.funcs rfl rfl (by have := ha.funcsMost; unfold mostThings at this; omega) (by have := hb.funcsMost; unfold mostThings at this; omega) W (Below.refl _ _) (ha.funcs.below hW (Nat.le_refl _)) (hb.funcs.below hW (Nat.le_refl _)) (fun w1 h1 x hx => (ha.funcsIn x hx).below (hW.trans (h1.mono hW.size)) (Nat.le_refl _)) (fun w1 h1 x hx => (hb.funcsIn x hx).below (hW.trans (h1.mono hW.size)) (Nat.le_refl _))
theorem sameMod_is (a b : MoV) : sameMod a b = (decide (a.start = b.start) && (sameL sameTy a.types b.types && (sameL sameMem a.memory b.memory && (sameL sameGlob a.globals b.globals && (sameL sameExp a.exports b.exports && (sameL sameDat a.data b.data && sameL sameFn a.funcs b.funcs)))))) := by
  unfold sameMod; rw [Bool.eq_iff_iff]; simp only [Bool.and_eq_true]; grind
theorem mod_same (a b : MoV) (w : World) (ha : ModAt w a) (hb : ModAt w b) :
    Calls Tryz.prog 20 #[a.val, b.val] w fun e w' => e = .returned (.bool (sameMod a b)) ∧ Below w.heap.size w w' := by
  rw [sameMod_is]
  have c1 := fun W (hW : Below w.heap.size w W) => same_types ha hb W hW
  have c2 := fun W (hW : Below w.heap.size w W) => same_memory ha hb W hW
  have c3 := fun W (hW : Below w.heap.size w W) => same_globals ha hb W hW
  have c4 := fun W (hW : Below w.heap.size w W) => same_exports ha hb W hW
  have c5 := fun W (hW : Below w.heap.size w W) => same_data ha hb W hW
  have c6 := fun W (hW : Below w.heap.size w W) => same_funcs ha hb W hW
  simp only [MoV.val]
  generalize sameL sameTy a.types b.types = S1 at c1 ⊢
  generalize sameL sameMem a.memory b.memory = S2 at c2 ⊢
  generalize sameL sameGlob a.globals b.globals = S3 at c3 ⊢
  generalize sameL sameExp a.exports b.exports = S4 at c4 ⊢
  generalize sameL sameDat a.data b.data = S5 at c5 ⊢
  generalize sameL sameFn a.funcs b.funcs = S6 at c6 ⊢
  clear ha hb
  obtain ⟨atp, atc, amt, afp, afc, amf, amp, amc, amm, agp, agc, amg, aep, aec, ame, ast, adp, adc, amd⟩ := a
  obtain ⟨btp, btc, bmt, bfp, bfc, bmf, bmp, bmc, bmm, bgp, bgc, bmg, bep, bec, bme, bst, bdp, bdc, bmd⟩ := b
  simp only at *
  generalize amt.length = ant at *
  generalize amf.length = anf at *
  generalize amm.length = anm at *
  generalize amg.length = ang at *
  generalize ame.length = ane at *
  generalize amd.length = and at *
  generalize bmt.length = bnt at *
  generalize bmf.length = bnf at *
  generalize bmm.length = bnm at *
  generalize bmg.length = bng at *
  generalize bme.length = bne at *
  generalize bmd.length = bnd at *
  have hB0 : Below w.heap.size w ((w.alloc (.cells #[.slice atp ant atc, .slice afp anf afc, .slice amp anm amc, .slice agp ang agc, .slice aep ane aec, .int .i64 ast, .slice adp and adc] 35)).alloc (.cells #[.slice btp bnt btc, .slice bfp bnf bfc, .slice bmp bnm bmc, .slice bgp bng bgc, .slice bep bne bec, .int .i64 bst, .slice bdp bnd bdc] 35)) := ((Below.refl _ w).alloc (Nat.le_refl _) _).alloc (by simp) _
  have hI : Below (w.heap.size + 1 + 1) ((w.alloc (.cells #[.slice atp ant atc, .slice afp anf afc, .slice amp anm amc, .slice agp ang agc, .slice aep ane aec, .int .i64 ast, .slice adp and adc] 35)).alloc (.cells #[.slice btp bnt btc, .slice bfp bnf bfc, .slice bmp bnm bmc, .slice bgp bng bgc, .slice bep bne bec, .int .i64 bst, .slice bdp bnd bdc] 35)) ((w.alloc (.cells #[.slice atp ant atc, .slice afp anf afc, .slice amp anm amc, .slice agp ang agc, .slice aep ane aec, .int .i64 ast, .slice adp and adc] 35)).alloc (.cells #[.slice btp bnt btc, .slice bfp bnf bfc, .slice bmp bnm bmc, .slice bgp bng bgc, .slice bep bne bec, .int .i64 bst, .slice bdp bnd bdc] 35)) := Below.refl _ _
  have hs : w.heap.size + 1 + 1 ≤ ((w.alloc (.cells #[.slice atp ant atc, .slice afp anf afc, .slice amp anm amc, .slice agp ang agc, .slice aep ane aec, .int .i64 ast, .slice adp and adc] 35)).alloc (.cells #[.slice btp bnt btc, .slice bfp bnf bfc, .slice bmp bnm bmc, .slice bgp bng bgc, .slice bep bne bec, .int .i64 bst, .slice bdp bnd bdc] 35)).heap.size := by simp
  by_cases h0 : ast = bst
  case neg =>
    have n0 : (ast == bst) = false := beq_eq_false_iff_ne.2 h0
    rw [decide_eq_false h0, Bool.false_and]
    clear h0 c1 c2 c3 c4 c5 c6 hI
    go_enter Tryz.func20, Tryz.ntmps20
    go_wp2
    go_ret
    exact ⟨rfl, hB0⟩
  subst h0
  rw [decide_eq_true rfl, Bool.true_and]
  cases S1 with
  | false =>
    go_enter Tryz.func20, Tryz.ntmps20
    go_wp2_with (first
      | (go_at_call 55; (with_reducible refine (c1 _ hB0).mono ?_); rintro e w1 ⟨rfl, hc⟩; have hJ := bnext hI hs hc; have hz := Nat.le_trans hs hc.size; clear hI hs hc; have hI := hJ; have hs := hz; clear hJ hz))
    go_ret
    exact ⟨rfl, hB0.trans (hI.mono (by omega))⟩
  | true =>
    cases S2 with
    | false =>
      go_enter Tryz.func20, Tryz.ntmps20
      go_wp2_with (first
        | (go_at_call 55; (with_reducible refine (c1 _ hB0).mono ?_); rintro e w1 ⟨rfl, hc⟩; have hJ := bnext hI hs hc; have hz := Nat.le_trans hs hc.size; clear hI hs hc; have hI := hJ; have hs := hz; clear hJ hz; have ⟨⟨g0, g1, g2, g3, g4, g5, g6⟩, d0, d1, d2, d3, d4, d5, d6⟩ := boxMM hI)
        | (go_at_call 57; (with_reducible refine (c2 _ (hB0.trans (hI.mono (by omega)))).mono ?_); clear g0 g1 g2 g3 g4 g5 g6 d0 d1 d2 d3 d4 d5 d6; rintro e w2 ⟨rfl, hc⟩; have hJ := bnext hI hs hc; have hz := Nat.le_trans hs hc.size; clear hI hs hc; have hI := hJ; have hs := hz; clear hJ hz))
      go_ret
      exact ⟨rfl, hB0.trans (hI.mono (by omega))⟩
    | true =>
      cases S3 with
      | false =>
        go_enter Tryz.func20, Tryz.ntmps20
        go_wp2_with (first
          | (go_at_call 55; (with_reducible refine (c1 _ hB0).mono ?_); rintro e w1 ⟨rfl, hc⟩; have hJ := bnext hI hs hc; have hz := Nat.le_trans hs hc.size; clear hI hs hc; have hI := hJ; have hs := hz; clear hJ hz; have ⟨⟨g0, g1, g2, g3, g4, g5, g6⟩, d0, d1, d2, d3, d4, d5, d6⟩ := boxMM hI)
          | (go_at_call 57; (with_reducible refine (c2 _ (hB0.trans (hI.mono (by omega)))).mono ?_); clear g0 g1 g2 g3 g4 g5 g6 d0 d1 d2 d3 d4 d5 d6; rintro e w2 ⟨rfl, hc⟩; have hJ := bnext hI hs hc; have hz := Nat.le_trans hs hc.size; clear hI hs hc; have hI := hJ; have hs := hz; clear hJ hz; have ⟨⟨g0, g1, g2, g3, g4, g5, g6⟩, d0, d1, d2, d3, d4, d5, d6⟩ := boxMM hI)
          | (go_at_call 59; (with_reducible refine (c3 _ (hB0.trans (hI.mono (by omega)))).mono ?_); clear g0 g1 g2 g3 g4 g5 g6 d0 d1 d2 d3 d4 d5 d6; rintro e w3 ⟨rfl, hc⟩; have hJ := bnext hI hs hc; have hz := Nat.le_trans hs hc.size; clear hI hs hc; have hI := hJ; have hs := hz; clear hJ hz))
        go_ret
        exact ⟨rfl, hB0.trans (hI.mono (by omega))⟩
      | true =>
        cases S4 with
        | false =>
          go_enter Tryz.func20, Tryz.ntmps20
          go_wp2_with (first
            | (go_at_call 55; (with_reducible refine (c1 _ hB0).mono ?_); rintro e w1 ⟨rfl, hc⟩; have hJ := bnext hI hs hc; have hz := Nat.le_trans hs hc.size; clear hI hs hc; have hI := hJ; have hs := hz; clear hJ hz; have ⟨⟨g0, g1, g2, g3, g4, g5, g6⟩, d0, d1, d2, d3, d4, d5, d6⟩ := boxMM hI)
            | (go_at_call 57; (with_reducible refine (c2 _ (hB0.trans (hI.mono (by omega)))).mono ?_); clear g0 g1 g2 g3 g4 g5 g6 d0 d1 d2 d3 d4 d5 d6; rintro e w2 ⟨rfl, hc⟩; have hJ := bnext hI hs hc; have hz := Nat.le_trans hs hc.size; clear hI hs hc; have hI := hJ; have hs := hz; clear hJ hz; have ⟨⟨g0, g1, g2, g3, g4, g5, g6⟩, d0, d1, d2, d3, d4, d5, d6⟩ := boxMM hI)
            | (go_at_call 59; (with_reducible refine (c3 _ (hB0.trans (hI.mono (by omega)))).mono ?_); clear g0 g1 g2 g3 g4 g5 g6 d0 d1 d2 d3 d4 d5 d6; rintro e w3 ⟨rfl, hc⟩; have hJ := bnext hI hs hc; have hz := Nat.le_trans hs hc.size; clear hI hs hc; have hI := hJ; have hs := hz; clear hJ hz; have ⟨⟨g0, g1, g2, g3, g4, g5, g6⟩, d0, d1, d2, d3, d4, d5, d6⟩ := boxMM hI)
            | (go_at_call 61; (with_reducible refine (c4 _ (hB0.trans (hI.mono (by omega)))).mono ?_); clear g0 g1 g2 g3 g4 g5 g6 d0 d1 d2 d3 d4 d5 d6; rintro e w4 ⟨rfl, hc⟩; have hJ := bnext hI hs hc; have hz := Nat.le_trans hs hc.size; clear hI hs hc; have hI := hJ; have hs := hz; clear hJ hz))
          go_ret
          exact ⟨rfl, hB0.trans (hI.mono (by omega))⟩
        | true =>
          cases S5 with
          | false =>
            go_enter Tryz.func20, Tryz.ntmps20
            go_wp2_with (first
              | (go_at_call 55; (with_reducible refine (c1 _ hB0).mono ?_); rintro e w1 ⟨rfl, hc⟩; have hJ := bnext hI hs hc; have hz := Nat.le_trans hs hc.size; clear hI hs hc; have hI := hJ; have hs := hz; clear hJ hz; have ⟨⟨g0, g1, g2, g3, g4, g5, g6⟩, d0, d1, d2, d3, d4, d5, d6⟩ := boxMM hI)
              | (go_at_call 57; (with_reducible refine (c2 _ (hB0.trans (hI.mono (by omega)))).mono ?_); clear g0 g1 g2 g3 g4 g5 g6 d0 d1 d2 d3 d4 d5 d6; rintro e w2 ⟨rfl, hc⟩; have hJ := bnext hI hs hc; have hz := Nat.le_trans hs hc.size; clear hI hs hc; have hI := hJ; have hs := hz; clear hJ hz; have ⟨⟨g0, g1, g2, g3, g4, g5, g6⟩, d0, d1, d2, d3, d4, d5, d6⟩ := boxMM hI)
              | (go_at_call 59; (with_reducible refine (c3 _ (hB0.trans (hI.mono (by omega)))).mono ?_); clear g0 g1 g2 g3 g4 g5 g6 d0 d1 d2 d3 d4 d5 d6; rintro e w3 ⟨rfl, hc⟩; have hJ := bnext hI hs hc; have hz := Nat.le_trans hs hc.size; clear hI hs hc; have hI := hJ; have hs := hz; clear hJ hz; have ⟨⟨g0, g1, g2, g3, g4, g5, g6⟩, d0, d1, d2, d3, d4, d5, d6⟩ := boxMM hI)
              | (go_at_call 61; (with_reducible refine (c4 _ (hB0.trans (hI.mono (by omega)))).mono ?_); clear g0 g1 g2 g3 g4 g5 g6 d0 d1 d2 d3 d4 d5 d6; rintro e w4 ⟨rfl, hc⟩; have hJ := bnext hI hs hc; have hz := Nat.le_trans hs hc.size; clear hI hs hc; have hI := hJ; have hs := hz; clear hJ hz; have ⟨⟨g0, g1, g2, g3, g4, g5, g6⟩, d0, d1, d2, d3, d4, d5, d6⟩ := boxMM hI)
              | (go_at_call 63; (with_reducible refine (c5 _ (hB0.trans (hI.mono (by omega)))).mono ?_); clear g0 g1 g2 g3 g4 g5 g6 d0 d1 d2 d3 d4 d5 d6; rintro e w5 ⟨rfl, hc⟩; have hJ := bnext hI hs hc; have hz := Nat.le_trans hs hc.size; clear hI hs hc; have hI := hJ; have hs := hz; clear hJ hz))
            go_ret
            exact ⟨rfl, hB0.trans (hI.mono (by omega))⟩
          | true =>
            go_enter Tryz.func20, Tryz.ntmps20
            go_wp2_with (first
              | (go_at_call 55; (with_reducible refine (c1 _ hB0).mono ?_); rintro e w1 ⟨rfl, hc⟩; have hJ := bnext hI hs hc; have hz := Nat.le_trans hs hc.size; clear hI hs hc; have hI := hJ; have hs := hz; clear hJ hz; have ⟨⟨g0, g1, g2, g3, g4, g5, g6⟩, d0, d1, d2, d3, d4, d5, d6⟩ := boxMM hI)
              | (go_at_call 57; (with_reducible refine (c2 _ (hB0.trans (hI.mono (by omega)))).mono ?_); clear g0 g1 g2 g3 g4 g5 g6 d0 d1 d2 d3 d4 d5 d6; rintro e w2 ⟨rfl, hc⟩; have hJ := bnext hI hs hc; have hz := Nat.le_trans hs hc.size; clear hI hs hc; have hI := hJ; have hs := hz; clear hJ hz; have ⟨⟨g0, g1, g2, g3, g4, g5, g6⟩, d0, d1, d2, d3, d4, d5, d6⟩ := boxMM hI)
              | (go_at_call 59; (with_reducible refine (c3 _ (hB0.trans (hI.mono (by omega)))).mono ?_); clear g0 g1 g2 g3 g4 g5 g6 d0 d1 d2 d3 d4 d5 d6; rintro e w3 ⟨rfl, hc⟩; have hJ := bnext hI hs hc; have hz := Nat.le_trans hs hc.size; clear hI hs hc; have hI := hJ; have hs := hz; clear hJ hz; have ⟨⟨g0, g1, g2, g3, g4, g5, g6⟩, d0, d1, d2, d3, d4, d5, d6⟩ := boxMM hI)
              | (go_at_call 61; (with_reducible refine (c4 _ (hB0.trans (hI.mono (by omega)))).mono ?_); clear g0 g1 g2 g3 g4 g5 g6 d0 d1 d2 d3 d4 d5 d6; rintro e w4 ⟨rfl, hc⟩; have hJ := bnext hI hs hc; have hz := Nat.le_trans hs hc.size; clear hI hs hc; have hI := hJ; have hs := hz; clear hJ hz; have ⟨⟨g0, g1, g2, g3, g4, g5, g6⟩, d0, d1, d2, d3, d4, d5, d6⟩ := boxMM hI)
              | (go_at_call 63; (with_reducible refine (c5 _ (hB0.trans (hI.mono (by omega)))).mono ?_); clear g0 g1 g2 g3 g4 g5 g6 d0 d1 d2 d3 d4 d5 d6; rintro e w5 ⟨rfl, hc⟩; have hJ := bnext hI hs hc; have hz := Nat.le_trans hs hc.size; clear hI hs hc; have hI := hJ; have hs := hz; clear hJ hz; have ⟨⟨g0, g1, g2, g3, g4, g5, g6⟩, d0, d1, d2, d3, d4, d5, d6⟩ := boxMM hI)
              | (go_at_call 65; (with_reducible refine (c6 _ (hB0.trans (hI.mono (by omega)))).mono ?_); clear g0 g1 g2 g3 g4 g5 g6 d0 d1 d2 d3 d4 d5 d6; rintro e w6 ⟨rfl, hc⟩; have hJ := bnext hI hs hc; have hz := Nat.le_trans hs hc.size; clear hI hs hc; have hI := hJ; have hs := hz; clear hJ hz))
            go_ret
            exact ⟨by cases S6 <;> rfl, hB0.trans (hI.mono (by omega))⟩
end Go.Proofs.YtdinpakclmnacaaGreatDoor
