/-
  The statement on alignments, walked. Only its frame proves it.
-/
import Derived.Test.YtomffpibdinkaaaGreatDoorValHead
namespace Go.Proofs.YtomffpibdinkaaaGreatDoor
open Go.RowKit Go.Maps
set_option linter.unusedVariables false
set_option linter.unusedSimpArgs false

def alMod (T Mb : Option Addr) (mc : Nat) (mem : List MemV) : MoV := ⟨T, 1, [⟨⟨#[]⟩, ⟨#[]⟩⟩], none, 0, [], Mb, mc, mem, none, 0, [], none, 0, [], -1, none, 0, []⟩
def alCode (op a : Int) : List InsV := [⟨65, 0, 0, none, 0, []⟩, ⟨op, a, 0, none, 0, []⟩, ⟨26, 0, 0, none, 0, []⟩, ⟨11, 0, 0, none, 0, []⟩]
def alFn (p : Option Addr) (c : Nat) (op a : Int) : FnV := ⟨0, ⟨#[]⟩, p, c, alCode op a⟩
def AlAns (op mk a : Int) : Prop := ∀ (T Mb p : Option Addr) (c : Nat), funcAns (alMod T Mb 1 [⟨1, 1⟩]) (alFn p c op a) = (if a ≤ mk then 0 else 4) ∧ funcAns (alMod T none 0 []) (alFn p c op a) = 4
theorem alMod_at {W : World} {T : Nat} {Mb : Option Addr} {mc : Nat} {mem : List MemV} (hT : W.heap[T]? = some (.cells #[.string ⟨#[]⟩, .string ⟨#[]⟩] 51)) (hmem : RowsAt W Mb 2 MemV.row mem) (hin : ∀ t ∈ mem, inI64 t.min ∧ inI64 t.max) (hl : mem.length ≤ 1) : ModAt W (alMod (some ⟨T, 0, none⟩) Mb mc mem) where
  types := rows_block (l := [(⟨⟨#[]⟩, ⟨#[]⟩⟩ : TyV)]) hT rfl (fun x _ => rfl)
  typesIn := fun t ht => by cases List.mem_singleton.1 ht; exact ⟨by decide, by decide⟩
  typesMost := by show 1 ≤ mostThings; decide
  funcs := RowsAt.nil
  funcsIn := fun t ht => by cases ht
  funcsMost := Nat.zero_le _
  memory := hmem
  memoryIn := hin
  memoryMost := by show mem.length ≤ mostThings; unfold mostThings; omega
  globals := RowsAt.nil
  globalsIn := fun t ht => by cases ht
  globalsMost := Nat.zero_le _
  exports := RowsAt.nil
  exportsIn := fun t ht => by cases ht
  exportsMost := Nat.zero_le _
  startIn := by show inI64 (-1); exact ⟨by decide, by decide⟩
  data := RowsAt.nil
  dataIn := fun t ht => by cases ht
  dataMost := Nat.zero_le _
theorem alCode_ok {op a : Int} (h1 : inI64 op) (h2 : inI64 a) : ∀ x ∈ alCode op a, x.lp = none ∧ x.ls = [] ∧ inI64 x.op ∧ inI64 x.a ∧ inI64 x.b := by
  have h0 : inI64 0 := ⟨by decide, by decide⟩
  intro x hx
  rcases List.mem_cons.1 hx with rfl | hx
  · exact ⟨rfl, rfl, ⟨by decide, by decide⟩, h0, h0⟩
  rcases List.mem_cons.1 hx with rfl | hx
  · exact ⟨rfl, rfl, h1, h2, h0⟩
  rcases List.mem_cons.1 hx with rfl | hx
  · exact ⟨rfl, rfl, ⟨by decide, by decide⟩, h0, h0⟩
  · cases List.mem_singleton.1 hx; exact ⟨rfl, rfl, ⟨by decide, by decide⟩, h0, h0⟩
theorem al_0 (a : Nat) (ha : a < 5) : AlAns 40 2 a := match a, ha with
  | 0, _ => fun T Mb p c => ⟨by kernel_rfl, by kernel_rfl⟩
  | 1, _ => fun T Mb p c => ⟨by kernel_rfl, by kernel_rfl⟩
  | 2, _ => fun T Mb p c => ⟨by kernel_rfl, by kernel_rfl⟩
  | 3, _ => fun T Mb p c => ⟨by kernel_rfl, by kernel_rfl⟩
  | 4, _ => fun T Mb p c => ⟨by kernel_rfl, by kernel_rfl⟩
  | (_ + 5), h => absurd h (by omega)
theorem al_1 (a : Nat) (ha : a < 5) : AlAns 41 3 a := match a, ha with
  | 0, _ => fun T Mb p c => ⟨by kernel_rfl, by kernel_rfl⟩
  | 1, _ => fun T Mb p c => ⟨by kernel_rfl, by kernel_rfl⟩
  | 2, _ => fun T Mb p c => ⟨by kernel_rfl, by kernel_rfl⟩
  | 3, _ => fun T Mb p c => ⟨by kernel_rfl, by kernel_rfl⟩
  | 4, _ => fun T Mb p c => ⟨by kernel_rfl, by kernel_rfl⟩
  | (_ + 5), h => absurd h (by omega)
theorem al_2 (a : Nat) (ha : a < 5) : AlAns 44 0 a := match a, ha with
  | 0, _ => fun T Mb p c => ⟨by kernel_rfl, by kernel_rfl⟩
  | 1, _ => fun T Mb p c => ⟨by kernel_rfl, by kernel_rfl⟩
  | 2, _ => fun T Mb p c => ⟨by kernel_rfl, by kernel_rfl⟩
  | 3, _ => fun T Mb p c => ⟨by kernel_rfl, by kernel_rfl⟩
  | 4, _ => fun T Mb p c => ⟨by kernel_rfl, by kernel_rfl⟩
  | (_ + 5), h => absurd h (by omega)
theorem al_3 (a : Nat) (ha : a < 5) : AlAns 45 0 a := match a, ha with
  | 0, _ => fun T Mb p c => ⟨by kernel_rfl, by kernel_rfl⟩
  | 1, _ => fun T Mb p c => ⟨by kernel_rfl, by kernel_rfl⟩
  | 2, _ => fun T Mb p c => ⟨by kernel_rfl, by kernel_rfl⟩
  | 3, _ => fun T Mb p c => ⟨by kernel_rfl, by kernel_rfl⟩
  | 4, _ => fun T Mb p c => ⟨by kernel_rfl, by kernel_rfl⟩
  | (_ + 5), h => absurd h (by omega)
theorem al_4 (a : Nat) (ha : a < 5) : AlAns 46 1 a := match a, ha with
  | 0, _ => fun T Mb p c => ⟨by kernel_rfl, by kernel_rfl⟩
  | 1, _ => fun T Mb p c => ⟨by kernel_rfl, by kernel_rfl⟩
  | 2, _ => fun T Mb p c => ⟨by kernel_rfl, by kernel_rfl⟩
  | 3, _ => fun T Mb p c => ⟨by kernel_rfl, by kernel_rfl⟩
  | 4, _ => fun T Mb p c => ⟨by kernel_rfl, by kernel_rfl⟩
  | (_ + 5), h => absurd h (by omega)
theorem al_5 (a : Nat) (ha : a < 5) : AlAns 47 1 a := match a, ha with
  | 0, _ => fun T Mb p c => ⟨by kernel_rfl, by kernel_rfl⟩
  | 1, _ => fun T Mb p c => ⟨by kernel_rfl, by kernel_rfl⟩
  | 2, _ => fun T Mb p c => ⟨by kernel_rfl, by kernel_rfl⟩
  | 3, _ => fun T Mb p c => ⟨by kernel_rfl, by kernel_rfl⟩
  | 4, _ => fun T Mb p c => ⟨by kernel_rfl, by kernel_rfl⟩
  | (_ + 5), h => absurd h (by omega)
theorem al_6 (a : Nat) (ha : a < 5) : AlAns 48 0 a := match a, ha with
  | 0, _ => fun T Mb p c => ⟨by kernel_rfl, by kernel_rfl⟩
  | 1, _ => fun T Mb p c => ⟨by kernel_rfl, by kernel_rfl⟩
  | 2, _ => fun T Mb p c => ⟨by kernel_rfl, by kernel_rfl⟩
  | 3, _ => fun T Mb p c => ⟨by kernel_rfl, by kernel_rfl⟩
  | 4, _ => fun T Mb p c => ⟨by kernel_rfl, by kernel_rfl⟩
  | (_ + 5), h => absurd h (by omega)
theorem al_7 (a : Nat) (ha : a < 5) : AlAns 49 0 a := match a, ha with
  | 0, _ => fun T Mb p c => ⟨by kernel_rfl, by kernel_rfl⟩
  | 1, _ => fun T Mb p c => ⟨by kernel_rfl, by kernel_rfl⟩
  | 2, _ => fun T Mb p c => ⟨by kernel_rfl, by kernel_rfl⟩
  | 3, _ => fun T Mb p c => ⟨by kernel_rfl, by kernel_rfl⟩
  | 4, _ => fun T Mb p c => ⟨by kernel_rfl, by kernel_rfl⟩
  | (_ + 5), h => absurd h (by omega)
theorem al_8 (a : Nat) (ha : a < 5) : AlAns 50 1 a := match a, ha with
  | 0, _ => fun T Mb p c => ⟨by kernel_rfl, by kernel_rfl⟩
  | 1, _ => fun T Mb p c => ⟨by kernel_rfl, by kernel_rfl⟩
  | 2, _ => fun T Mb p c => ⟨by kernel_rfl, by kernel_rfl⟩
  | 3, _ => fun T Mb p c => ⟨by kernel_rfl, by kernel_rfl⟩
  | 4, _ => fun T Mb p c => ⟨by kernel_rfl, by kernel_rfl⟩
  | (_ + 5), h => absurd h (by omega)
theorem al_9 (a : Nat) (ha : a < 5) : AlAns 51 1 a := match a, ha with
  | 0, _ => fun T Mb p c => ⟨by kernel_rfl, by kernel_rfl⟩
  | 1, _ => fun T Mb p c => ⟨by kernel_rfl, by kernel_rfl⟩
  | 2, _ => fun T Mb p c => ⟨by kernel_rfl, by kernel_rfl⟩
  | 3, _ => fun T Mb p c => ⟨by kernel_rfl, by kernel_rfl⟩
  | 4, _ => fun T Mb p c => ⟨by kernel_rfl, by kernel_rfl⟩
  | (_ + 5), h => absurd h (by omega)
theorem al_10 (a : Nat) (ha : a < 5) : AlAns 52 2 a := match a, ha with
  | 0, _ => fun T Mb p c => ⟨by kernel_rfl, by kernel_rfl⟩
  | 1, _ => fun T Mb p c => ⟨by kernel_rfl, by kernel_rfl⟩
  | 2, _ => fun T Mb p c => ⟨by kernel_rfl, by kernel_rfl⟩
  | 3, _ => fun T Mb p c => ⟨by kernel_rfl, by kernel_rfl⟩
  | 4, _ => fun T Mb p c => ⟨by kernel_rfl, by kernel_rfl⟩
  | (_ + 5), h => absurd h (by omega)
theorem al_11 (a : Nat) (ha : a < 5) : AlAns 53 2 a := match a, ha with
  | 0, _ => fun T Mb p c => ⟨by kernel_rfl, by kernel_rfl⟩
  | 1, _ => fun T Mb p c => ⟨by kernel_rfl, by kernel_rfl⟩
  | 2, _ => fun T Mb p c => ⟨by kernel_rfl, by kernel_rfl⟩
  | 3, _ => fun T Mb p c => ⟨by kernel_rfl, by kernel_rfl⟩
  | 4, _ => fun T Mb p c => ⟨by kernel_rfl, by kernel_rfl⟩
  | (_ + 5), h => absurd h (by omega)
theorem al_all (k : Nat) (hk : k < 12) (a : Nat) (ha : a < 5) : ∃ op mk : Int, (#[.int .i64 40, .int .i64 41, .int .i64 44, .int .i64 45, .int .i64 46, .int .i64 47, .int .i64 48, .int .i64 49, .int .i64 50, .int .i64 51, .int .i64 52, .int .i64 53] : Array Value)[k]? = some (.int .i64 op) ∧ (#[.int .i64 2, .int .i64 3, .int .i64 0, .int .i64 0, .int .i64 1, .int .i64 1, .int .i64 0, .int .i64 0, .int .i64 1, .int .i64 1, .int .i64 2, .int .i64 2] : Array Value)[k]? = some (.int .i64 mk) ∧ inI64 op ∧ inI64 mk ∧ AlAns op mk a := match k, hk with
  | 0, _ => ⟨40, 2, rfl, rfl, ⟨by decide, by decide⟩, ⟨by decide, by decide⟩, al_0 a ha⟩
  | 1, _ => ⟨41, 3, rfl, rfl, ⟨by decide, by decide⟩, ⟨by decide, by decide⟩, al_1 a ha⟩
  | 2, _ => ⟨44, 0, rfl, rfl, ⟨by decide, by decide⟩, ⟨by decide, by decide⟩, al_2 a ha⟩
  | 3, _ => ⟨45, 0, rfl, rfl, ⟨by decide, by decide⟩, ⟨by decide, by decide⟩, al_3 a ha⟩
  | 4, _ => ⟨46, 1, rfl, rfl, ⟨by decide, by decide⟩, ⟨by decide, by decide⟩, al_4 a ha⟩
  | 5, _ => ⟨47, 1, rfl, rfl, ⟨by decide, by decide⟩, ⟨by decide, by decide⟩, al_5 a ha⟩
  | 6, _ => ⟨48, 0, rfl, rfl, ⟨by decide, by decide⟩, ⟨by decide, by decide⟩, al_6 a ha⟩
  | 7, _ => ⟨49, 0, rfl, rfl, ⟨by decide, by decide⟩, ⟨by decide, by decide⟩, al_7 a ha⟩
  | 8, _ => ⟨50, 1, rfl, rfl, ⟨by decide, by decide⟩, ⟨by decide, by decide⟩, al_8 a ha⟩
  | 9, _ => ⟨51, 1, rfl, rfl, ⟨by decide, by decide⟩, ⟨by decide, by decide⟩, al_9 a ha⟩
  | 10, _ => ⟨52, 2, rfl, rfl, ⟨by decide, by decide⟩, ⟨by decide, by decide⟩, al_10 a ha⟩
  | 11, _ => ⟨53, 2, rfl, rfl, ⟨by decide, by decide⟩, ⟨by decide, by decide⟩, al_11 a ha⟩
  | (_ + 12), h => absurd h (by omega)
set_option maxRecDepth 100000 in
set_option maxHeartbeats 8000000 in
theorem validAligns_walk (which align : Int) (hw : 0 ≤ which ∧ which ≤ 255) (hal : 0 ≤ align ∧ align ≤ 255) (w : World) (hLaid : Laid w) :
    Calls Tryz.prog 6 #[.int .u8 which, .int .u8 align] w fun e w' => e = .returned (.bool true) ∧ Below w.heap.size w w' := by
  have cH := examples7 w hLaid
  obtain ⟨kn, hkn, hk12⟩ : ∃ kn : Nat, Int.tmod which 12 = (kn : Int) ∧ kn < 12 := ⟨(which % 12).toNat, by rw [Int.tmod_eq_emod_of_nonneg hw.1]; omega, by omega⟩
  obtain ⟨an, han, ha5⟩ : ∃ an : Nat, Int.tmod align 5 = (an : Int) ∧ an < 5 := ⟨(align % 5).toNat, by rw [Int.tmod_eq_emod_of_nonneg hal.1]; omega, by omega⟩
  obtain ⟨op, mk, hL, hM, hop, hmk, hans⟩ := al_all kn hk12 an ha5
  have u1 : IntKind.u8.wrap (an : Int) = (an : Int) := by rw [IntKind.wrap_u8]; omega
  have u2 : IntKind.i64.wrap (an : Int) = (an : Int) := IntWalk.i64_in _ (by omega)
  have u3 : IntKind.i64.wrap (kn : Int) = (kn : Int) := IntWalk.i64_in _ (by omega)
  have u4 : IntKind.i64.wrap which = which := IntWalk.i64_in _ (by omega)
  have z0 : (0 : Int) ≤ (kn : Int) := by omega
  have z1 : (kn : Int) < 12 := by omega
  have HANS := Lib.hid hans
  have hai : inI64 (an : Int) := ⟨by omega, by omega⟩
  have HCO := Lib.hid (alCode_ok hop hai)
  clear hans hk12 ha5 hop hmk hai
  go_enter Tryz.func6, Tryz.ntmps6
  go_wp2_with fail
  refine cH.mono ?_
  rintro e w1 ⟨rfl, hB1⟩
  clear cH
  go_wp2_with fail
  obtain ⟨W2, hW2⟩ : ∃ W, W = (((((((w1.alloc (.cells #[.int .i64 40, .int .i64 41, .int .i64 44, .int .i64 45, .int .i64 46, .int .i64 47, .int .i64 48, .int .i64 49, .int .i64 50, .int .i64 51, .int .i64 52, .int .i64 53] 3)).alloc (.cells #[.int .i64 2, .int .i64 3, .int .i64 0, .int .i64 0, .int .i64 1, .int .i64 1, .int .i64 0, .int .i64 0, .int .i64 1, .int .i64 1, .int .i64 2, .int .i64 2] 2)).alloc (.cells #[.int .i64 65, .int .i64 0, .int .i64 0, .slice none 0 0, .int .i64 op, .int .i64 (an : Int), .int .i64 0, .slice none 0 0, .int .i64 26, .int .i64 0, .int .i64 0, .slice none 0 0, .int .i64 11, .int .i64 0, .int .i64 0, .slice none 0 0] 38)).alloc (.cells #[.int .i64 0, .string ⟨#[]⟩, .slice (some ⟨w1.heap.size + 1 + 1, 0, none⟩) 4 4] 35)).alloc (.cells #[.string ⟨#[]⟩, .string ⟨#[]⟩] 51)).alloc (.cells #[.int .i64 1, .int .i64 1] 47)).alloc (.cells #[.slice (some ⟨w1.heap.size + 1 + 1 + 1 + 1, 0, none⟩) 1 1, .slice none 0 0, .slice (some ⟨w1.heap.size + 1 + 1 + 1 + 1 + 1, 0, none⟩) 1 1, .slice none 0 0, .slice none 0 0, .int .i64 (-1), .slice none 0 0] 31)) := ⟨_, rfl⟩
  have hB2 : Below w.heap.size w W2 := by
    rw [hW2]
    exact ((((((hB1.alloc hB1.size _).alloc (by simp only [push_size7]; have := hB1.size; omega) _).alloc (by simp only [push_size7]; have := hB1.size; omega) _).alloc (by simp only [push_size7]; have := hB1.size; omega) _).alloc (by simp only [push_size7]; have := hB1.size; omega) _).alloc (by simp only [push_size7]; have := hB1.size; omega) _).alloc (by simp only [push_size7]; have := hB1.size; omega) _
  have k1 : W2.heap[w1.heap.size + 1]? = some (.cells #[.int .i64 2, .int .i64 3, .int .i64 0, .int .i64 0, .int .i64 1, .int .i64 1, .int .i64 0, .int .i64 0, .int .i64 1, .int .i64 1, .int .i64 2, .int .i64 2] 2) := by rw [hW2]; simp only [push7, push_size7]; rw [if_neg (by omega), if_neg (by omega), if_neg (by omega), if_neg (by omega), if_neg (by omega), if_pos trivial]
  have k2 : W2.heap[w1.heap.size + 1 + 1]? = some (.cells #[.int .i64 65, .int .i64 0, .int .i64 0, .slice none 0 0, .int .i64 op, .int .i64 (an : Int), .int .i64 0, .slice none 0 0, .int .i64 26, .int .i64 0, .int .i64 0, .slice none 0 0, .int .i64 11, .int .i64 0, .int .i64 0, .slice none 0 0] 38) := by rw [hW2]; simp only [push7, push_size7]; rw [if_neg (by omega), if_neg (by omega), if_neg (by omega), if_neg (by omega), if_pos trivial]
  have k3 : W2.heap[w1.heap.size + 1 + 1 + 1]? = some (.cells #[.int .i64 0, .string ⟨#[]⟩, .slice (some ⟨w1.heap.size + 1 + 1, 0, none⟩) 4 4] 35) := by rw [hW2]; simp only [push7, push_size7]; rw [if_neg (by omega), if_neg (by omega), if_neg (by omega), if_pos trivial]
  have k4 : W2.heap[w1.heap.size + 1 + 1 + 1 + 1]? = some (.cells #[.string ⟨#[]⟩, .string ⟨#[]⟩] 51) := by rw [hW2]; simp only [push7, push_size7]; rw [if_neg (by omega), if_neg (by omega), if_pos trivial]
  have k5 : W2.heap[w1.heap.size + 1 + 1 + 1 + 1 + 1]? = some (.cells #[.int .i64 1, .int .i64 1] 47) := by rw [hW2]; simp only [push7, push_size7]; rw [if_neg (by omega), if_pos trivial]
  have k6 : W2.heap[w1.heap.size + 1 + 1 + 1 + 1 + 1 + 1]? = some (.cells #[.slice (some ⟨w1.heap.size + 1 + 1 + 1 + 1, 0, none⟩) 1 1, .slice none 0 0, .slice (some ⟨w1.heap.size + 1 + 1 + 1 + 1 + 1, 0, none⟩) 1 1, .slice none 0 0, .slice none 0 0, .int .i64 (-1), .slice none 0 0] 31) := by rw [hW2]; simp only [push7, push_size7]; rw [if_pos trivial]
  have hf2 : FnAt W2 (alFn (some ⟨w1.heap.size + 1 + 1, 0, none⟩) 4 op an) := ⟨code_new (l := alCode op an) k2 HCO.out (by show (4 : Nat) ≤ _; decide), (by show (0 : Nat) ≤ _; decide), (by show inI64 0; exact ⟨by decide, by decide⟩)⟩
  have hm2 : ModAt W2 (alMod (some ⟨w1.heap.size + 1 + 1 + 1 + 1, 0, none⟩) (some ⟨w1.heap.size + 1 + 1 + 1 + 1 + 1, 0, none⟩) 1 [⟨1, 1⟩]) := alMod_at k4 (rows_block (l := [(⟨1, 1⟩ : MemV)]) k5 rfl (fun x _ => rfl)) (fun t ht => by cases List.mem_singleton.1 ht; exact ⟨⟨by decide, by decide⟩, ⟨by decide, by decide⟩⟩) (Nat.le_refl _)
  have c1 := v_func W2 (hLaid.below hB2) _ hm2 _ hf2 (by show (4 : Nat) ≤ _; decide)
  rw [(HANS.out _ _ _ _).1] at c1
  obtain ⟨r1, hr1⟩ : ∃ r : Int, (if (an : Int) ≤ mk then 0 else 4) = r := ⟨_, rfl⟩
  rw [hr1] at c1
  have HR1 := Lib.hid hr1
  unfold MoV.val alMod FnV.val alFn at c1
  simp only [alCode, List.length_cons, List.length_nil, Nat.zero_add] at c1
  have hl1 := in_heap7 k1
  have hl3 := in_heap7 k3
  have hl4 := in_heap7 k4
  have hl6 := in_heap7 k6
  have hl2 := in_heap7 k2
  clear hr1 hm2 k5
  go_wp2_with fail
  rw [← hW2]
  clear hW2
  refine c1.mono ?_
  rintro e w3 ⟨rfl, hb3⟩
  have hB3 := hB2.trans (hb3.mono hB2.size)
  have j1 := (hb3.block _ hl1).trans k1
  have j3 := (hb3.block _ hl3).trans k3
  have j4 := (hb3.block _ hl4).trans k4
  have j6 := (hb3.block _ hl6).trans k6
  have hf3 := hf2.below hb3 (Nat.le_refl _)
  obtain ⟨q0, q1, q2, q3, q4, q5, q6⟩ := box_seven7 j6
  have g2 : w3.frozen? ⟨w1.heap.size + 1 + 1 + 1 + 1 + 1 + 1, 2, none⟩ = false := by simp [World.frozen?, j6]
  obtain ⟨p0, p1, p2⟩ := box_three7 j3
  have j2 := (hb3.block _ hl2).trans k2
  obtain ⟨W4, hW4⟩ : ∃ W, W = w3.setCell ⟨w1.heap.size + 1 + 1 + 1 + 1 + 1 + 1, 2, none⟩ (.slice none 0 0) := ⟨_, rfl⟩
  have hN : ∀ i, i ≠ w1.heap.size + 1 + 1 + 1 + 1 + 1 + 1 → W4.heap[i]? = w3.heap[i]? := fun i hi => by rw [hW4]; exact Below.heap_setCell _ _ _ _ hi
  have hB4 : Below w.heap.size w W4 := by rw [hW4]; exact hB3.setCell (by have := hB1.size; show w.heap.size ≤ w1.heap.size + 1 + 1 + 1 + 1 + 1 + 1; omega) _
  have hf4 : FnAt W4 (alFn (some ⟨w1.heap.size + 1 + 1, 0, none⟩) 4 op an) := ⟨code_new (l := alCode op an) ((hN _ (by omega)).trans j2) HCO.out (by show (4 : Nat) ≤ _; decide), (by show (0 : Nat) ≤ _; decide), (by show inI64 0; exact ⟨by decide, by decide⟩)⟩
  have hm4 : ModAt W4 (alMod (some ⟨w1.heap.size + 1 + 1 + 1 + 1, 0, none⟩) none 0 []) := alMod_at ((hN _ (by omega)).trans j4) RowsAt.nil (fun t ht => by cases ht) (Nat.zero_le _)
  have c2 := v_func W4 (hLaid.below hB4) _ hm4 _ hf4 (by show (4 : Nat) ≤ _; decide)
  rw [(HANS.out _ none _ _).2] at c2
  unfold MoV.val alMod FnV.val alFn at c2
  simp only [alCode, List.length_cons, List.length_nil, Nat.zero_add] at c2
  have i1 := (hN _ (by omega)).trans j1
  have hi1 := in_heap7 i1
  have HI1 := Lib.hid i1
  clear c1 hf2 hf3 hf4 hm4 hN j2 j4 i1 hb3 k1 k2 k3 k4 k6
  go_wp2_with fail
  rw [← hW4]
  clear hW4 q0 q1 q2 q3 q4 q5 q6 p0 p1 p2 g2 j1 j3 j6
  refine c2.mono ?_
  rintro e w5 ⟨rfl, hb5⟩
  have hB5 := hB4.trans (hb5.mono hB4.size)
  have n1 := (hb5.block _ hi1).trans HI1.out
  have x1 : w5.cell? ⟨w1.heap.size + 1, kn, none⟩ = some (.int .i64 mk) := by rw [World.cell?, n1]; exact hM
  clear n1 HI1 hM hL c2
  have hr := HR1.out
  by_cases hle : (an : Int) ≤ mk
  · rw [if_pos hle] at hr
    subst hr
    clear HR1
    go_wp2
    go_ret
    exact ⟨rfl, hB5⟩
  · rw [if_neg hle] at hr
    subst hr
    clear HR1
    go_wp2
    go_ret
    exact ⟨by show Ending.returned (.bool (!decide ((an : Int) ≤ mk))) = _; rw [decide_eq_false (by omega : ¬ (an : Int) ≤ mk)]; rfl, hB5⟩
end Go.Proofs.YtomffpibdinkaaaGreatDoor
