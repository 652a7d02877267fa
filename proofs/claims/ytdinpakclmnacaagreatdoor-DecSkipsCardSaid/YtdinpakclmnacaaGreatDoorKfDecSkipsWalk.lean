/-
  The statement on sections that are told by a name, walked. Only its frame proves it.
-/
import Derived.Test.YtdinpakclmnacaaGreatDoorKfDecBackWalk
namespace Go.Proofs.YtdinpakclmnacaaGreatDoor
set_option maxRecDepth 100000
set_option maxHeartbeats 16000000
open Go.RowKit
set_option linter.unusedVariables false
theorem skip_calls {code : List PI} {V : MoV} (h : Prog6 code V) {nm tx : List UInt8} (hn : nm.length ≤ 100) (ht : tx.length ≤ 100) {A : ByteArray} {R : List UInt8} (hR : progB code = head6 ++ R) (hA : A.data.toList = head6 ++ own6 nm tx ++ R ++ own6 nm tx) (W : World) (hL : Laid W) :
    Calls Tryz.prog 13 #[.string A] W fun e w' => ∃ n : MoV, e = .returned (.tuple #[n.val, .int .i64 (if isName nm then 0 else 2)]) ∧ (isName nm = true → n.bare = V.bare) ∧ ModNew W w' n ∧ Below W.heap.size W w' := by
  have hl : R.length ≤ 1000000 := by have := congrArg List.length hR; rw [List.length_append] at this; have := h.hi; omega
  have hs := skip_ans (m := V) (by rw [h.bytes]; exact hR) (by rw [h.bytes]; exact h.back) hl hn ht
  refine (dec_mod A W hL).mono ?_
  rintro e w' ⟨n, rfl, h1, h2, h3⟩
  have e1 : modAns A.data.toList = if isName nm then (V.bare, 0) else (zeroM, 2) := by
    rw [hA]
    unfold modAns
    rw [hs]
    cases isName nm <;> rfl
  rw [e1] at h1 ⊢
  cases hi : isName nm with
  | true => rw [hi] at h1; exact ⟨n, rfl, fun _ => h1, h2, h3⟩
  | false => exact ⟨n, rfl, fun hc => (by cases hc), h2, h3⟩
theorem head_of (code : List PI) : ∃ R, progB code = head6 ++ R := by
  refine ⟨(progB code).drop 8, ?_⟩
  have h : (progB code).take 8 = head6 := by
    unfold progB
    rw [List.append_assoc, List.take_append_of_le_length (by rw [head47_len]; omega)]
    decide +kernel
  rw [← h, List.take_append_drop]
theorem kind_calls {code : List PI} {V : MoV} (h : Prog6 code V) {b : UInt8} (hb : b = 2 ∨ b = 4 ∨ b = 9) {A : ByteArray} {R : List UInt8} (hR : progB code = head6 ++ R) (hA : A.data.toList = head6 ++ [b] ++ [1, 0] ++ R) (W : World) (hL : Laid W) :
    Calls Tryz.prog 13 #[.string A] W fun e w' => ∃ n : MoV, e = .returned (.tuple #[n.val, .int .i64 3]) ∧ Below W.heap.size W w' := by
  have hl : R.length ≤ 1000000 := by have := congrArg List.length hR; rw [List.length_append] at this; have := h.hi; omega
  refine (dec_mod A W hL).mono ?_
  rintro e w' ⟨n, rfl, h1, h2, h3⟩
  have e1 : modAns A.data.toList = (zeroM, 3) := by rw [hA]; unfold modAns; rw [kind_ans hb hl]
  rw [e1]
  exact ⟨n, rfl, h3⟩
theorem form_calls {code : List PI} {V : MoV} (h : Prog6 code V) {b : UInt8} (hb : 12 ≤ b.toNat) {A : ByteArray} {R : List UInt8} (hR : progB code = head6 ++ R) (hA : A.data.toList = progB code ++ [b] ++ [1, 0]) (W : World) (hL : Laid W) :
    Calls Tryz.prog 13 #[.string A] W fun e w' => ∃ n : MoV, e = .returned (.tuple #[n.val, .int .i64 2]) ∧ Below W.heap.size W w' := by
  have hl : R.length ≤ 1000000 := by have := congrArg List.length hR; rw [List.length_append] at this; have := h.hi; omega
  refine (dec_mod A W hL).mono ?_
  rintro e w' ⟨n, rfl, h1, h2, h3⟩
  have e1 : modAns A.data.toList = (zeroM, 2) := by
    rw [hA]
    unfold modAns
    rw [← h.bytes, form_ans (m := V) (by rw [h.bytes]; exact hR) (by rw [h.bytes]; exact h.back) hb hl]
  rw [e1]
  exact ⟨n, rfl, h3⟩
theorem conv_at (W : World) (g : Nat) (n : Int) (h0 : 0 ≤ n) (h1 : n < 256) (h : W.cell? ⟨g, 0, none⟩ = some (.int .u8 n)) : (convert 24 9 (.slice (some ⟨g, 0, none⟩) 1 1)).run Tryz.prog W = .ok (.string ⟨#[UInt8.ofNat n.toNat]⟩) W := by
  refine run_convert_bytes_back _ 24 9 5 ⟨g, 0, none⟩ 1 [UInt8.ofNat n.toNat] Tryz.underlying24 Tryz.underlying5 Tryz.underlying9 fun j hj => ?_
  have : j = 0 := by simp at hj; omega
  subst this
  rw [show (⟨g, 0, none⟩ : Addr).add 0 = ⟨g, 0, none⟩ from rfl, h]
  show some (Value.int .u8 n) = some (.int .u8 ((UInt8.ofNat n.toNat).toNat : Int))
  rw [byte_of h0 h1]
theorem kind_list {code : List PI} {R : List UInt8} (hR : progB code = head6 ++ R) {N : Nat} (hN : (progB code).length = N) (b : UInt8) : ((bs (progB code)).extract 0 8 ++ ⟨#[b]⟩ ++ ⟨#[1, 0]⟩ ++ (bs (progB code)).extract 8 N).data.toList = head6 ++ [b] ++ [1, 0] ++ R := by
  have h1 : ((bs (progB code)).extract 0 8).data.toList = head6 := by rw [bs_take, bs_list9, hR]; rfl
  have h2 : ((bs (progB code)).extract 8 N).data.toList = R := by
    rw [ByteArray.data_extract, Array.toList_extract, List.extract_eq_take_drop, bs_list9, hR]
    have : R.length = N - 8 := by have := congrArg List.length hR; rw [List.length_append, hN] at this; show R.length = N - 8; have e : head6.length = 8 := rfl; omega
    show R.take (N - 8) = R
    rw [← this, List.take_length]
  simp only [ByteArray.data_append, Array.toList_append, h1, h2]
theorem form_list (code : List PI) (b : UInt8) : (bs (progB code) ++ ⟨#[b]⟩ ++ ⟨#[1, 0]⟩).data.toList = progB code ++ [b] ++ [1, 0] := by
  simp only [ByteArray.data_append, Array.toList_append, bs_list9]
theorem kind_calls2 {code : List PI} {V : MoV} (h : Prog6 code V) {R : List UInt8} (hR : progB code = head6 ++ R) {N : Nat} (hN : (progB code).length = N) (b : UInt8) (hb : b = 2 ∨ b = 4 ∨ b = 9) (W : World) (hL : Laid W) :
    Calls Tryz.prog 13 #[.string ((bs (progB code)).extract 0 8 ++ ⟨#[b]⟩ ++ ⟨#[1, 0]⟩ ++ (bs (progB code)).extract 8 N)] W fun e w' => ∃ n : MoV, e = .returned (.tuple #[n.val, .int .i64 3]) ∧ Below W.heap.size W w' := by
  have e := kind_list (code := code) hR hN b
  generalize ((bs (progB code)).extract 0 8 ++ ⟨#[b]⟩ ++ ⟨#[1, 0]⟩ ++ (bs (progB code)).extract 8 N : ByteArray) = A at *
  exact kind_calls h hb hR e W hL
theorem form_calls2 {code : List PI} {V : MoV} (h : Prog6 code V) {R : List UInt8} (hR : progB code = head6 ++ R) (b : UInt8) (hb : 12 ≤ b.toNat) (W : World) (hL : Laid W) :
    Calls Tryz.prog 13 #[.string (bs (progB code) ++ ⟨#[b]⟩ ++ ⟨#[1, 0]⟩)] W fun e w' => ∃ n : MoV, e = .returned (.tuple #[n.val, .int .i64 2]) ∧ Below W.heap.size W w' := by
  have e := form_list code b
  generalize (bs (progB code) ++ ⟨#[b]⟩ ++ ⟨#[1, 0]⟩ : ByteArray) = A at *
  exact form_calls h hb hR e W hL
theorem push6 (W : World) (o : Obj) (b : Nat) : (W.alloc o).heap[b]? = if b = W.heap.size then some o else W.heap[b]? := by
  show (W.heap.push o)[b]? = _
  rw [Array.getElem?_push]
theorem push_size6 (W : World) (o : Obj) : (W.alloc o).heap.size = W.heap.size + 1 := by
  show (W.heap.push o).size = _
  rw [Array.size_push]
theorem drew_heap6 (W : World) : W.drew.heap = W.heap := rfl
theorem box_at0 {W w8 : World} {A B : Obj} (h : Below ((((W.alloc (.cells #[.slice none 0 0, .slice none 0 0, .slice none 0 0, .slice none 0 0, .slice none 0 0, .int .i64 0, .slice none 0 0] 35)).alloc A).alloc B)).drew.heap.size ((((W.alloc (.cells #[.slice none 0 0, .slice none 0 0, .slice none 0 0, .slice none 0 0, .slice none 0 0, .int .i64 0, .slice none 0 0] 35)).alloc A).alloc B)).drew w8) : w8.heap[W.heap.size]? = some (.cells #[.slice none 0 0, .slice none 0 0, .slice none 0 0, .slice none 0 0, .slice none 0 0, .int .i64 0, .slice none 0 0] 35) := by
  refine (h.block _ (by simp only [drew_heap6, push_size6]; omega)).trans ?_
  simp only [drew_heap6, push6, push_size6]
  rw [if_neg (by omega), if_neg (by omega), if_pos trivial]
theorem box_at1 {W w8 : World} {A B : Obj} (h : Below ((((W.alloc A).alloc (.cells #[.slice none 0 0, .slice none 0 0, .slice none 0 0, .slice none 0 0, .slice none 0 0, .int .i64 0, .slice none 0 0] 35)).alloc B)).drew.heap.size ((((W.alloc A).alloc (.cells #[.slice none 0 0, .slice none 0 0, .slice none 0 0, .slice none 0 0, .slice none 0 0, .int .i64 0, .slice none 0 0] 35)).alloc B)).drew w8) : w8.heap[W.heap.size + 1]? = some (.cells #[.slice none 0 0, .slice none 0 0, .slice none 0 0, .slice none 0 0, .slice none 0 0, .int .i64 0, .slice none 0 0] 35) := by
  refine (h.block _ (by simp only [drew_heap6, push_size6]; omega)).trans ?_
  simp only [drew_heap6, push6, push_size6]
  rw [if_neg (by omega), if_pos trivial]
theorem box_at2 {W w8 : World} {A B : Obj} (h : Below ((((W.alloc A).alloc B).alloc (.cells #[.slice none 0 0, .slice none 0 0, .slice none 0 0, .slice none 0 0, .slice none 0 0, .int .i64 0, .slice none 0 0] 35))).drew.heap.size ((((W.alloc A).alloc B).alloc (.cells #[.slice none 0 0, .slice none 0 0, .slice none 0 0, .slice none 0 0, .slice none 0 0, .int .i64 0, .slice none 0 0] 35))).drew w8) : w8.heap[W.heap.size + 1 + 1]? = some (.cells #[.slice none 0 0, .slice none 0 0, .slice none 0 0, .slice none 0 0, .slice none 0 0, .int .i64 0, .slice none 0 0] 35) := by
  refine (h.block _ (by simp only [drew_heap6, push_size6]; omega)).trans ?_
  simp only [drew_heap6, push6, push_size6]
  rw [if_pos trivial]
theorem set7_box {W : World} {b : Nat} {t : TypeId} {u0 u1 u2 u3 u4 u5 u6 : Value} (v0 v1 v2 v3 v4 v5 v6 : Value) (h : W.heap[b]? = some (.cells #[u0, u1, u2, u3, u4, u5, u6] t)) : (set7 W b v0 v1 v2 v3 v4 v5 v6).heap[b]? = some (.cells #[v0, v1, v2, v3, v4, v5, v6] t) := by
  simp [set7, World.setCell, Array.getElem?_modify, h]
theorem decSkips_walk (p : Option Addr) (c : Nat) (l : List StepV) (name text : ByteArray) (id : Int) (hn : name.size ≤ 140737488351232) (ht : text.size ≤ 140737488351232) (hid : 0 ≤ id ∧ id ≤ 255) (w : World) (hLaid : Laid w) (hS : StepsAt w p l) :
    Calls Tryz.prog 7 #[.slice p l.length c, .string name, .string text, .int .u8 id] w fun e w' => e = .returned (.bool true) ∧ Below w.heap.size w w' := by
  have cH := examples6 w hLaid
  have cM := fun W (hW : Below w.heap.size w W) => made_fn p c l W (hS.below hW (Nat.le_refl _))
  clear hS
  generalize codeF l = code at *
  generalize l.length = ln at *
  simp only [madeV_val6] at cM
  go_enter Tryz.func7, Tryz.ntmps7
  go_wp2_with (first
    | (go_at_call 9; (with_reducible refine cH.mono ?_); rintro e w1 ⟨rfl, hB1⟩)
    | (go_at_call 11; (with_reducible refine (cM _ hB1).mono ?_); rintro e w2 ⟨H, pc, cc, rfl, hM, hb2⟩))
  have hB2 := belt hB1 (Nat.le_refl _) hb2
  have hP := made_prog hM
  have hbA : Below w2.heap.size w2 (w2.alloc (.cells #[.slice (some ⟨H, 0, none⟩) 1 1, .slice (some ⟨H + 1, 0, none⟩) 1 1, .slice (some ⟨H + 2, 0, none⟩) 1 1, .slice (some ⟨H + 3, 0, none⟩) 2 2, .slice (some ⟨H + 4, 0, none⟩) 1 1, .int .i64 (-1), .slice (some ⟨H + 5, 0, none⟩) 1 1] 35)) := (Below.refl _ w2).alloc (Nat.le_refl _) _
  have hB2a := hB2.alloc hB2.size (.cells #[.slice (some ⟨H, 0, none⟩) 1 1, .slice (some ⟨H + 1, 0, none⟩) 1 1, .slice (some ⟨H + 2, 0, none⟩) 1 1, .slice (some ⟨H + 3, 0, none⟩) 2 2, .slice (some ⟨H + 4, 0, none⟩) 1 1, .int .i64 (-1), .slice (some ⟨H + 5, 0, none⟩) 1 1] 35)
  have hMA := (hM.below hbA).modAt (mx := 2) (i0 := 5) (i1 := -5) (ix := 0) (st := -1) ⟨by decide, by decide⟩ ⟨by decide, by decide⟩ ⟨by decide, by decide⟩ ⟨by decide, by decide⟩ ⟨by decide, by decide⟩
  have cE := enc_mod _ _ (hLaid.below hB2a) hMA
  rw [hP.ans, madeV_val6] at cE
  clear cM cH hb2 hB2 hbA
  go_wp2_with fail
  refine cE.mono ?_
  rintro e w3 ⟨rfl, hb3⟩
  have hm3 := (hb3.block w2.heap.size (by simp)).trans (heap_alloc_new w2 (.cells #[.slice (some ⟨H, 0, none⟩) 1 1, .slice (some ⟨H + 1, 0, none⟩) 1 1, .slice (some ⟨H + 2, 0, none⟩) 1 1, .slice (some ⟨H + 3, 0, none⟩) 2 2, .slice (some ⟨H + 4, 0, none⟩) 1 1, .int .i64 (-1), .slice (some ⟨H + 5, 0, none⟩) 1 1] 35))
  have hB3 := belt6 hB2a (Nat.le_refl _) hb3
  have hMA3 := hMA.below hb3 (Nat.le_refl _)
  clear cE hM hMA hb3 hB2a hB1
  have hlo := hP.lo
  have hhi := hP.hi
  obtain ⟨N, hN⟩ : ∃ N, (progB code).length = N := ⟨_, rfl⟩
  have hsz : (bs (progB code)).size = N := (bs_size6 _).trans hN
  rw [hN] at hlo hhi
  have q8 : ¬ (N : Int) < 8 := by omega
  obtain ⟨na, hna, ha1, ha2⟩ : ∃ na : Nat, (min (name.size : Int) 100).toNat = na ∧ na ≤ 100 ∧ na ≤ name.size := ⟨_, rfl, by omega, by omega⟩
  obtain ⟨nb, hnb, hb1, hb2⟩ : ∃ nb : Nat, (min (text.size : Int) 100).toNat = nb ∧ nb ≤ 100 ∧ nb ≤ text.size := ⟨_, rfl, by omega, by omega⟩
  have hma : min na name.size = na := by omega
  have hmb : min nb text.size = nb := by omega
  have y0 : (0 : Int) ≤ min (name.size : Int) 100 := by omega
  have y1 : min (name.size : Int) 100 ≤ (name.size : Int) := by omega
  have y2 : (0 : Int) ≤ min (text.size : Int) 100 := by omega
  have y3 : min (text.size : Int) 100 ≤ (text.size : Int) := by omega
  obtain ⟨P1, hP1⟩ : ∃ P : ByteArray, P.data.toList = putU na := ⟨⟨(putU na).toArray⟩, rfl⟩
  have e1 : (⟨(putU na).toArray⟩ : ByteArray) = P1 := by apply ByteArray.ext; apply Array.toList_inj.1; rw [hP1]
  have hz1 : P1.size ≤ 10 := by
    have h1 : P1.size = (putU na).length := by rw [← hP1, Array.length_toList]; rfl
    rw [h1]
    exact putU_len10 (by omega) (by omega)
  have cP1 := fun W => put_u (na : Int) (by omega) (by omega) W
  rw [e1] at cP1
  go_wp2_with fail
  refine (cP1 _).mono ?_
  rintro e w4 ⟨rfl, hb4⟩
  have hB4 := belt6 hB3 (Nat.le_refl _) hb4
  have hm4 := (hb4.block _ (in_heap6 hm3)).trans hm3
  have hMA4 := hMA3.below hb4 (Nat.le_refl _)
  clear cP1 hm3 hMA3 hb4
  obtain ⟨nm, hnm⟩ : ∃ nm, nm = name.extract 0 na := ⟨_, rfl⟩
  obtain ⟨tx, htx⟩ : ∃ tx, tx = text.extract 0 nb := ⟨_, rfl⟩
  have hnz : nm.size = na := by rw [hnm, ByteArray.size_extract]; omega
  have htz : tx.size = nb := by rw [htx, ByteArray.size_extract]; omega
  obtain ⟨P2, hP2⟩ : ∃ P : ByteArray, P.data.toList = putU ((P1.size : Int) + na + nb) := ⟨⟨(putU ((P1.size : Int) + na + nb)).toArray⟩, rfl⟩
  have e2 : (⟨(putU ((P1.size : Int) + na + nb)).toArray⟩ : ByteArray) = P2 := by apply ByteArray.ext; apply Array.toList_inj.1; rw [hP2]
  have hz2 : P2.size ≤ 10 := by
    have h1 : P2.size = (putU ((P1.size : Int) + na + nb)).length := by rw [← hP2, Array.length_toList]; rfl
    rw [h1]
    exact putU_len10 (by omega) (by omega)
  have cP2 := fun W => put_u ((P1.size : Int) + na + nb) (by omega) (by omega) W
  rw [e2] at cP2
  obtain ⟨R, hR⟩ := head_of code
  have hnl : nm.data.toList.length = na := by rw [Array.length_toList]; exact hnz
  have htl : tx.data.toList.length = nb := by rw [Array.length_toList]; exact htz
  have hp1 : P1.size = (putU na).length := by rw [← hP1, Array.length_toList]; rfl
  have hown : ((⟨#[0]⟩ : ByteArray) ++ P2 ++ (P1 ++ nm ++ tx)).data.toList = own6 nm.data.toList tx.data.toList := by
    unfold own6 txt5
    simp only [ByteArray.data_append, Array.toList_append, hP1, hP2, hnl]
    rw [List.length_append, List.length_append, hnl, htl, ← hp1]
    rfl
  obtain ⟨ow, how⟩ : ∃ ow, ow = (⟨#[0]⟩ : ByteArray) ++ P2 ++ (P1 ++ nm ++ tx) := ⟨_, rfl⟩
  rw [← how] at hown
  have hoz : ow.size ≤ 300 := by rw [how]; simp only [ByteArray.size_append]; show 1 + P2.size + (P1.size + nm.size + tx.size) ≤ 300; omega
  have hA : ((bs (progB code)).extract 0 8 ++ ow ++ (bs (progB code)).extract 8 N ++ ow).data.toList = head6 ++ own6 nm.data.toList tx.data.toList ++ R ++ own6 nm.data.toList tx.data.toList := by
    have h1 : ((bs (progB code)).extract 0 8).data.toList = head6 := by rw [bs_take, bs_list9, hR]; rfl
    have h2 : ((bs (progB code)).extract 8 N).data.toList = R := by
      rw [ByteArray.data_extract, Array.toList_extract, List.extract_eq_take_drop, bs_list9, hR]
      have : R.length = N - 8 := by have := congrArg List.length hR; rw [List.length_append, hN] at this; show R.length = N - 8; have e : head6.length = 8 := rfl; omega
      show R.take (N - 8) = R
      rw [← this, List.take_length]
    simp only [ByteArray.data_append, Array.toList_append, h1, h2, hown]
  have cA := fun W (hL : Laid W) => skip_calls hP (by rw [hnl]; exact ha1) (by rw [htl]; exact hb1) hR hA W hL
  have hnz2 : nm.size ≤ 100 := by omega
  have htz2 : tx.size ≤ 100 := by omega
  obtain ⟨ev, hev⟩ : ∃ ev : Int, (if isName nm.data.toList then 0 else 2) = ev := ⟨_, rfl⟩
  rw [hev] at cA
  have HEV := Lib.hid hev
  clear hev
  have HNM := Lib.hid hnm
  have HTX := Lib.hid htx
  have HOW := Lib.hid how
  have HA := Lib.hid hA
  have HR := Lib.hid hR
  have HP := Lib.hid hP
  have HN := Lib.hid hN
  clear hnm htx how hA hown hR hnl htl hp1 hP1 hP2 e1 e2 hnz htz hP hN
  go_wp2_with fail
  refine (cP2 _).mono ?_
  rintro e w5 ⟨rfl, hb5⟩
  have hB5 := belt6 hB4 (Nat.le_refl _) hb5
  have hm5 := (hb5.block _ (in_heap6 hm4)).trans hm4
  have hMA5 := hMA4.below hb5 (Nat.le_refl _)
  clear cP2 hm4 hMA4 hb5
  rw [← HNM.out, ← HTX.out]
  go_wp2
  rw [← HOW.out]
  have z8 : (8 : Int) ≤ (N : Int) := by omega
  have z80 : 8 ≤ N := by omega
  have hw2 := in_heap6 hm5
  have hLd := hLaid.below hB5.drew
  have hB5a := hB5.alloc hB5.size (.cells #[.slice none 0 0, .slice none 0 0, .slice none 0 0, .slice none 0 0, .slice none 0 0, .int .i64 0, .slice none 0 0] 35)
  have hLd2 := hLaid.below hB5a.drew
  go_cut [15, 16] from 23 (fun s15 s16 W => ∃ (A0 : Nat) (n : MoV), s15 = .pointer (some ⟨A0, 0, none⟩) ∧ s16 = .int .i64 ev ∧ W.heap[A0]? = some (.cells ⟨n.cells⟩ 35) ∧ ModAt W n ∧ (isName nm.data.toList = true → n.bare = (madeV H pc cc code 2 5 (-5) 0 (-1)).bare) ∧ W.heap[w2.heap.size]? = some (.cells #[.slice (some ⟨H, 0, none⟩) 1 1, .slice (some ⟨H + 1, 0, none⟩) 1 1, .slice (some ⟨H + 2, 0, none⟩) 1 1, .slice (some ⟨H + 3, 0, none⟩) 2 2, .slice (some ⟨H + 4, 0, none⟩) 1 1, .int .i64 (-1), .slice (some ⟨H + 5, 0, none⟩) 1 1] 35) ∧ ModAt W (madeV H pc cc code 2 5 (-5) 0 (-1)) ∧ Below w.heap.size w W)
  case first =>
    go_region_with (go_at_call 13; (first | (refine (cA _ hLd).mono ?_) | (refine (cA _ hLd2).mono ?_)); rintro e w6 ⟨⟨tp, tc, types, fp, fc, funcs, mp, mc, memory, gp, gc, globals, ep, ec, exports, start, dp, dc, data⟩, rfl, hn1, hn2, hb6⟩; dsimp only [MoV.val]; (first | (have hz6 := (hb6.block w5.heap.size (by show w5.heap.size < (w5.alloc (.cells #[.slice none 0 0, .slice none 0 0, .slice none 0 0, .slice none 0 0, .slice none 0 0, .int .i64 0, .slice none 0 0] 35)).heap.size; simp)).trans (show (w5.alloc (.cells #[.slice none 0 0, .slice none 0 0, .slice none 0 0, .slice none 0 0, .slice none 0 0, .int .i64 0, .slice none 0 0] 35)).drew.heap[w5.heap.size]? = _ from heap_alloc_new w5 (.cells #[.slice none 0 0, .slice none 0 0, .slice none 0 0, .slice none 0 0, .slice none 0 0, .int .i64 0, .slice none 0 0] 35)); obtain ⟨⟨i0, i1, i2, i3, i4, i5, i6⟩, ⟨j0, j1, j2, j3, j4, j5, j6⟩, hlz⟩ := box76 hz6) | skip))
    all_goals
      go_wp2
      go_meet
      first
        | (have hF : Below w5.heap.size w5 (w6.alloc (.cells #[.slice tp types.length tc, .slice fp funcs.length fc, .slice mp memory.length mc, .slice gp globals.length gc, .slice ep exports.length ec, .int .i64 start, .slice dp data.length dc] 35)) := (((Below.refl _ w5).drew).trans (hb6.mono (Nat.le_refl _))).alloc hb6.size _
           exact ⟨w6.heap.size, ⟨tp, tc, types, fp, fc, funcs, mp, mc, memory, gp, gc, globals, ep, ec, exports, start, dp, dc, data⟩, rfl, rfl, heap_alloc_new w6 _, hn2 _ (fun k h1 h2 => Below.heap_alloc w6 _ _ h2), hn1, (hF.block _ hw2).trans hm5, hMA5.below hF (Nat.le_refl _), belt6 hB5 (Nat.le_refl _) hF⟩)
        | (have hF : Below w5.heap.size w5 (set7 w6 w5.heap.size (.slice tp types.length tc) (.slice fp funcs.length fc) (.slice mp memory.length mc) (.slice gp globals.length gc) (.slice ep exports.length ec) (.int .i64 start) (.slice dp data.length dc)) := set7_below ((((Below.refl _ w5).alloc (Nat.le_refl _) _).drew).trans (hb6.mono (by show w5.heap.size ≤ (w5.alloc _).heap.size; simp))) (Nat.le_refl _) _ _ _ _ _ _ _
           exact ⟨w5.heap.size, ⟨tp, tc, types, fp, fc, funcs, mp, mc, memory, gp, gc, globals, ep, ec, exports, start, dp, dc, data⟩, rfl, rfl, set7_box _ _ _ _ _ _ _ hz6, hn2 _ (fun k h1 h2 => set7_other _ _ _ _ _ _ _ _ _ (by have h3 : (w5.alloc (.cells #[.slice none 0 0, .slice none 0 0, .slice none 0 0, .slice none 0 0, .slice none 0 0, .int .i64 0, .slice none 0 0] 35)).heap.size ≤ k := h1; simp at h3; omega)), hn1, (hF.block _ hw2).trans hm5, hMA5.below hF (Nat.le_refl _), belt6 hB5 (Nat.le_refl _) hF⟩)
        | (trace_state; sorry)
  case rest =>
    obtain ⟨A0, ⟨tp, tc, types, fp, fc, funcs, mp, mc, memory, gp, gc, globals, ep, ec, exports, start, dp, dc, data⟩, rfl, rfl, hbx, hnA, hnb, hmx, hMx, hBc⟩ := hcut
    clear cA hm5 hMA5 hB5 hw2 hLd hB5a hLd2 HOW HA
    have cS := mod_same _ _ wc hnA hMx
    obtain ⟨sm, hsm⟩ : ∃ sm, sameMod ⟨tp, tc, types, fp, fc, funcs, mp, mc, memory, gp, gc, globals, ep, ec, exports, start, dp, dc, data⟩ (madeV H pc cc code 2 5 (-5) 0 (-1)) = sm := ⟨_, rfl⟩
    have HSM : Hid (isName nm.data.toList = true → sm = true) := Lib.hid (fun h => by rw [← hsm]; exact same_bare (hnb h))
    rw [hsm, madeV_val6] at cS
    simp only [MoV.val] at cS
    dsimp only [MoV.cells] at hbx
    obtain ⟨a0, a1, a2, a3, a4, a5, a6, _⟩ := reads_six hbx
    obtain ⟨d0, d1, d2, d3, d4, d5, d6, _⟩ := reads_six hmx
    clear hnb hsm hnA hMx
    go_wp2_with fail
    refine cS.mono ?_
    rintro e w7 ⟨rfl, hb7⟩
    have hB7 := belt6 hBc (Nat.le_refl _) hb7
    clear cS a0 a1 a2 a3 a4 a5 a6 d0 d1 d2 d3 d4 d5 d6 hbx hmx hb7 hBc
    have hcv := conv_at
    have hid0 := hid.1
    have hid1 := hid.2
    have cK := fun (b : UInt8) (hb : b = 2 ∨ b = 4 ∨ b = 9) W (hW : Below w7.heap.size w7 W) => kind_calls2 HP.out HR.out HN.out b hb W (hLaid.below (belt6 hB7 (Nat.le_refl _) hW))
    have cF := fun (b : UInt8) (hb : 12 ≤ b.toNat) W (hW : Below w.heap.size w W) => form_calls2 HP.out HR.out b hb W (hLaid.below hW)
    go_wp2
    go_cut [19] from 23 (fun s19 W => s19 = .int .i64 3 ∧ Below w.heap.size w W)
    case first =>
      clear hcv cF HEV HNM HTX HSM HR HN HP
      obtain ⟨kn, bI, b, hk, z1, harr, hbb, hb0, hb1, hbI⟩ : ∃ (kn : Nat) (bI : Int) (b : UInt8), Int.tmod id 3 = (kn : Int) ∧ (kn : Int) < 3 ∧ (#[.int .u8 2, .int .u8 4, .int .u8 9] : Array Value)[kn]? = some (.int .u8 bI) ∧ (b = 2 ∨ b = 4 ∨ b = 9) ∧ 0 ≤ bI ∧ bI < 256 ∧ UInt8.ofNat bI.toNat = b := by
        obtain ⟨k, hk, hk0⟩ : ∃ k : Int, Int.tmod id 3 = k ∧ (k = 0 ∨ k = 1 ∨ k = 2) := ⟨_, rfl, by rw [Int.tmod_eq_emod_of_nonneg hid0]; omega⟩
        rcases hk0 with rfl | rfl | rfl
        · exact ⟨0, 2, 2, hk, by decide, rfl, .inl rfl, by decide, by decide, rfl⟩
        · exact ⟨1, 4, 4, hk, by decide, rfl, .inr (.inl rfl), by decide, by decide, rfl⟩
        · exact ⟨2, 9, 9, hk, by decide, rfl, .inr (.inr rfl), by decide, by decide, rfl⟩
      have hq : IntKind.u8.wrap (kn : Int) = (kn : Int) := by rw [IntKind.wrap_u8]; omega
      have z0 : (0 : Int) ≤ (kn : Int) := by omega
      have hc := fun W g h => (conv_at W g bI hb0 hb1 h : _ = Result.ok (Value.string ⟨#[UInt8.ofNat bI.toNat]⟩) W)
      rw [hbI] at hc
      have cK := cK b hbb
      clear hbb hb0 hb1 hbI
      go_region_with (go_at_call 13; refine (cK _ (by repeat (first | exact Below.refl _ _ | refine Below.drew ?_ | refine Below.alloc ?_ (by first | (simp; done) | (simp; omega)) _))).mono ?_; rintro e w8 ⟨⟨tp2, tc2, types2, fp2, fc2, funcs2, mp2, mc2, memory2, gp2, gc2, globals2, ep2, ec2, exports2, start2, dp2, dc2, data2⟩, rfl, hb8⟩; have hF : Below w7.heap.size w7 w8 := Below.trans (by repeat (first | exact Below.refl _ _ | refine Below.drew ?_ | refine Below.alloc ?_ (by first | (simp; done) | (simp; omega)) _) : Below w7.heap.size w7 _) (hb8.mono (by simp only [drew_heap6, push_size6]; omega)); dsimp only [MoV.val]; (first | (have hz8 := box_at0 hb8; obtain ⟨⟨i0, i1, i2, i3, i4, i5, i6⟩, ⟨j0, j1, j2, j3, j4, j5, j6⟩, hlz⟩ := box76 hz8) | (have hz8 := box_at1 hb8; obtain ⟨⟨i0, i1, i2, i3, i4, i5, i6⟩, ⟨j0, j1, j2, j3, j4, j5, j6⟩, hlz⟩ := box76 hz8) | (have hz8 := box_at2 hb8; obtain ⟨⟨i0, i1, i2, i3, i4, i5, i6⟩, ⟨j0, j1, j2, j3, j4, j5, j6⟩, hlz⟩ := box76 hz8) | skip))
      all_goals
        go_wp2
        go_meet
        refine ⟨rfl, ?_⟩
        have hBs := hB7.size
        have hFs := hF.size
        have hfin := hB7.trans (hF.mono hBs)
        repeat (first | (with_reducible exact hfin) | (with_reducible refine Below.setCell ?_ (by dsimp only; omega) _) | (with_reducible refine Below.alloc ?_ (by omega) _))
    case rest =>
      obtain ⟨rfl, hBW⟩ := hcut
      obtain ⟨k, hk, k0, k1⟩ : ∃ k : Int, Int.tmod id 200 = k ∧ 0 ≤ k ∧ k < 200 := ⟨_, rfl, by rw [Int.tmod_eq_emod_of_nonneg hid0]; omega, by rw [Int.tmod_eq_emod_of_nonneg hid0]; omega⟩
      have hq : IntKind.u8.wrap k = k := by rw [IntKind.wrap_u8]; omega
      have hq2 : IntKind.u8.wrap (12 + k) = 12 + k := by rw [IntKind.wrap_u8]; omega
      have hc := fun W g h => (conv_at W g (12 + k) (by omega) (by omega) h : _ = Result.ok (Value.string ⟨#[UInt8.ofNat (12 + k).toNat]⟩) W)
      have hb12 : 12 ≤ (UInt8.ofNat (12 + k).toNat).toNat := by
        have := byte_of (show (0 : Int) ≤ 12 + k by omega) (show 12 + k < 256 by omega)
        omega
      have cF := fun W hW => cF (UInt8.ofNat (12 + k).toNat) hb12 W hW
      have hB8a := hBW.alloc hBW.size (.cells #[.int .u8 (12 + k)] 5)
      have cF2 := cF _ hB8a
      clear hcv cK hid hid0 hid1 cF HNM HTX HR HN HP hB7 hB4 hB3
      go_wp2_with fail
      refine cF2.mono ?_
      rintro e w8 ⟨⟨tp2, tc2, types2, fp2, fc2, funcs2, mp2, mc2, memory2, gp2, gc2, globals2, ep2, ec2, exports2, start2, dp2, dc2, data2⟩, rfl, hb8⟩
      dsimp only [MoV.val]
      have hB8 := hB8a.trans (hb8.mono hB8a.size)
      have hB9 := hB8.alloc hB8.size (.cells #[.slice tp2 types2.length tc2, .slice fp2 funcs2.length fc2, .slice mp2 memory2.length mc2, .slice gp2 globals2.length gc2, .slice ep2 exports2.length ec2, .int .i64 start2, .slice dp2 data2.length dc2] 35)
      have cN := mod_name nm (by unfold maxLen; omega) _ (hLaid.below hB9)
      obtain ⟨nn, hnn⟩ : ∃ nn, isName nm.data.toList = nn := ⟨_, rfl⟩
      rw [hnn] at cN
      have hev := HEV.out
      have hsm := HSM.out
      rw [hnn] at hev hsm
      clear hb8 hB8a cF2 hq hq2 hc hb12 hnn HEV HSM
      cases nn with
      | true =>
        have e1 := hsm rfl
        simp only [if_true] at hev
        subst hev e1
        clear hsm
        go_wp2_with (go_at_call 23; (with_reducible refine cN.mono ?_); rintro e w9 ⟨rfl, hb9⟩)
        go_ret
        exact ⟨rfl, hB9.trans (hb9.mono hB9.size)⟩
      | false =>
        have e1 : ev = 2 := by rw [← hev]; rfl
        subst e1
        clear hsm hev
        go_wp2_with (go_at_call 23; (with_reducible refine cN.mono ?_); rintro e w9 ⟨rfl, hb9⟩)
        go_ret
        exact ⟨rfl, hB9.trans (hb9.mono hB9.size)⟩
end Go.Proofs.YtdinpakclmnacaaGreatDoor
