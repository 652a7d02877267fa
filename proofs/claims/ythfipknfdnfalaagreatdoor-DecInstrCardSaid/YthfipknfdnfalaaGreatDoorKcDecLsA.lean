/-
  Package dec's lists at each type, walked, whatever reads a thing. Contracts that the proofs call; no statement is proved here.
-/
import Derived.Test.YthfipknfdnfalaaGreatDoorKcDecRdB
namespace Go.Proofs.YthfipknfdnfalaaGreatDoor
set_option maxRecDepth 100000
set_option maxHeartbeats 16000000
open Go.RowKit
set_option linter.unusedVariables false
def rowInt (n : Int) : List Value := [.int .i64 n]
def rowU8 (n : Int) : List Value := [.int .u8 n]
def valTy (t : TyV) : Value := .agg #[.string t.params, .string t.results]
def valMem (t : MemV) : Value := .agg #[.int .i64 t.min, .int .i64 t.max]
def valGlob (t : GlobV) : Value := .agg #[.int .i64 t.type, .bool t.may, .int .i64 t.init]
def valExp (t : ExpV) : Value := .agg #[.string t.name, .int .i64 t.kind, .int .i64 t.index]
def valDat (t : DatV) : Value := .agg #[.int .i64 t.offset, .string t.bytes]
theorem info_int : (Tryz.prog.info? 3).map (fun i => (i.zero, i.size, i.bytes)) = some (some (.int .i64 0), 1, 8) := by kernel_rfl
theorem list_int {w0 : World} {g : Nat} {lb : Array Value} {P : Pr Int} {ok : Int → Prop} (eg : ∀ args w, (callFunc g args).run Tryz.prog w = .ok (.enter g args) w)
    (hE : ∀ (B M : Nat) (T : TypeId) (rest : List Value) (r : RV) (W : World), RdAt w0 B M T rest r W → Calls Tryz.prog g (#[.pointer (some ⟨B, 0, none⟩)] ++ lb) W (Did w0 B M T rest r W P valInt (fun _ _ x => ok x)))
    {B M : Nat} {T : TypeId} {rest : List Value} {r : RV} {w : World} (h : RdAt w0 B M T rest r w) :
    Calls Tryz.prog 151 #[.pointer (some ⟨B, 0, none⟩), .func (.func g) #[] lb] w (DidList w0 B M T rest r w P 3 1 rowInt ok) := by
  have hlt := h.lt
  have hBl := hlt.1
  have hMl := hlt.2
  have c1 := number_reads w0 B M T rest r w h
  obtain ⟨i0, hi, hz0, hz1, hz2⟩ := info_parts info_int
  clear h hlt
  go_enter Tryz.func151, Tryz.ntmps151
  go_wp2_with (first
    | (go_at_call 150; (with_reducible refine c1.mono ?_); rintro e w1 ⟨n, r1, rfl, g1, h1, m1, ok1⟩; have c2 := fail_of h1 5; have ok0 := ok1.1; have ok2 := ok1.2; dsimp only [valInt])
    | (go_at_call 138; (with_reducible refine c2.mono ?_); rintro e w2 ⟨rfl, h2, m2⟩))
  · have hgt : 4096 < n := by assumption
    obtain ⟨rq, hq⟩ : ∃ rq, r1.bad 5 = rq := ⟨_, rfl⟩
    obtain ⟨hs, hm, hgm, hfew⟩ : RdAt w0 B M T rest rq w2 ∧ Mov B M w w2 ∧ Got pMany r rq n ∧ (rq.e = 0 → n ≤ 4096) := by
      rw [← hq]
      exact ⟨h2, m1.trans m2, (Got.many g1).1 hgt, fun e => absurd e (bad_e (by decide))⟩
    clear hq h1 h2 m1 m2 g1 c2 c1 hgt
    have HG := Lib.hid hgm
    have HF := Lib.hid hfew
    clear hgm hfew
    go_loopw [6, 14] (fun v i wr => ∃ (k : Nat) (l : List Int) (rk : RV), (k : Int) ≤ n ∧ k ≤ 4096 ∧ i = .int .i64 k ∧ wr.ownsRow w.heap.size 3 1 v k (l.flatMap rowInt) ∧ l.length = k ∧ RdAt w0 B M T rest rk wr ∧ Mov B M w wr ∧ Hid (Got (pRep P k) rq rk l) ∧ ∀ x ∈ l, ok x) (fun _ i _ => n.toNat - (intOf i).toNat)
    case atStart => exact ⟨0, [], rq, ok0, by omega, rfl, World.ownsRow_nil _ _ _ _, rfl, hs, hm, Lib.hid (Got.zero rq), fun x hx => by cases hx⟩
    case round =>
      clear hs hm
      obtain ⟨k, l, rk, hkn, hk4, rfl, hown, hlk, hr, hm, HK, hok⟩ := hrel
      obtain ⟨vp, vc, rfl⟩ := own_any6 hown
      obtain ⟨x0, x1, x2, x3, y0, y1, y2, y3⟩ := hr.reads
      by_cases hlt : (k : Int) < n
      · by_cases he : rk.e = 0
        · have hn4 : n ≤ 4096 := HF.out (by
            rcases HK.out.2 with ⟨a1, a2⟩ | ⟨a1, _⟩ | ⟨a1, _⟩
            · exact absurd (a2.symm.trans he) a1
            · exact a1
            · exact a1)
          exfalso; omega
        · have hq : (rk.e != 0) = true := by simpa using he
          have HGL := Lib.hid (Got.list HG.out (HK.out.short (n := n.toNat) (by omega) he []))
          go_wp2
          go_ret
          exact ⟨[], rk, _, rfl, HGL.out, hr, hm, World.ownsRow_nil _ _ _ _, (fun x hx => by cases hx), by simp⟩
      · have hkk : n.toNat = k := by omega
        have HGL := Lib.hid (Got.list HG.out (hkk.symm ▸ HK.out))
        have hnk : n = (k : Int) := by omega
        clear hlt
        go_wp2
        go_ret
        exact ⟨l, rk, _, rfl, HGL.out, hr, hm, hlk.symm ▸ hown, hok, by omega⟩
  · have hle : n ≤ 4096 := by assumption
    obtain ⟨rq, hq⟩ : ∃ rq, r1 = rq := ⟨_, rfl⟩
    obtain ⟨hs, hm, hgm, hfew⟩ : RdAt w0 B M T rest rq w1 ∧ Mov B M w w1 ∧ Got pMany r rq n ∧ (rq.e = 0 → n ≤ 4096) := by
      rw [← hq]
      have hle' : ¬ 4096 < n := by omega
      exact ⟨h1, m1, (Got.many g1).2 hle', fun _ => by omega⟩
    clear hq h1 m1 g1 c2 c1 hle
    have HG := Lib.hid hgm
    have HF := Lib.hid hfew
    clear hgm hfew
    go_loopw [6, 14] (fun v i wr => ∃ (k : Nat) (l : List Int) (rk : RV), (k : Int) ≤ n ∧ k ≤ 4096 ∧ i = .int .i64 k ∧ wr.ownsRow w.heap.size 3 1 v k (l.flatMap rowInt) ∧ l.length = k ∧ RdAt w0 B M T rest rk wr ∧ Mov B M w wr ∧ Hid (Got (pRep P k) rq rk l) ∧ ∀ x ∈ l, ok x) (fun _ i _ => n.toNat - (intOf i).toNat)
    case atStart => exact ⟨0, [], rq, ok0, by omega, rfl, World.ownsRow_nil _ _ _ _, rfl, hs, hm, Lib.hid (Got.zero rq), fun x hx => by cases hx⟩
    case round =>
      clear hs hm
      obtain ⟨k, l, rk, hkn, hk4, rfl, hown, hlk, hr, hm, HK, hok⟩ := hrel
      obtain ⟨vp, vc, rfl⟩ := own_any6 hown
      obtain ⟨x0, x1, x2, x3, y0, y1, y2, y3⟩ := hr.reads
      by_cases hlt : (k : Int) < n
      · by_cases he : rk.e = 0
        · have hn4 : n ≤ 4096 := HF.out (by
            rcases HK.out.2 with ⟨a1, a2⟩ | ⟨a1, _⟩ | ⟨a1, _⟩
            · exact absurd (a2.symm.trans he) a1
            · exact a1
            · exact a1)
          rw [he] at x2
          have cq := hE B M T rest rk wr hr
          have HE := Lib.hid he
          have HLK := Lib.hid hlk
          clear hr he hlk
          go_wp2_with fail
          refine cq.mono ?_
          rintro e w3 ⟨x, r3, rfl, g3, h3, m3, hx⟩
          have hown3 := (own_mov hown m3 hBl hMl).alloc (.cells (rowInt x).toArray 3)
          have h3a := h3.alloc (.cells (rowInt x).toArray 3)
          have hm3 := (hm.trans m3).alloc (.cells (rowInt x).toArray 3)
          have hs3 := Nat.le_trans hm.size m3.size
          clear cq hown
          dsimp only [valInt]
          go_wp2_with (at_builtin; refine wpList_append_own_at _ rfl (.tmp 21) (.tmp 25) 23 rfl w.heap.size 3 i0 (.int .i64 0) 1 8 Tryz.underlying23 hi hz0 hz1 hz2 rfl (by decide) (.slice vp k vc) k (l.flatMap rowInt) rfl hown3 ⟨w3.heap.size, 0, none⟩ 1 1 (rowInt x) rfl rfl (cells_new6 w3 (rowInt x) 3) (by intro u hu; simp [rowInt] at hu; rcases hu with rfl <;> rfl) (by unfold maxLen; omega) (by omega) (by simp; omega) ?_)
          intro v' w4 hown4 hg4 _ _
          have hge : ∀ q, (Value.slice vp k vc).ownBlock = some q → w.heap.size ≤ q := fun q hq => (own_lt6 hown3 q hq).1
          have h4 := h3a.grown hg4 (fun q hq => Nat.lt_of_lt_of_le hBl (hge q hq)) (fun q hq => Nat.lt_of_lt_of_le hMl (hge q hq))
          have hm4 := hm3.grown hg4 hge
          have e4 : l.flatMap rowInt ++ rowInt x = (l ++ [x]).flatMap rowInt := by simp
          rw [e4] at hown4
          have HK4 := Lib.hid (Got.more HK.out g3 HE.out)
          have hok4 : ∀ y ∈ l ++ [x], ok y := fun y hy => by
            rcases List.mem_append.1 hy with hy | hy
            · exact hok y hy
            · rw [List.mem_singleton.1 hy]; exact hx
          have hl4 : (l ++ [x]).length = k + 1 := by rw [List.length_append, HLK.out]; rfl
          clear hown3 h3a hm3 h3 m3 g3 HK hok HLK e4 hg4 x0 x1 x2 x3 y0 y1 y2 y3 hge
          go_wp2
          go_roundw
          case rel => exact ⟨k + 1, l ++ [x], r3, by omega, by omega, by go_num, hown4, hl4, h4, hm4, HK4, hok4⟩
          case measure => simp [intOf]; omega
        · have hq : (rk.e != 0) = true := by simpa using he
          have HGL := Lib.hid (Got.list HG.out (HK.out.short (n := n.toNat) (by omega) he []))
          go_wp2
          go_ret
          exact ⟨[], rk, _, rfl, HGL.out, hr, hm, World.ownsRow_nil _ _ _ _, (fun x hx => by cases hx), by simp⟩
      · have hkk : n.toNat = k := by omega
        have HGL := Lib.hid (Got.list HG.out (hkk.symm ▸ HK.out))
        have hnk : n = (k : Int) := by omega
        clear hlt
        go_wp2
        go_ret
        exact ⟨l, rk, _, rfl, HGL.out, hr, hm, hlk.symm ▸ hown, hok, by omega⟩
theorem info_uint8 : (Tryz.prog.info? 5).map (fun i => (i.zero, i.size, i.bytes)) = some (some (.int .u8 0), 1, 1) := by kernel_rfl
theorem list_uint8 {w0 : World} {g : Nat} {lb : Array Value} {P : Pr Int} {ok : Int → Prop} (eg : ∀ args w, (callFunc g args).run Tryz.prog w = .ok (.enter g args) w)
    (hE : ∀ (B M : Nat) (T : TypeId) (rest : List Value) (r : RV) (W : World), RdAt w0 B M T rest r W → Calls Tryz.prog g (#[.pointer (some ⟨B, 0, none⟩)] ++ lb) W (Did w0 B M T rest r W P valU8 (fun _ _ x => ok x)))
    {B M : Nat} {T : TypeId} {rest : List Value} {r : RV} {w : World} (h : RdAt w0 B M T rest r w) :
    Calls Tryz.prog 320 #[.pointer (some ⟨B, 0, none⟩), .func (.func g) #[] lb] w (DidList w0 B M T rest r w P 5 1 rowU8 ok) := by
  have hlt := h.lt
  have hBl := hlt.1
  have hMl := hlt.2
  have c1 := number_reads w0 B M T rest r w h
  obtain ⟨i0, hi, hz0, hz1, hz2⟩ := info_parts info_uint8
  clear h hlt
  go_enter Tryz.func320, Tryz.ntmps320
  go_wp2_with (first
    | (go_at_call 150; (with_reducible refine c1.mono ?_); rintro e w1 ⟨n, r1, rfl, g1, h1, m1, ok1⟩; have c2 := fail_of h1 5; have ok0 := ok1.1; have ok2 := ok1.2; dsimp only [valInt])
    | (go_at_call 138; (with_reducible refine c2.mono ?_); rintro e w2 ⟨rfl, h2, m2⟩))
  · have hgt : 4096 < n := by assumption
    obtain ⟨rq, hq⟩ : ∃ rq, r1.bad 5 = rq := ⟨_, rfl⟩
    obtain ⟨hs, hm, hgm, hfew⟩ : RdAt w0 B M T rest rq w2 ∧ Mov B M w w2 ∧ Got pMany r rq n ∧ (rq.e = 0 → n ≤ 4096) := by
      rw [← hq]
      exact ⟨h2, m1.trans m2, (Got.many g1).1 hgt, fun e => absurd e (bad_e (by decide))⟩
    clear hq h1 h2 m1 m2 g1 c2 c1 hgt
    have HG := Lib.hid hgm
    have HF := Lib.hid hfew
    clear hgm hfew
    go_loopw [6, 14] (fun v i wr => ∃ (k : Nat) (l : List Int) (rk : RV), (k : Int) ≤ n ∧ k ≤ 4096 ∧ i = .int .i64 k ∧ wr.ownsRow w.heap.size 5 1 v k (l.flatMap rowU8) ∧ l.length = k ∧ RdAt w0 B M T rest rk wr ∧ Mov B M w wr ∧ Hid (Got (pRep P k) rq rk l) ∧ ∀ x ∈ l, ok x) (fun _ i _ => n.toNat - (intOf i).toNat)
    case atStart => exact ⟨0, [], rq, ok0, by omega, rfl, World.ownsRow_nil _ _ _ _, rfl, hs, hm, Lib.hid (Got.zero rq), fun x hx => by cases hx⟩
    case round =>
      clear hs hm
      obtain ⟨k, l, rk, hkn, hk4, rfl, hown, hlk, hr, hm, HK, hok⟩ := hrel
      obtain ⟨vp, vc, rfl⟩ := own_any6 hown
      obtain ⟨x0, x1, x2, x3, y0, y1, y2, y3⟩ := hr.reads
      by_cases hlt : (k : Int) < n
      · by_cases he : rk.e = 0
        · have hn4 : n ≤ 4096 := HF.out (by
            rcases HK.out.2 with ⟨a1, a2⟩ | ⟨a1, _⟩ | ⟨a1, _⟩
            · exact absurd (a2.symm.trans he) a1
            · exact a1
            · exact a1)
          exfalso; omega
        · have hq : (rk.e != 0) = true := by simpa using he
          have HGL := Lib.hid (Got.list HG.out (HK.out.short (n := n.toNat) (by omega) he []))
          go_wp2
          go_ret
          exact ⟨[], rk, _, rfl, HGL.out, hr, hm, World.ownsRow_nil _ _ _ _, (fun x hx => by cases hx), by simp⟩
      · have hkk : n.toNat = k := by omega
        have HGL := Lib.hid (Got.list HG.out (hkk.symm ▸ HK.out))
        have hnk : n = (k : Int) := by omega
        clear hlt
        go_wp2
        go_ret
        exact ⟨l, rk, _, rfl, HGL.out, hr, hm, hlk.symm ▸ hown, hok, by omega⟩
  · have hle : n ≤ 4096 := by assumption
    obtain ⟨rq, hq⟩ : ∃ rq, r1 = rq := ⟨_, rfl⟩
    obtain ⟨hs, hm, hgm, hfew⟩ : RdAt w0 B M T rest rq w1 ∧ Mov B M w w1 ∧ Got pMany r rq n ∧ (rq.e = 0 → n ≤ 4096) := by
      rw [← hq]
      have hle' : ¬ 4096 < n := by omega
      exact ⟨h1, m1, (Got.many g1).2 hle', fun _ => by omega⟩
    clear hq h1 m1 g1 c2 c1 hle
    have HG := Lib.hid hgm
    have HF := Lib.hid hfew
    clear hgm hfew
    go_loopw [6, 14] (fun v i wr => ∃ (k : Nat) (l : List Int) (rk : RV), (k : Int) ≤ n ∧ k ≤ 4096 ∧ i = .int .i64 k ∧ wr.ownsRow w.heap.size 5 1 v k (l.flatMap rowU8) ∧ l.length = k ∧ RdAt w0 B M T rest rk wr ∧ Mov B M w wr ∧ Hid (Got (pRep P k) rq rk l) ∧ ∀ x ∈ l, ok x) (fun _ i _ => n.toNat - (intOf i).toNat)
    case atStart => exact ⟨0, [], rq, ok0, by omega, rfl, World.ownsRow_nil _ _ _ _, rfl, hs, hm, Lib.hid (Got.zero rq), fun x hx => by cases hx⟩
    case round =>
      clear hs hm
      obtain ⟨k, l, rk, hkn, hk4, rfl, hown, hlk, hr, hm, HK, hok⟩ := hrel
      obtain ⟨vp, vc, rfl⟩ := own_any6 hown
      obtain ⟨x0, x1, x2, x3, y0, y1, y2, y3⟩ := hr.reads
      by_cases hlt : (k : Int) < n
      · by_cases he : rk.e = 0
        · have hn4 : n ≤ 4096 := HF.out (by
            rcases HK.out.2 with ⟨a1, a2⟩ | ⟨a1, _⟩ | ⟨a1, _⟩
            · exact absurd (a2.symm.trans he) a1
            · exact a1
            · exact a1)
          rw [he] at x2
          have cq := hE B M T rest rk wr hr
          have HE := Lib.hid he
          have HLK := Lib.hid hlk
          clear hr he hlk
          go_wp2_with fail
          refine cq.mono ?_
          rintro e w3 ⟨x, r3, rfl, g3, h3, m3, hx⟩
          have hown3 := (own_mov hown m3 hBl hMl).alloc (.cells (rowU8 x).toArray 5)
          have h3a := h3.alloc (.cells (rowU8 x).toArray 5)
          have hm3 := (hm.trans m3).alloc (.cells (rowU8 x).toArray 5)
          have hs3 := Nat.le_trans hm.size m3.size
          clear cq hown
          dsimp only [valU8]
          go_wp2_with (at_builtin; refine wpList_append_own_at _ rfl (.tmp 21) (.tmp 25) 24 rfl w.heap.size 5 i0 (.int .u8 0) 1 1 Tryz.underlying24 hi hz0 hz1 hz2 rfl (by decide) (.slice vp k vc) k (l.flatMap rowU8) rfl hown3 ⟨w3.heap.size, 0, none⟩ 1 1 (rowU8 x) rfl rfl (cells_new6 w3 (rowU8 x) 5) (by intro u hu; simp [rowU8] at hu; rcases hu with rfl <;> rfl) (by unfold maxLen; omega) (by omega) (by simp; omega) ?_)
          intro v' w4 hown4 hg4 _ _
          have hge : ∀ q, (Value.slice vp k vc).ownBlock = some q → w.heap.size ≤ q := fun q hq => (own_lt6 hown3 q hq).1
          have h4 := h3a.grown hg4 (fun q hq => Nat.lt_of_lt_of_le hBl (hge q hq)) (fun q hq => Nat.lt_of_lt_of_le hMl (hge q hq))
          have hm4 := hm3.grown hg4 hge
          have e4 : l.flatMap rowU8 ++ rowU8 x = (l ++ [x]).flatMap rowU8 := by simp
          rw [e4] at hown4
          have HK4 := Lib.hid (Got.more HK.out g3 HE.out)
          have hok4 : ∀ y ∈ l ++ [x], ok y := fun y hy => by
            rcases List.mem_append.1 hy with hy | hy
            · exact hok y hy
            · rw [List.mem_singleton.1 hy]; exact hx
          have hl4 : (l ++ [x]).length = k + 1 := by rw [List.length_append, HLK.out]; rfl
          clear hown3 h3a hm3 h3 m3 g3 HK hok HLK e4 hg4 x0 x1 x2 x3 y0 y1 y2 y3 hge
          go_wp2
          go_roundw
          case rel => exact ⟨k + 1, l ++ [x], r3, by omega, by omega, by go_num, hown4, hl4, h4, hm4, HK4, hok4⟩
          case measure => simp [intOf]; omega
        · have hq : (rk.e != 0) = true := by simpa using he
          have HGL := Lib.hid (Got.list HG.out (HK.out.short (n := n.toNat) (by omega) he []))
          go_wp2
          go_ret
          exact ⟨[], rk, _, rfl, HGL.out, hr, hm, World.ownsRow_nil _ _ _ _, (fun x hx => by cases hx), by simp⟩
      · have hkk : n.toNat = k := by omega
        have HGL := Lib.hid (Got.list HG.out (hkk.symm ▸ HK.out))
        have hnk : n = (k : Int) := by omega
        clear hlt
        go_wp2
        go_ret
        exact ⟨l, rk, _, rfl, HGL.out, hr, hm, hlk.symm ▸ hown, hok, by omega⟩
theorem info_FuncType : (Tryz.prog.info? 81).map (fun i => (i.zero, i.size, i.bytes)) = some (some (.agg #[.string ⟨#[]⟩, .string ⟨#[]⟩]), 2, 32) := by kernel_rfl
theorem list_FuncType {w0 : World} {g : Nat} {lb : Array Value} {P : Pr TyV} {ok : TyV → Prop} (eg : ∀ args w, (callFunc g args).run Tryz.prog w = .ok (.enter g args) w)
    (hE : ∀ (B M : Nat) (T : TypeId) (rest : List Value) (r : RV) (W : World), RdAt w0 B M T rest r W → Calls Tryz.prog g (#[.pointer (some ⟨B, 0, none⟩)] ++ lb) W (Did w0 B M T rest r W P valTy (fun _ _ x => ok x)))
    {B M : Nat} {T : TypeId} {rest : List Value} {r : RV} {w : World} (h : RdAt w0 B M T rest r w) :
    Calls Tryz.prog 206 #[.pointer (some ⟨B, 0, none⟩), .func (.func g) #[] lb] w (DidList w0 B M T rest r w P 81 2 TyV.row ok) := by
  have hlt := h.lt
  have hBl := hlt.1
  have hMl := hlt.2
  have c1 := number_reads w0 B M T rest r w h
  obtain ⟨i0, hi, hz0, hz1, hz2⟩ := info_parts info_FuncType
  clear h hlt
  go_enter Tryz.func206, Tryz.ntmps206
  go_wp2_with (first
    | (go_at_call 150; (with_reducible refine c1.mono ?_); rintro e w1 ⟨n, r1, rfl, g1, h1, m1, ok1⟩; have c2 := fail_of h1 5; have ok0 := ok1.1; have ok2 := ok1.2; dsimp only [valInt])
    | (go_at_call 138; (with_reducible refine c2.mono ?_); rintro e w2 ⟨rfl, h2, m2⟩))
  · have hgt : 4096 < n := by assumption
    obtain ⟨rq, hq⟩ : ∃ rq, r1.bad 5 = rq := ⟨_, rfl⟩
    obtain ⟨hs, hm, hgm, hfew⟩ : RdAt w0 B M T rest rq w2 ∧ Mov B M w w2 ∧ Got pMany r rq n ∧ (rq.e = 0 → n ≤ 4096) := by
      rw [← hq]
      exact ⟨h2, m1.trans m2, (Got.many g1).1 hgt, fun e => absurd e (bad_e (by decide))⟩
    clear hq h1 h2 m1 m2 g1 c2 c1 hgt
    have HG := Lib.hid hgm
    have HF := Lib.hid hfew
    clear hgm hfew
    go_loopw [6, 14] (fun v i wr => ∃ (k : Nat) (l : List TyV) (rk : RV), (k : Int) ≤ n ∧ k ≤ 4096 ∧ i = .int .i64 k ∧ wr.ownsRow w.heap.size 81 2 v k (l.flatMap TyV.row) ∧ l.length = k ∧ RdAt w0 B M T rest rk wr ∧ Mov B M w wr ∧ Hid (Got (pRep P k) rq rk l) ∧ ∀ x ∈ l, ok x) (fun _ i _ => n.toNat - (intOf i).toNat)
    case atStart => exact ⟨0, [], rq, ok0, by omega, rfl, World.ownsRow_nil _ _ _ _, rfl, hs, hm, Lib.hid (Got.zero rq), fun x hx => by cases hx⟩
    case round =>
      clear hs hm
      obtain ⟨k, l, rk, hkn, hk4, rfl, hown, hlk, hr, hm, HK, hok⟩ := hrel
      obtain ⟨vp, vc, rfl⟩ := own_any6 hown
      obtain ⟨x0, x1, x2, x3, y0, y1, y2, y3⟩ := hr.reads
      by_cases hlt : (k : Int) < n
      · by_cases he : rk.e = 0
        · have hn4 : n ≤ 4096 := HF.out (by
            rcases HK.out.2 with ⟨a1, a2⟩ | ⟨a1, _⟩ | ⟨a1, _⟩
            · exact absurd (a2.symm.trans he) a1
            · exact a1
            · exact a1)
          exfalso; omega
        · have hq : (rk.e != 0) = true := by simpa using he
          have HGL := Lib.hid (Got.list HG.out (HK.out.short (n := n.toNat) (by omega) he []))
          go_wp2
          go_ret
          exact ⟨[], rk, _, rfl, HGL.out, hr, hm, World.ownsRow_nil _ _ _ _, (fun x hx => by cases hx), by simp⟩
      · have hkk : n.toNat = k := by omega
        have HGL := Lib.hid (Got.list HG.out (hkk.symm ▸ HK.out))
        have hnk : n = (k : Int) := by omega
        clear hlt
        go_wp2
        go_ret
        exact ⟨l, rk, _, rfl, HGL.out, hr, hm, hlk.symm ▸ hown, hok, by omega⟩
  · have hle : n ≤ 4096 := by assumption
    obtain ⟨rq, hq⟩ : ∃ rq, r1 = rq := ⟨_, rfl⟩
    obtain ⟨hs, hm, hgm, hfew⟩ : RdAt w0 B M T rest rq w1 ∧ Mov B M w w1 ∧ Got pMany r rq n ∧ (rq.e = 0 → n ≤ 4096) := by
      rw [← hq]
      have hle' : ¬ 4096 < n := by omega
      exact ⟨h1, m1, (Got.many g1).2 hle', fun _ => by omega⟩
    clear hq h1 m1 g1 c2 c1 hle
    have HG := Lib.hid hgm
    have HF := Lib.hid hfew
    clear hgm hfew
    go_loopw [6, 14] (fun v i wr => ∃ (k : Nat) (l : List TyV) (rk : RV), (k : Int) ≤ n ∧ k ≤ 4096 ∧ i = .int .i64 k ∧ wr.ownsRow w.heap.size 81 2 v k (l.flatMap TyV.row) ∧ l.length = k ∧ RdAt w0 B M T rest rk wr ∧ Mov B M w wr ∧ Hid (Got (pRep P k) rq rk l) ∧ ∀ x ∈ l, ok x) (fun _ i _ => n.toNat - (intOf i).toNat)
    case atStart => exact ⟨0, [], rq, ok0, by omega, rfl, World.ownsRow_nil _ _ _ _, rfl, hs, hm, Lib.hid (Got.zero rq), fun x hx => by cases hx⟩
    case round =>
      clear hs hm
      obtain ⟨k, l, rk, hkn, hk4, rfl, hown, hlk, hr, hm, HK, hok⟩ := hrel
      obtain ⟨vp, vc, rfl⟩ := own_any6 hown
      obtain ⟨x0, x1, x2, x3, y0, y1, y2, y3⟩ := hr.reads
      by_cases hlt : (k : Int) < n
      · by_cases he : rk.e = 0
        · have hn4 : n ≤ 4096 := HF.out (by
            rcases HK.out.2 with ⟨a1, a2⟩ | ⟨a1, _⟩ | ⟨a1, _⟩
            · exact absurd (a2.symm.trans he) a1
            · exact a1
            · exact a1)
          rw [he] at x2
          have cq := hE B M T rest rk wr hr
          have HE := Lib.hid he
          have HLK := Lib.hid hlk
          clear hr he hlk
          go_wp2_with fail
          refine cq.mono ?_
          rintro e w3 ⟨x, r3, rfl, g3, h3, m3, hx⟩
          have hown3 := (own_mov hown m3 hBl hMl).alloc (.cells (TyV.row x).toArray 81)
          have h3a := h3.alloc (.cells (TyV.row x).toArray 81)
          have hm3 := (hm.trans m3).alloc (.cells (TyV.row x).toArray 81)
          have hs3 := Nat.le_trans hm.size m3.size
          clear cq hown
          dsimp only [valTy]
          go_wp2_with (at_builtin; refine wpList_append_own_at _ rfl (.tmp 21) (.tmp 25) 28 rfl w.heap.size 81 i0 (.agg #[.string ⟨#[]⟩, .string ⟨#[]⟩]) 2 32 Tryz.underlying28 hi hz0 hz1 hz2 rfl (by decide) (.slice vp k vc) k (l.flatMap TyV.row) rfl hown3 ⟨w3.heap.size, 0, none⟩ 1 1 (TyV.row x) rfl rfl (cells_new6 w3 (TyV.row x) 81) (by intro u hu; simp [TyV.row] at hu; rcases hu with rfl | rfl <;> rfl) (by unfold maxLen; omega) (by omega) (by simp; omega) ?_)
          intro v' w4 hown4 hg4 _ _
          have hge : ∀ q, (Value.slice vp k vc).ownBlock = some q → w.heap.size ≤ q := fun q hq => (own_lt6 hown3 q hq).1
          have h4 := h3a.grown hg4 (fun q hq => Nat.lt_of_lt_of_le hBl (hge q hq)) (fun q hq => Nat.lt_of_lt_of_le hMl (hge q hq))
          have hm4 := hm3.grown hg4 hge
          have e4 : l.flatMap TyV.row ++ TyV.row x = (l ++ [x]).flatMap TyV.row := by simp
          rw [e4] at hown4
          have HK4 := Lib.hid (Got.more HK.out g3 HE.out)
          have hok4 : ∀ y ∈ l ++ [x], ok y := fun y hy => by
            rcases List.mem_append.1 hy with hy | hy
            · exact hok y hy
            · rw [List.mem_singleton.1 hy]; exact hx
          have hl4 : (l ++ [x]).length = k + 1 := by rw [List.length_append, HLK.out]; rfl
          clear hown3 h3a hm3 h3 m3 g3 HK hok HLK e4 hg4 x0 x1 x2 x3 y0 y1 y2 y3 hge
          go_wp2
          go_roundw
          case rel => exact ⟨k + 1, l ++ [x], r3, by omega, by omega, by go_num, hown4, hl4, h4, hm4, HK4, hok4⟩
          case measure => simp [intOf]; omega
        · have hq : (rk.e != 0) = true := by simpa using he
          have HGL := Lib.hid (Got.list HG.out (HK.out.short (n := n.toNat) (by omega) he []))
          go_wp2
          go_ret
          exact ⟨[], rk, _, rfl, HGL.out, hr, hm, World.ownsRow_nil _ _ _ _, (fun x hx => by cases hx), by simp⟩
      · have hkk : n.toNat = k := by omega
        have HGL := Lib.hid (Got.list HG.out (hkk.symm ▸ HK.out))
        have hnk : n = (k : Int) := by omega
        clear hlt
        go_wp2
        go_ret
        exact ⟨l, rk, _, rfl, HGL.out, hr, hm, hlk.symm ▸ hown, hok, by omega⟩
theorem info_Memory : (Tryz.prog.info? 78).map (fun i => (i.zero, i.size, i.bytes)) = some (some (.agg #[.int .i64 0, .int .i64 0]), 2, 16) := by kernel_rfl
theorem list_Memory {w0 : World} {g : Nat} {lb : Array Value} {P : Pr MemV} {ok : MemV → Prop} (eg : ∀ args w, (callFunc g args).run Tryz.prog w = .ok (.enter g args) w)
    (hE : ∀ (B M : Nat) (T : TypeId) (rest : List Value) (r : RV) (W : World), RdAt w0 B M T rest r W → Calls Tryz.prog g (#[.pointer (some ⟨B, 0, none⟩)] ++ lb) W (Did w0 B M T rest r W P valMem (fun _ _ x => ok x)))
    {B M : Nat} {T : TypeId} {rest : List Value} {r : RV} {w : World} (h : RdAt w0 B M T rest r w) :
    Calls Tryz.prog 210 #[.pointer (some ⟨B, 0, none⟩), .func (.func g) #[] lb] w (DidList w0 B M T rest r w P 78 2 MemV.row ok) := by
  have hlt := h.lt
  have hBl := hlt.1
  have hMl := hlt.2
  have c1 := number_reads w0 B M T rest r w h
  obtain ⟨i0, hi, hz0, hz1, hz2⟩ := info_parts info_Memory
  clear h hlt
  go_enter Tryz.func210, Tryz.ntmps210
  go_wp2_with (first
    | (go_at_call 150; (with_reducible refine c1.mono ?_); rintro e w1 ⟨n, r1, rfl, g1, h1, m1, ok1⟩; have c2 := fail_of h1 5; have ok0 := ok1.1; have ok2 := ok1.2; dsimp only [valInt])
    | (go_at_call 138; (with_reducible refine c2.mono ?_); rintro e w2 ⟨rfl, h2, m2⟩))
  · have hgt : 4096 < n := by assumption
    obtain ⟨rq, hq⟩ : ∃ rq, r1.bad 5 = rq := ⟨_, rfl⟩
    obtain ⟨hs, hm, hgm, hfew⟩ : RdAt w0 B M T rest rq w2 ∧ Mov B M w w2 ∧ Got pMany r rq n ∧ (rq.e = 0 → n ≤ 4096) := by
      rw [← hq]
      exact ⟨h2, m1.trans m2, (Got.many g1).1 hgt, fun e => absurd e (bad_e (by decide))⟩
    clear hq h1 h2 m1 m2 g1 c2 c1 hgt
    have HG := Lib.hid hgm
    have HF := Lib.hid hfew
    clear hgm hfew
    go_loopw [6, 14] (fun v i wr => ∃ (k : Nat) (l : List MemV) (rk : RV), (k : Int) ≤ n ∧ k ≤ 4096 ∧ i = .int .i64 k ∧ wr.ownsRow w.heap.size 78 2 v k (l.flatMap MemV.row) ∧ l.length = k ∧ RdAt w0 B M T rest rk wr ∧ Mov B M w wr ∧ Hid (Got (pRep P k) rq rk l) ∧ ∀ x ∈ l, ok x) (fun _ i _ => n.toNat - (intOf i).toNat)
    case atStart => exact ⟨0, [], rq, ok0, by omega, rfl, World.ownsRow_nil _ _ _ _, rfl, hs, hm, Lib.hid (Got.zero rq), fun x hx => by cases hx⟩
    case round =>
      clear hs hm
      obtain ⟨k, l, rk, hkn, hk4, rfl, hown, hlk, hr, hm, HK, hok⟩ := hrel
      obtain ⟨vp, vc, rfl⟩ := own_any6 hown
      obtain ⟨x0, x1, x2, x3, y0, y1, y2, y3⟩ := hr.reads
      by_cases hlt : (k : Int) < n
      · by_cases he : rk.e = 0
        · have hn4 : n ≤ 4096 := HF.out (by
            rcases HK.out.2 with ⟨a1, a2⟩ | ⟨a1, _⟩ | ⟨a1, _⟩
            · exact absurd (a2.symm.trans he) a1
            · exact a1
            · exact a1)
          exfalso; omega
        · have hq : (rk.e != 0) = true := by simpa using he
          have HGL := Lib.hid (Got.list HG.out (HK.out.short (n := n.toNat) (by omega) he []))
          go_wp2
          go_ret
          exact ⟨[], rk, _, rfl, HGL.out, hr, hm, World.ownsRow_nil _ _ _ _, (fun x hx => by cases hx), by simp⟩
      · have hkk : n.toNat = k := by omega
        have HGL := Lib.hid (Got.list HG.out (hkk.symm ▸ HK.out))
        have hnk : n = (k : Int) := by omega
        clear hlt
        go_wp2
        go_ret
        exact ⟨l, rk, _, rfl, HGL.out, hr, hm, hlk.symm ▸ hown, hok, by omega⟩
  · have hle : n ≤ 4096 := by assumption
    obtain ⟨rq, hq⟩ : ∃ rq, r1 = rq := ⟨_, rfl⟩
    obtain ⟨hs, hm, hgm, hfew⟩ : RdAt w0 B M T rest rq w1 ∧ Mov B M w w1 ∧ Got pMany r rq n ∧ (rq.e = 0 → n ≤ 4096) := by
      rw [← hq]
      have hle' : ¬ 4096 < n := by omega
      exact ⟨h1, m1, (Got.many g1).2 hle', fun _ => by omega⟩
    clear hq h1 m1 g1 c2 c1 hle
    have HG := Lib.hid hgm
    have HF := Lib.hid hfew
    clear hgm hfew
    go_loopw [6, 14] (fun v i wr => ∃ (k : Nat) (l : List MemV) (rk : RV), (k : Int) ≤ n ∧ k ≤ 4096 ∧ i = .int .i64 k ∧ wr.ownsRow w.heap.size 78 2 v k (l.flatMap MemV.row) ∧ l.length = k ∧ RdAt w0 B M T rest rk wr ∧ Mov B M w wr ∧ Hid (Got (pRep P k) rq rk l) ∧ ∀ x ∈ l, ok x) (fun _ i _ => n.toNat - (intOf i).toNat)
    case atStart => exact ⟨0, [], rq, ok0, by omega, rfl, World.ownsRow_nil _ _ _ _, rfl, hs, hm, Lib.hid (Got.zero rq), fun x hx => by cases hx⟩
    case round =>
      clear hs hm
      obtain ⟨k, l, rk, hkn, hk4, rfl, hown, hlk, hr, hm, HK, hok⟩ := hrel
      obtain ⟨vp, vc, rfl⟩ := own_any6 hown
      obtain ⟨x0, x1, x2, x3, y0, y1, y2, y3⟩ := hr.reads
      by_cases hlt : (k : Int) < n
      · by_cases he : rk.e = 0
        · have hn4 : n ≤ 4096 := HF.out (by
            rcases HK.out.2 with ⟨a1, a2⟩ | ⟨a1, _⟩ | ⟨a1, _⟩
            · exact absurd (a2.symm.trans he) a1
            · exact a1
            · exact a1)
          rw [he] at x2
          have cq := hE B M T rest rk wr hr
          have HE := Lib.hid he
          have HLK := Lib.hid hlk
          clear hr he hlk
          go_wp2_with fail
          refine cq.mono ?_
          rintro e w3 ⟨x, r3, rfl, g3, h3, m3, hx⟩
          have hown3 := (own_mov hown m3 hBl hMl).alloc (.cells (MemV.row x).toArray 78)
          have h3a := h3.alloc (.cells (MemV.row x).toArray 78)
          have hm3 := (hm.trans m3).alloc (.cells (MemV.row x).toArray 78)
          have hs3 := Nat.le_trans hm.size m3.size
          clear cq hown
          dsimp only [valMem]
          go_wp2_with (at_builtin; refine wpList_append_own_at _ rfl (.tmp 21) (.tmp 25) 30 rfl w.heap.size 78 i0 (.agg #[.int .i64 0, .int .i64 0]) 2 16 Tryz.underlying30 hi hz0 hz1 hz2 rfl (by decide) (.slice vp k vc) k (l.flatMap MemV.row) rfl hown3 ⟨w3.heap.size, 0, none⟩ 1 1 (MemV.row x) rfl rfl (cells_new6 w3 (MemV.row x) 78) (by intro u hu; simp [MemV.row] at hu; rcases hu with rfl | rfl <;> rfl) (by unfold maxLen; omega) (by omega) (by simp; omega) ?_)
          intro v' w4 hown4 hg4 _ _
          have hge : ∀ q, (Value.slice vp k vc).ownBlock = some q → w.heap.size ≤ q := fun q hq => (own_lt6 hown3 q hq).1
          have h4 := h3a.grown hg4 (fun q hq => Nat.lt_of_lt_of_le hBl (hge q hq)) (fun q hq => Nat.lt_of_lt_of_le hMl (hge q hq))
          have hm4 := hm3.grown hg4 hge
          have e4 : l.flatMap MemV.row ++ MemV.row x = (l ++ [x]).flatMap MemV.row := by simp
          rw [e4] at hown4
          have HK4 := Lib.hid (Got.more HK.out g3 HE.out)
          have hok4 : ∀ y ∈ l ++ [x], ok y := fun y hy => by
            rcases List.mem_append.1 hy with hy | hy
            · exact hok y hy
            · rw [List.mem_singleton.1 hy]; exact hx
          have hl4 : (l ++ [x]).length = k + 1 := by rw [List.length_append, HLK.out]; rfl
          clear hown3 h3a hm3 h3 m3 g3 HK hok HLK e4 hg4 x0 x1 x2 x3 y0 y1 y2 y3 hge
          go_wp2
          go_roundw
          case rel => exact ⟨k + 1, l ++ [x], r3, by omega, by omega, by go_num, hown4, hl4, h4, hm4, HK4, hok4⟩
          case measure => simp [intOf]; omega
        · have hq : (rk.e != 0) = true := by simpa using he
          have HGL := Lib.hid (Got.list HG.out (HK.out.short (n := n.toNat) (by omega) he []))
          go_wp2
          go_ret
          exact ⟨[], rk, _, rfl, HGL.out, hr, hm, World.ownsRow_nil _ _ _ _, (fun x hx => by cases hx), by simp⟩
      · have hkk : n.toNat = k := by omega
        have HGL := Lib.hid (Got.list HG.out (hkk.symm ▸ HK.out))
        have hnk : n = (k : Int) := by omega
        clear hlt
        go_wp2
        go_ret
        exact ⟨l, rk, _, rfl, HGL.out, hr, hm, hlk.symm ▸ hown, hok, by omega⟩
theorem info_Global : (Tryz.prog.info? 91).map (fun i => (i.zero, i.size, i.bytes)) = some (some (.agg #[.int .i64 0, .bool false, .int .i64 0]), 3, 24) := by kernel_rfl
theorem list_Global {w0 : World} {g : Nat} {lb : Array Value} {P : Pr GlobV} {ok : GlobV → Prop} (eg : ∀ args w, (callFunc g args).run Tryz.prog w = .ok (.enter g args) w)
    (hE : ∀ (B M : Nat) (T : TypeId) (rest : List Value) (r : RV) (W : World), RdAt w0 B M T rest r W → Calls Tryz.prog g (#[.pointer (some ⟨B, 0, none⟩)] ++ lb) W (Did w0 B M T rest r W P valGlob (fun _ _ x => ok x)))
    {B M : Nat} {T : TypeId} {rest : List Value} {r : RV} {w : World} (h : RdAt w0 B M T rest r w) :
    Calls Tryz.prog 212 #[.pointer (some ⟨B, 0, none⟩), .func (.func g) #[] lb] w (DidList w0 B M T rest r w P 91 3 GlobV.row ok) := by
  have hlt := h.lt
  have hBl := hlt.1
  have hMl := hlt.2
  have c1 := number_reads w0 B M T rest r w h
  obtain ⟨i0, hi, hz0, hz1, hz2⟩ := info_parts info_Global
  clear h hlt
  go_enter Tryz.func212, Tryz.ntmps212
  go_wp2_with (first
    | (go_at_call 150; (with_reducible refine c1.mono ?_); rintro e w1 ⟨n, r1, rfl, g1, h1, m1, ok1⟩; have c2 := fail_of h1 5; have ok0 := ok1.1; have ok2 := ok1.2; dsimp only [valInt])
    | (go_at_call 138; (with_reducible refine c2.mono ?_); rintro e w2 ⟨rfl, h2, m2⟩))
  · have hgt : 4096 < n := by assumption
    obtain ⟨rq, hq⟩ : ∃ rq, r1.bad 5 = rq := ⟨_, rfl⟩
    obtain ⟨hs, hm, hgm, hfew⟩ : RdAt w0 B M T rest rq w2 ∧ Mov B M w w2 ∧ Got pMany r rq n ∧ (rq.e = 0 → n ≤ 4096) := by
      rw [← hq]
      exact ⟨h2, m1.trans m2, (Got.many g1).1 hgt, fun e => absurd e (bad_e (by decide))⟩
    clear hq h1 h2 m1 m2 g1 c2 c1 hgt
    have HG := Lib.hid hgm
    have HF := Lib.hid hfew
    clear hgm hfew
    go_loopw [6, 14] (fun v i wr => ∃ (k : Nat) (l : List GlobV) (rk : RV), (k : Int) ≤ n ∧ k ≤ 4096 ∧ i = .int .i64 k ∧ wr.ownsRow w.heap.size 91 3 v k (l.flatMap GlobV.row) ∧ l.length = k ∧ RdAt w0 B M T rest rk wr ∧ Mov B M w wr ∧ Hid (Got (pRep P k) rq rk l) ∧ ∀ x ∈ l, ok x) (fun _ i _ => n.toNat - (intOf i).toNat)
    case atStart => exact ⟨0, [], rq, ok0, by omega, rfl, World.ownsRow_nil _ _ _ _, rfl, hs, hm, Lib.hid (Got.zero rq), fun x hx => by cases hx⟩
    case round =>
      clear hs hm
      obtain ⟨k, l, rk, hkn, hk4, rfl, hown, hlk, hr, hm, HK, hok⟩ := hrel
      obtain ⟨vp, vc, rfl⟩ := own_any6 hown
      obtain ⟨x0, x1, x2, x3, y0, y1, y2, y3⟩ := hr.reads
      by_cases hlt : (k : Int) < n
      · by_cases he : rk.e = 0
        · have hn4 : n ≤ 4096 := HF.out (by
            rcases HK.out.2 with ⟨a1, a2⟩ | ⟨a1, _⟩ | ⟨a1, _⟩
            · exact absurd (a2.symm.trans he) a1
            · exact a1
            · exact a1)
          exfalso; omega
        · have hq : (rk.e != 0) = true := by simpa using he
          have HGL := Lib.hid (Got.list HG.out (HK.out.short (n := n.toNat) (by omega) he []))
          go_wp2
          go_ret
          exact ⟨[], rk, _, rfl, HGL.out, hr, hm, World.ownsRow_nil _ _ _ _, (fun x hx => by cases hx), by simp⟩
      · have hkk : n.toNat = k := by omega
        have HGL := Lib.hid (Got.list HG.out (hkk.symm ▸ HK.out))
        have hnk : n = (k : Int) := by omega
        clear hlt
        go_wp2
        go_ret
        exact ⟨l, rk, _, rfl, HGL.out, hr, hm, hlk.symm ▸ hown, hok, by omega⟩
  · have hle : n ≤ 4096 := by assumption
    obtain ⟨rq, hq⟩ : ∃ rq, r1 = rq := ⟨_, rfl⟩
    obtain ⟨hs, hm, hgm, hfew⟩ : RdAt w0 B M T rest rq w1 ∧ Mov B M w w1 ∧ Got pMany r rq n ∧ (rq.e = 0 → n ≤ 4096) := by
      rw [← hq]
      have hle' : ¬ 4096 < n := by omega
      exact ⟨h1, m1, (Got.many g1).2 hle', fun _ => by omega⟩
    clear hq h1 m1 g1 c2 c1 hle
    have HG := Lib.hid hgm
    have HF := Lib.hid hfew
    clear hgm hfew
    go_loopw [6, 14] (fun v i wr => ∃ (k : Nat) (l : List GlobV) (rk : RV), (k : Int) ≤ n ∧ k ≤ 4096 ∧ i = .int .i64 k ∧ wr.ownsRow w.heap.size 91 3 v k (l.flatMap GlobV.row) ∧ l.length = k ∧ RdAt w0 B M T rest rk wr ∧ Mov B M w wr ∧ Hid (Got (pRep P k) rq rk l) ∧ ∀ x ∈ l, ok x) (fun _ i _ => n.toNat - (intOf i).toNat)
    case atStart => exact ⟨0, [], rq, ok0, by omega, rfl, World.ownsRow_nil _ _ _ _, rfl, hs, hm, Lib.hid (Got.zero rq), fun x hx => by cases hx⟩
    case round =>
      clear hs hm
      obtain ⟨k, l, rk, hkn, hk4, rfl, hown, hlk, hr, hm, HK, hok⟩ := hrel
      obtain ⟨vp, vc, rfl⟩ := own_any6 hown
      obtain ⟨x0, x1, x2, x3, y0, y1, y2, y3⟩ := hr.reads
      by_cases hlt : (k : Int) < n
      · by_cases he : rk.e = 0
        · have hn4 : n ≤ 4096 := HF.out (by
            rcases HK.out.2 with ⟨a1, a2⟩ | ⟨a1, _⟩ | ⟨a1, _⟩
            · exact absurd (a2.symm.trans he) a1
            · exact a1
            · exact a1)
          rw [he] at x2
          have cq := hE B M T rest rk wr hr
          have HE := Lib.hid he
          have HLK := Lib.hid hlk
          clear hr he hlk
          go_wp2_with fail
          refine cq.mono ?_
          rintro e w3 ⟨x, r3, rfl, g3, h3, m3, hx⟩
          have hown3 := (own_mov hown m3 hBl hMl).alloc (.cells (GlobV.row x).toArray 91)
          have h3a := h3.alloc (.cells (GlobV.row x).toArray 91)
          have hm3 := (hm.trans m3).alloc (.cells (GlobV.row x).toArray 91)
          have hs3 := Nat.le_trans hm.size m3.size
          clear cq hown
          dsimp only [valGlob]
          go_wp2_with (at_builtin; refine wpList_append_own_at _ rfl (.tmp 21) (.tmp 25) 31 rfl w.heap.size 91 i0 (.agg #[.int .i64 0, .bool false, .int .i64 0]) 3 24 Tryz.underlying31 hi hz0 hz1 hz2 rfl (by decide) (.slice vp k vc) k (l.flatMap GlobV.row) rfl hown3 ⟨w3.heap.size, 0, none⟩ 1 1 (GlobV.row x) rfl rfl (cells_new6 w3 (GlobV.row x) 91) (by intro u hu; simp [GlobV.row] at hu; rcases hu with rfl | rfl | rfl <;> rfl) (by unfold maxLen; omega) (by omega) (by simp; omega) ?_)
          intro v' w4 hown4 hg4 _ _
          have hge : ∀ q, (Value.slice vp k vc).ownBlock = some q → w.heap.size ≤ q := fun q hq => (own_lt6 hown3 q hq).1
          have h4 := h3a.grown hg4 (fun q hq => Nat.lt_of_lt_of_le hBl (hge q hq)) (fun q hq => Nat.lt_of_lt_of_le hMl (hge q hq))
          have hm4 := hm3.grown hg4 hge
          have e4 : l.flatMap GlobV.row ++ GlobV.row x = (l ++ [x]).flatMap GlobV.row := by simp
          rw [e4] at hown4
          have HK4 := Lib.hid (Got.more HK.out g3 HE.out)
          have hok4 : ∀ y ∈ l ++ [x], ok y := fun y hy => by
            rcases List.mem_append.1 hy with hy | hy
            · exact hok y hy
            · rw [List.mem_singleton.1 hy]; exact hx
          have hl4 : (l ++ [x]).length = k + 1 := by rw [List.length_append, HLK.out]; rfl
          clear hown3 h3a hm3 h3 m3 g3 HK hok HLK e4 hg4 x0 x1 x2 x3 y0 y1 y2 y3 hge
          go_wp2
          go_roundw
          case rel => exact ⟨k + 1, l ++ [x], r3, by omega, by omega, by go_num, hown4, hl4, h4, hm4, HK4, hok4⟩
          case measure => simp [intOf]; omega
        · have hq : (rk.e != 0) = true := by simpa using he
          have HGL := Lib.hid (Got.list HG.out (HK.out.short (n := n.toNat) (by omega) he []))
          go_wp2
          go_ret
          exact ⟨[], rk, _, rfl, HGL.out, hr, hm, World.ownsRow_nil _ _ _ _, (fun x hx => by cases hx), by simp⟩
      · have hkk : n.toNat = k := by omega
        have HGL := Lib.hid (Got.list HG.out (hkk.symm ▸ HK.out))
        have hnk : n = (k : Int) := by omega
        clear hlt
        go_wp2
        go_ret
        exact ⟨l, rk, _, rfl, HGL.out, hr, hm, hlk.symm ▸ hown, hok, by omega⟩
theorem info_Export : (Tryz.prog.info? 76).map (fun i => (i.zero, i.size, i.bytes)) = some (some (.agg #[.string ⟨#[]⟩, .int .i64 0, .int .i64 0]), 3, 32) := by kernel_rfl
theorem list_Export {w0 : World} {g : Nat} {lb : Array Value} {P : Pr ExpV} {ok : ExpV → Prop} (eg : ∀ args w, (callFunc g args).run Tryz.prog w = .ok (.enter g args) w)
    (hE : ∀ (B M : Nat) (T : TypeId) (rest : List Value) (r : RV) (W : World), RdAt w0 B M T rest r W → Calls Tryz.prog g (#[.pointer (some ⟨B, 0, none⟩)] ++ lb) W (Did w0 B M T rest r W P valExp (fun _ _ x => ok x)))
    {B M : Nat} {T : TypeId} {rest : List Value} {r : RV} {w : World} (h : RdAt w0 B M T rest r w) :
    Calls Tryz.prog 214 #[.pointer (some ⟨B, 0, none⟩), .func (.func g) #[] lb] w (DidList w0 B M T rest r w P 76 3 ExpV.row ok) := by
  have hlt := h.lt
  have hBl := hlt.1
  have hMl := hlt.2
  have c1 := number_reads w0 B M T rest r w h
  obtain ⟨i0, hi, hz0, hz1, hz2⟩ := info_parts info_Export
  clear h hlt
  go_enter Tryz.func214, Tryz.ntmps214
  go_wp2_with (first
    | (go_at_call 150; (with_reducible refine c1.mono ?_); rintro e w1 ⟨n, r1, rfl, g1, h1, m1, ok1⟩; have c2 := fail_of h1 5; have ok0 := ok1.1; have ok2 := ok1.2; dsimp only [valInt])
    | (go_at_call 138; (with_reducible refine c2.mono ?_); rintro e w2 ⟨rfl, h2, m2⟩))
  · have hgt : 4096 < n := by assumption
    obtain ⟨rq, hq⟩ : ∃ rq, r1.bad 5 = rq := ⟨_, rfl⟩
    obtain ⟨hs, hm, hgm, hfew⟩ : RdAt w0 B M T rest rq w2 ∧ Mov B M w w2 ∧ Got pMany r rq n ∧ (rq.e = 0 → n ≤ 4096) := by
      rw [← hq]
      exact ⟨h2, m1.trans m2, (Got.many g1).1 hgt, fun e => absurd e (bad_e (by decide))⟩
    clear hq h1 h2 m1 m2 g1 c2 c1 hgt
    have HG := Lib.hid hgm
    have HF := Lib.hid hfew
    clear hgm hfew
    go_loopw [6, 14] (fun v i wr => ∃ (k : Nat) (l : List ExpV) (rk : RV), (k : Int) ≤ n ∧ k ≤ 4096 ∧ i = .int .i64 k ∧ wr.ownsRow w.heap.size 76 3 v k (l.flatMap ExpV.row) ∧ l.length = k ∧ RdAt w0 B M T rest rk wr ∧ Mov B M w wr ∧ Hid (Got (pRep P k) rq rk l) ∧ ∀ x ∈ l, ok x) (fun _ i _ => n.toNat - (intOf i).toNat)
    case atStart => exact ⟨0, [], rq, ok0, by omega, rfl, World.ownsRow_nil _ _ _ _, rfl, hs, hm, Lib.hid (Got.zero rq), fun x hx => by cases hx⟩
    case round =>
      clear hs hm
      obtain ⟨k, l, rk, hkn, hk4, rfl, hown, hlk, hr, hm, HK, hok⟩ := hrel
      obtain ⟨vp, vc, rfl⟩ := own_any6 hown
      obtain ⟨x0, x1, x2, x3, y0, y1, y2, y3⟩ := hr.reads
      by_cases hlt : (k : Int) < n
      · by_cases he : rk.e = 0
        · have hn4 : n ≤ 4096 := HF.out (by
            rcases HK.out.2 with ⟨a1, a2⟩ | ⟨a1, _⟩ | ⟨a1, _⟩
            · exact absurd (a2.symm.trans he) a1
            · exact a1
            · exact a1)
          exfalso; omega
        · have hq : (rk.e != 0) = true := by simpa using he
          have HGL := Lib.hid (Got.list HG.out (HK.out.short (n := n.toNat) (by omega) he []))
          go_wp2
          go_ret
          exact ⟨[], rk, _, rfl, HGL.out, hr, hm, World.ownsRow_nil _ _ _ _, (fun x hx => by cases hx), by simp⟩
      · have hkk : n.toNat = k := by omega
        have HGL := Lib.hid (Got.list HG.out (hkk.symm ▸ HK.out))
        have hnk : n = (k : Int) := by omega
        clear hlt
        go_wp2
        go_ret
        exact ⟨l, rk, _, rfl, HGL.out, hr, hm, hlk.symm ▸ hown, hok, by omega⟩
  · have hle : n ≤ 4096 := by assumption
    obtain ⟨rq, hq⟩ : ∃ rq, r1 = rq := ⟨_, rfl⟩
    obtain ⟨hs, hm, hgm, hfew⟩ : RdAt w0 B M T rest rq w1 ∧ Mov B M w w1 ∧ Got pMany r rq n ∧ (rq.e = 0 → n ≤ 4096) := by
      rw [← hq]
      have hle' : ¬ 4096 < n := by omega
      exact ⟨h1, m1, (Got.many g1).2 hle', fun _ => by omega⟩
    clear hq h1 m1 g1 c2 c1 hle
    have HG := Lib.hid hgm
    have HF := Lib.hid hfew
    clear hgm hfew
    go_loopw [6, 14] (fun v i wr => ∃ (k : Nat) (l : List ExpV) (rk : RV), (k : Int) ≤ n ∧ k ≤ 4096 ∧ i = .int .i64 k ∧ wr.ownsRow w.heap.size 76 3 v k (l.flatMap ExpV.row) ∧ l.length = k ∧ RdAt w0 B M T rest rk wr ∧ Mov B M w wr ∧ Hid (Got (pRep P k) rq rk l) ∧ ∀ x ∈ l, ok x) (fun _ i _ => n.toNat - (intOf i).toNat)
    case atStart => exact ⟨0, [], rq, ok0, by omega, rfl, World.ownsRow_nil _ _ _ _, rfl, hs, hm, Lib.hid (Got.zero rq), fun x hx => by cases hx⟩
    case round =>
      clear hs hm
      obtain ⟨k, l, rk, hkn, hk4, rfl, hown, hlk, hr, hm, HK, hok⟩ := hrel
      obtain ⟨vp, vc, rfl⟩ := own_any6 hown
      obtain ⟨x0, x1, x2, x3, y0, y1, y2, y3⟩ := hr.reads
      by_cases hlt : (k : Int) < n
      · by_cases he : rk.e = 0
        · have hn4 : n ≤ 4096 := HF.out (by
            rcases HK.out.2 with ⟨a1, a2⟩ | ⟨a1, _⟩ | ⟨a1, _⟩
            · exact absurd (a2.symm.trans he) a1
            · exact a1
            · exact a1)
          rw [he] at x2
          have cq := hE B M T rest rk wr hr
          have HE := Lib.hid he
          have HLK := Lib.hid hlk
          clear hr he hlk
          go_wp2_with fail
          refine cq.mono ?_
          rintro e w3 ⟨x, r3, rfl, g3, h3, m3, hx⟩
          have hown3 := (own_mov hown m3 hBl hMl).alloc (.cells (ExpV.row x).toArray 76)
          have h3a := h3.alloc (.cells (ExpV.row x).toArray 76)
          have hm3 := (hm.trans m3).alloc (.cells (ExpV.row x).toArray 76)
          have hs3 := Nat.le_trans hm.size m3.size
          clear cq hown
          dsimp only [valExp]
          go_wp2_with (at_builtin; refine wpList_append_own_at _ rfl (.tmp 21) (.tmp 25) 32 rfl w.heap.size 76 i0 (.agg #[.string ⟨#[]⟩, .int .i64 0, .int .i64 0]) 3 32 Tryz.underlying32 hi hz0 hz1 hz2 rfl (by decide) (.slice vp k vc) k (l.flatMap ExpV.row) rfl hown3 ⟨w3.heap.size, 0, none⟩ 1 1 (ExpV.row x) rfl rfl (cells_new6 w3 (ExpV.row x) 76) (by intro u hu; simp [ExpV.row] at hu; rcases hu with rfl | rfl | rfl <;> rfl) (by unfold maxLen; omega) (by omega) (by simp; omega) ?_)
          intro v' w4 hown4 hg4 _ _
          have hge : ∀ q, (Value.slice vp k vc).ownBlock = some q → w.heap.size ≤ q := fun q hq => (own_lt6 hown3 q hq).1
          have h4 := h3a.grown hg4 (fun q hq => Nat.lt_of_lt_of_le hBl (hge q hq)) (fun q hq => Nat.lt_of_lt_of_le hMl (hge q hq))
          have hm4 := hm3.grown hg4 hge
          have e4 : l.flatMap ExpV.row ++ ExpV.row x = (l ++ [x]).flatMap ExpV.row := by simp
          rw [e4] at hown4
          have HK4 := Lib.hid (Got.more HK.out g3 HE.out)
          have hok4 : ∀ y ∈ l ++ [x], ok y := fun y hy => by
            rcases List.mem_append.1 hy with hy | hy
            · exact hok y hy
            · rw [List.mem_singleton.1 hy]; exact hx
          have hl4 : (l ++ [x]).length = k + 1 := by rw [List.length_append, HLK.out]; rfl
          clear hown3 h3a hm3 h3 m3 g3 HK hok HLK e4 hg4 x0 x1 x2 x3 y0 y1 y2 y3 hge
          go_wp2
          go_roundw
          case rel => exact ⟨k + 1, l ++ [x], r3, by omega, by omega, by go_num, hown4, hl4, h4, hm4, HK4, hok4⟩
          case measure => simp [intOf]; omega
        · have hq : (rk.e != 0) = true := by simpa using he
          have HGL := Lib.hid (Got.list HG.out (HK.out.short (n := n.toNat) (by omega) he []))
          go_wp2
          go_ret
          exact ⟨[], rk, _, rfl, HGL.out, hr, hm, World.ownsRow_nil _ _ _ _, (fun x hx => by cases hx), by simp⟩
      · have hkk : n.toNat = k := by omega
        have HGL := Lib.hid (Got.list HG.out (hkk.symm ▸ HK.out))
        have hnk : n = (k : Int) := by omega
        clear hlt
        go_wp2
        go_ret
        exact ⟨l, rk, _, rfl, HGL.out, hr, hm, hlk.symm ▸ hown, hok, by omega⟩
theorem info_Data : (Tryz.prog.info? 94).map (fun i => (i.zero, i.size, i.bytes)) = some (some (.agg #[.int .i64 0, .string ⟨#[]⟩]), 2, 24) := by kernel_rfl
theorem list_Data {w0 : World} {g : Nat} {lb : Array Value} {P : Pr DatV} {ok : DatV → Prop} (eg : ∀ args w, (callFunc g args).run Tryz.prog w = .ok (.enter g args) w)
    (hE : ∀ (B M : Nat) (T : TypeId) (rest : List Value) (r : RV) (W : World), RdAt w0 B M T rest r W → Calls Tryz.prog g (#[.pointer (some ⟨B, 0, none⟩)] ++ lb) W (Did w0 B M T rest r W P valDat (fun _ _ x => ok x)))
    {B M : Nat} {T : TypeId} {rest : List Value} {r : RV} {w : World} (h : RdAt w0 B M T rest r w) :
    Calls Tryz.prog 217 #[.pointer (some ⟨B, 0, none⟩), .func (.func g) #[] lb] w (DidList w0 B M T rest r w P 94 2 DatV.row ok) := by
  have hlt := h.lt
  have hBl := hlt.1
  have hMl := hlt.2
  have c1 := number_reads w0 B M T rest r w h
  obtain ⟨i0, hi, hz0, hz1, hz2⟩ := info_parts info_Data
  clear h hlt
  go_enter Tryz.func217, Tryz.ntmps217
  go_wp2_with (first
    | (go_at_call 150; (with_reducible refine c1.mono ?_); rintro e w1 ⟨n, r1, rfl, g1, h1, m1, ok1⟩; have c2 := fail_of h1 5; have ok0 := ok1.1; have ok2 := ok1.2; dsimp only [valInt])
    | (go_at_call 138; (with_reducible refine c2.mono ?_); rintro e w2 ⟨rfl, h2, m2⟩))
  · have hgt : 4096 < n := by assumption
    obtain ⟨rq, hq⟩ : ∃ rq, r1.bad 5 = rq := ⟨_, rfl⟩
    obtain ⟨hs, hm, hgm, hfew⟩ : RdAt w0 B M T rest rq w2 ∧ Mov B M w w2 ∧ Got pMany r rq n ∧ (rq.e = 0 → n ≤ 4096) := by
      rw [← hq]
      exact ⟨h2, m1.trans m2, (Got.many g1).1 hgt, fun e => absurd e (bad_e (by decide))⟩
    clear hq h1 h2 m1 m2 g1 c2 c1 hgt
    have HG := Lib.hid hgm
    have HF := Lib.hid hfew
    clear hgm hfew
    go_loopw [6, 14] (fun v i wr => ∃ (k : Nat) (l : List DatV) (rk : RV), (k : Int) ≤ n ∧ k ≤ 4096 ∧ i = .int .i64 k ∧ wr.ownsRow w.heap.size 94 2 v k (l.flatMap DatV.row) ∧ l.length = k ∧ RdAt w0 B M T rest rk wr ∧ Mov B M w wr ∧ Hid (Got (pRep P k) rq rk l) ∧ ∀ x ∈ l, ok x) (fun _ i _ => n.toNat - (intOf i).toNat)
    case atStart => exact ⟨0, [], rq, ok0, by omega, rfl, World.ownsRow_nil _ _ _ _, rfl, hs, hm, Lib.hid (Got.zero rq), fun x hx => by cases hx⟩
    case round =>
      clear hs hm
      obtain ⟨k, l, rk, hkn, hk4, rfl, hown, hlk, hr, hm, HK, hok⟩ := hrel
      obtain ⟨vp, vc, rfl⟩ := own_any6 hown
      obtain ⟨x0, x1, x2, x3, y0, y1, y2, y3⟩ := hr.reads
      by_cases hlt : (k : Int) < n
      · by_cases he : rk.e = 0
        · have hn4 : n ≤ 4096 := HF.out (by
            rcases HK.out.2 with ⟨a1, a2⟩ | ⟨a1, _⟩ | ⟨a1, _⟩
            · exact absurd (a2.symm.trans he) a1
            · exact a1
            · exact a1)
          exfalso; omega
        · have hq : (rk.e != 0) = true := by simpa using he
          have HGL := Lib.hid (Got.list HG.out (HK.out.short (n := n.toNat) (by omega) he []))
          go_wp2
          go_ret
          exact ⟨[], rk, _, rfl, HGL.out, hr, hm, World.ownsRow_nil _ _ _ _, (fun x hx => by cases hx), by simp⟩
      · have hkk : n.toNat = k := by omega
        have HGL := Lib.hid (Got.list HG.out (hkk.symm ▸ HK.out))
        have hnk : n = (k : Int) := by omega
        clear hlt
        go_wp2
        go_ret
        exact ⟨l, rk, _, rfl, HGL.out, hr, hm, hlk.symm ▸ hown, hok, by omega⟩
  · have hle : n ≤ 4096 := by assumption
    obtain ⟨rq, hq⟩ : ∃ rq, r1 = rq := ⟨_, rfl⟩
    obtain ⟨hs, hm, hgm, hfew⟩ : RdAt w0 B M T rest rq w1 ∧ Mov B M w w1 ∧ Got pMany r rq n ∧ (rq.e = 0 → n ≤ 4096) := by
      rw [← hq]
      have hle' : ¬ 4096 < n := by omega
      exact ⟨h1, m1, (Got.many g1).2 hle', fun _ => by omega⟩
    clear hq h1 m1 g1 c2 c1 hle
    have HG := Lib.hid hgm
    have HF := Lib.hid hfew
    clear hgm hfew
    go_loopw [6, 14] (fun v i wr => ∃ (k : Nat) (l : List DatV) (rk : RV), (k : Int) ≤ n ∧ k ≤ 4096 ∧ i = .int .i64 k ∧ wr.ownsRow w.heap.size 94 2 v k (l.flatMap DatV.row) ∧ l.length = k ∧ RdAt w0 B M T rest rk wr ∧ Mov B M w wr ∧ Hid (Got (pRep P k) rq rk l) ∧ ∀ x ∈ l, ok x) (fun _ i _ => n.toNat - (intOf i).toNat)
    case atStart => exact ⟨0, [], rq, ok0, by omega, rfl, World.ownsRow_nil _ _ _ _, rfl, hs, hm, Lib.hid (Got.zero rq), fun x hx => by cases hx⟩
    case round =>
      clear hs hm
      obtain ⟨k, l, rk, hkn, hk4, rfl, hown, hlk, hr, hm, HK, hok⟩ := hrel
      obtain ⟨vp, vc, rfl⟩ := own_any6 hown
      obtain ⟨x0, x1, x2, x3, y0, y1, y2, y3⟩ := hr.reads
      by_cases hlt : (k : Int) < n
      · by_cases he : rk.e = 0
        · have hn4 : n ≤ 4096 := HF.out (by
            rcases HK.out.2 with ⟨a1, a2⟩ | ⟨a1, _⟩ | ⟨a1, _⟩
            · exact absurd (a2.symm.trans he) a1
            · exact a1
            · exact a1)
          rw [he] at x2
          have cq := hE B M T rest rk wr hr
          have HE := Lib.hid he
          have HLK := Lib.hid hlk
          clear hr he hlk
          go_wp2_with fail
          refine cq.mono ?_
          rintro e w3 ⟨x, r3, rfl, g3, h3, m3, hx⟩
          have hown3 := (own_mov hown m3 hBl hMl).alloc (.cells (DatV.row x).toArray 94)
          have h3a := h3.alloc (.cells (DatV.row x).toArray 94)
          have hm3 := (hm.trans m3).alloc (.cells (DatV.row x).toArray 94)
          have hs3 := Nat.le_trans hm.size m3.size
          clear cq hown
          dsimp only [valDat]
          go_wp2_with (at_builtin; refine wpList_append_own_at _ rfl (.tmp 21) (.tmp 25) 33 rfl w.heap.size 94 i0 (.agg #[.int .i64 0, .string ⟨#[]⟩]) 2 24 Tryz.underlying33 hi hz0 hz1 hz2 rfl (by decide) (.slice vp k vc) k (l.flatMap DatV.row) rfl hown3 ⟨w3.heap.size, 0, none⟩ 1 1 (DatV.row x) rfl rfl (cells_new6 w3 (DatV.row x) 94) (by intro u hu; simp [DatV.row] at hu; rcases hu with rfl | rfl <;> rfl) (by unfold maxLen; omega) (by omega) (by simp; omega) ?_)
          intro v' w4 hown4 hg4 _ _
          have hge : ∀ q, (Value.slice vp k vc).ownBlock = some q → w.heap.size ≤ q := fun q hq => (own_lt6 hown3 q hq).1
          have h4 := h3a.grown hg4 (fun q hq => Nat.lt_of_lt_of_le hBl (hge q hq)) (fun q hq => Nat.lt_of_lt_of_le hMl (hge q hq))
          have hm4 := hm3.grown hg4 hge
          have e4 : l.flatMap DatV.row ++ DatV.row x = (l ++ [x]).flatMap DatV.row := by simp
          rw [e4] at hown4
          have HK4 := Lib.hid (Got.more HK.out g3 HE.out)
          have hok4 : ∀ y ∈ l ++ [x], ok y := fun y hy => by
            rcases List.mem_append.1 hy with hy | hy
            · exact hok y hy
            · rw [List.mem_singleton.1 hy]; exact hx
          have hl4 : (l ++ [x]).length = k + 1 := by rw [List.length_append, HLK.out]; rfl
          clear hown3 h3a hm3 h3 m3 g3 HK hok HLK e4 hg4 x0 x1 x2 x3 y0 y1 y2 y3 hge
          go_wp2
          go_roundw
          case rel => exact ⟨k + 1, l ++ [x], r3, by omega, by omega, by go_num, hown4, hl4, h4, hm4, HK4, hok4⟩
          case measure => simp [intOf]; omega
        · have hq : (rk.e != 0) = true := by simpa using he
          have HGL := Lib.hid (Got.list HG.out (HK.out.short (n := n.toNat) (by omega) he []))
          go_wp2
          go_ret
          exact ⟨[], rk, _, rfl, HGL.out, hr, hm, World.ownsRow_nil _ _ _ _, (fun x hx => by cases hx), by simp⟩
      · have hkk : n.toNat = k := by omega
        have HGL := Lib.hid (Got.list HG.out (hkk.symm ▸ HK.out))
        have hnk : n = (k : Int) := by omega
        clear hlt
        go_wp2
        go_ret
        exact ⟨l, rk, _, rfl, HGL.out, hr, hm, hlk.symm ▸ hown, hok, by omega⟩
end Go.Proofs.YthfipknfdnfalaaGreatDoor
