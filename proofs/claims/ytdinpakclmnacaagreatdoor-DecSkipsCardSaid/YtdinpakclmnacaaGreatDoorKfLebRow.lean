/-
  Facts and contracts that the proof calls.
-/
import Derived.Test.YtdinpakclmnacaaGreatDoorKfLebMath
import Derived.WalkKit
namespace Go.Proofs.YtdinpakclmnacaaGreatDoor
set_option maxRecDepth 100000
set_option maxHeartbeats 16000000
open Go.RowKit
section
variable {P : Program}
def Row (w : World) (g eb cap : Nat) (l : List UInt8) : Prop :=
  ∃ cur : Array Value, w.heap[g]? = some (.cells cur eb (0, 0)) ∧ cur.size = cap ∧ l.length ≤ cap ∧ cur.toList.take l.length = l.map fun b => Value.int .u8 (b.toNat : Int)
theorem Row.lt {w : World} {g eb cap : Nat} {l : List UInt8} (h : Row w g eb cap l) : g < w.heap.size := by
  obtain ⟨cur, hg, _⟩ := h
  exact (Array.getElem?_eq_some_iff.1 hg).1
theorem Row.alloc {w : World} {g eb cap : Nat} {l : List UInt8} (h : Row w g eb cap l) (o : Obj) : Row (w.alloc o) g eb cap l := by
  have hl := h.lt
  obtain ⟨cur, hg, rest⟩ := h
  exact ⟨cur, (Below.heap_alloc w o g hl).trans hg, rest⟩
theorem Row.cell {w : World} {g eb cap : Nat} {l : List UInt8} (h : Row w g eb cap l) (j : Nat) (hj : j < l.length) : w.cell? ((⟨g, 0, none⟩ : Addr).add j) = some (.int .u8 (l[j].toNat : Int)) := by
  obtain ⟨cur, hg, hs, hle, ht⟩ := h
  have hadd : (⟨g, 0, none⟩ : Addr).add j = ⟨g, j, none⟩ := by unfold Addr.add; split <;> simp_all
  rw [hadd, cell_of_row w g j cur eb (0, 0) hg]
  have h2 : (cur.toList.take l.length)[j]? = (l.map fun b => Value.int .u8 (b.toNat : Int))[j]? := by rw [ht]
  rw [List.getElem?_take, if_pos hj] at h2
  simpa [hj] using h2
theorem row_string (w : World) (src dst e : TypeId) (g eb cap : Nat) (l : List UInt8) (hs : P.underlying src = some (.slice e)) (he : P.underlying e = some (.int .u8)) (hd : P.underlying dst = some .string) (h : Row w g eb cap l) :
    (convert src dst (.slice (some ⟨g, 0, none⟩) l.length cap)).run P w = .ok (.string ⟨l.toArray⟩) w :=
  run_convert_bytes_back w src dst e ⟨g, 0, none⟩ cap l hs he hd h.cell
theorem run_append_row (w : World) (t ty e : TypeId) (i : TypeInfo) (ht : P.underlying t = some (.slice e)) (hi : P.info? e = some i) (hsz : i.size = 1)
    (g eb cap : Nat) (l : List UInt8) (h : Row w g eb cap l) (a : Addr) (c : Nat) (b : UInt8) (hc : w.cell? a = some (.int .u8 (b.toNat : Int))) (hroom : l.length + 1 ≤ cap) :
    ∃ w', (Builtin.append_ #[t, t] ty #[.slice (some ⟨g, 0, none⟩) l.length cap, .slice (some a) 1 c]).run P w = .ok (.slice (some ⟨g, 0, none⟩) (l.length + 1) cap) w' ∧ Row w' g eb cap (l ++ [b]) ∧ w.grownBy w' (some g) := by
  obtain ⟨cur, hg, hs, hle, htk⟩ := h
  have hf := run_firstCells_some (P := P) w i.size 1 a 1 c [.int .u8 (b.toNat : Int)] (by simp [hsz]) (by
    intro j u hj
    match j, hj with
    | 0, hj => simp at hj; subst hj; simpa [Addr.add] using hc)
  have hst := run_storeCells_at P g (l.length * i.size) eb [.int .u8 (b.toNat : Int)] 0 cur w hg (by simp [hsz]; omega) (by simp [Value.oneCell'])
  simp only [Nat.add_zero] at hst
  refine ⟨_, by simp [Builtin.append_, run_underlying ht, sizeOf, typeInfo, hi, Builtin.lenOf, hroom, hf, Addr.add_lit, hst]; rfl, ?_, ?_⟩
  · refine ⟨_, setRow_heap w g cur _ eb _ hg, ?_, by simpa using hroom, ?_⟩
    · simp [hsz]; omega
    · simp only [hsz, Nat.mul_one, List.length_append, List.length_cons, List.length_nil, Nat.zero_add, List.map_append, List.map_cons, List.map_nil]
      rw [htk]
      rw [List.append_cons]
      refine List.take_left' ?_
      simp
  · exact ⟨rfl, rfl, rfl, by simp, fun k _ hk => setRow_other w g k _ (fun e => hk (by simp [e]))⟩
theorem wpList_append_row (w : World) {ops : Array Oper} {rest : List Oper} {o : Oper} {a : Act} {Q : Exit → Act → World → Prop}
    (hg : o.guard = none) (s x : Operand) (t : TypeId) (hop : o.op = Op.call { callee := Callee.builtin Builtin.append, args := #[s, x], argTypes := #[t, t] })
    (e : TypeId) (i : TypeInfo) (h1 : P.underlying t = some (.slice e)) (h2 : P.info? e = some i) (h4 : i.size = 1)
    (g eb cap : Nat) (l : List UInt8) (hs : a.eval s = .slice (some ⟨g, 0, none⟩) l.length cap) (hrow : Row w g eb cap l) (ad : Addr) (c : Nat) (b : UInt8) (hx : a.eval x = .slice (some ad) 1 c)
    (hc : w.cell? ad = some (.int .u8 (b.toNat : Int))) (hroom : l.length + 1 ≤ cap)
    (hK : ∀ w', Row w' g eb cap (l ++ [b]) → w.grownBy w' (some g) → wpList P ops Q rest (a.put o.dst (.slice (some ⟨g, 0, none⟩) (l.length + 1) cap)) w') :
    wpList P ops Q (o :: rest) a w := by
  refine wpList_plain hg fun K hK' => ?_
  obtain ⟨w', hrun, r1, r2⟩ := run_append_row (P := P) w t o.type e i h1 h2 h4 g eb cap l hrow ad c b hc hroom
  unfold Oper.wp
  simp [execOp, hop, resolve, invoke, builtin, hs, hx, hrun, Result.andThen]
  exact hK' _ _ (hK w' r1 r2)
end
section
variable {P : Program}
def Own (w : World) (B e : Nat) (v : Value) (d : List UInt8) : Prop := w.ownsRow B e 1 v d.length (d.map fun b => Value.int .u8 (b.toNat : Int))
theorem Own.nil (w : World) (B e : Nat) : Own w B e (.slice none 0 0) [] := World.ownsRow_nil w B e 1
theorem Own.alloc {w : World} {B e : Nat} {v : Value} {d : List UInt8} (h : Own w B e v d) (o : Obj) : Own (w.alloc o) B e v d := World.ownsRow.alloc h o
theorem own_string (w : World) (src dst e B e' : TypeId) (v : Value) (d : List UInt8) (hs : P.underlying src = some (.slice e)) (he : P.underlying e = some (.int .u8)) (hd : P.underlying dst = some .string) (h : Own w B e' v d) :
    (convert src dst v).run P w = .ok (.string ⟨d.toArray⟩) w := by
  rcases h.2 with ⟨rfl, hn⟩ | ⟨g, cap, cur, rfl, hb, hg, rest⟩
  · obtain rfl : d = [] := List.eq_nil_of_length_eq_zero hn
    rw [run_convert_bytes_string w src dst e none 0 0 hs he hd]; rfl
  · refine run_convert_bytes_back w src dst e ⟨g, 0, none⟩ cap d hs he hd fun j hj => ?_
    exact World.ownsRow.cells h (g := g) rfl j _ (by simp [hj])
end
end Go.Proofs.YtdinpakclmnacaaGreatDoor
