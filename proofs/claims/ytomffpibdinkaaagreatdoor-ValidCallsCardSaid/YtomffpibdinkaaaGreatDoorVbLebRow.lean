/-
  Facts and contracts that the proof calls.
-/
import Derived.Lib.EndianBits
import Derived.WalkKit
namespace Go.Proofs.YtomffpibdinkaaaGreatDoor
set_option maxRecDepth 100000
set_option maxHeartbeats 16000000
open Go.RowKit
section
variable {P : Program}
def Row (w : World) (g eb cap : Nat) (l : List UInt8) : Prop :=
  ∃ cur : Array Value, w.heap[g]? = some (.cells cur eb (0, 0)) ∧ cur.size = cap ∧ l.length ≤ cap ∧ cur.toList.take l.length = l.map fun b => Value.int .u8 (b.toNat : Int)
theorem Row.lt {w : World} {g eb cap : Nat} {l : List UInt8} (h : Row w g eb cap l) : g < w.heap.size := by
  obtain ⟨cur, hg, _⟩ := h
  exact (Array.getElem?_eq_some_iff.1 hg).1
theorem Row.alloc {w : World} {g eb cap : Nat} {l : List UInt8} (h : Row w g eb cap l) (o : Obj) : Row (w.alloc o) g eb cap l := by
  have hl := h.lt
  obtain ⟨cur, hg, rest⟩ := h
  exact ⟨cur, (Below.heap_alloc w o g hl).trans hg, rest⟩
theorem Row.cell {w : World} {g eb cap : Nat} {l : List UInt8} (h : Row w g eb cap l) (j : Nat) (hj : j < l.length) : w.cell? ((⟨g, 0, none⟩ : Addr).add j) = some (.int .u8 (l[j].toNat : Int)) := by
  obtain ⟨cur, hg, hs, hle, ht⟩ := h
  have hadd : (⟨g, 0, none⟩ : Addr).add j = ⟨g, j, none⟩ := by unfold Addr.add; split <;> simp_all
  rw [hadd, cell_of_row w g j cur eb (0, 0) hg]
  have h2 : (cur.toList.take l.length)[j]? = (l.map fun b => Value.int .u8 (b.toNat : Int))[j]? := by rw [ht]
  rw [List.getElem?_take, if_pos hj] at h2
  simpa [hj] using h2
end
section
variable {P : Program}
def Own (w : World) (B e : Nat) (v : Value) (d : List UInt8) : Prop := w.ownsRow B e 1 v d.length (d.map fun b => Value.int .u8 (b.toNat : Int))
theorem Own.nil (w : World) (B e : Nat) : Own w B e (.slice none 0 0) [] := World.ownsRow_nil w B e 1
theorem Own.alloc {w : World} {B e : Nat} {v : Value} {d : List UInt8} (h : Own w B e v d) (o : Obj) : Own (w.alloc o) B e v d := World.ownsRow.alloc h o
theorem own_string (w : World) (src dst e B e' : TypeId) (v : Value) (d : List UInt8) (hs : P.underlying src = some (.slice e)) (he : P.underlying e = some (.int .u8)) (hd : P.underlying dst = some .string) (h : Own w B e' v d) :
    (convert src dst v).run P w = .ok (.string ⟨d.toArray⟩) w := by
  rcases h.2 with ⟨rfl, hn⟩ | ⟨g, cap, cur, rfl, hb, hg, rest⟩
  · obtain rfl : d = [] := List.eq_nil_of_length_eq_zero hn
    rw [run_convert_bytes_string w src dst e none 0 0 hs he hd]; rfl
  · refine run_convert_bytes_back w src dst e ⟨g, 0, none⟩ cap d hs he hd fun j hj => ?_
    exact World.ownsRow.cells h (g := g) rfl j _ (by simp [hj])
end
end Go.Proofs.YtomffpibdinkaaaGreatDoor
