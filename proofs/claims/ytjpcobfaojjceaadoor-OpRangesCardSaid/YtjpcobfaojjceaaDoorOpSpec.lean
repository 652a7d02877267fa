/-
  Which instructions there are, said on Lean's own lists: the document's chapter 3. Plain facts; no program is looked at.
-/
import Derived.Test.YtjpcobfaojjceaaDoorRows
namespace Go.Proofs.YtjpcobfaojjceaaDoor

/-- A row of the document's list: a code, and what is told of it. -/
structure Rw where
  code : Int
  name : ByteArray
  shape : Int
  params : ByteArray
  results : ByteArray

def Rw.cells (r : Rw) : List Value := [.int .i64 r.code, .string r.name, .int .i64 r.shape, .string r.params, .string r.results]
def cellsOf (l : List Rw) : List Value := l.flatMap Rw.cells

theorem cellsOf_len (l : List Rw) : (cellsOf l).length = l.length * 5 := by
  induction l with
  | nil => rfl
  | cons r l ih => simp only [cellsOf, List.flatMap_cons, List.length_append, List.length_cons] at *; rw [ih]; simp [Rw.cells]; omega
theorem cellsOf_append (l l' : List Rw) : cellsOf (l ++ l') = cellsOf l ++ cellsOf l' := by simp [cellsOf]

theorem cellsOf_one (r : Rw) : cellsOf [r] = r.cells := by simp [cellsOf]

/-- Rows of names, from a code on. -/
def rowsFrom (code shape : Int) (p r : ByteArray) : List ByteArray → List Rw
  | [] => []
  | n :: ns => ⟨code, n, shape, p, r⟩ :: rowsFrom (code + 1) shape p r ns
theorem rowsFrom_len (shape : Int) (p r : ByteArray) : ∀ (ns : List ByteArray) (code : Int), (rowsFrom code shape p r ns).length = ns.length
  | [], _ => rfl
  | _ :: ns, code => by simp [rowsFrom, rowsFrom_len shape p r ns]
theorem rowsFrom_snoc (shape : Int) (p r n : ByteArray) : ∀ (ns : List ByteArray) (code : Int), rowsFrom code shape p r (ns ++ [n]) = rowsFrom code shape p r ns ++ [⟨code + ns.length, n, shape, p, r⟩]
  | [], code => by simp [rowsFrom]
  | m :: ns, code => by
    simp only [List.cons_append, rowsFrom, rowsFrom_snoc shape p r n ns (code + 1), List.length_cons]
    rw [show code + 1 + (ns.length : Int) = code + ((ns.length + 1 : Nat) : Int) by omega]
theorem take_snoc {α : Type} {l : List α} {k : Nat} (h : k < l.length) : l.take (k + 1) = l.take k ++ [l[k]] := by
  rw [List.take_add_one, List.getElem?_eq_getElem h]; rfl
theorem rowsFrom_step {code shape : Int} {p r : ByteArray} {ns : List ByteArray} {k : Nat} (h : k < ns.length) : rowsFrom code shape p r (ns.take (k + 1)) = rowsFrom code shape p r (ns.take k) ++ [⟨code + k, ns[k], shape, p, r⟩] := by
  rw [take_snoc h, rowsFrom_snoc, List.length_take, Nat.min_eq_left (Nat.le_of_lt h)]
end Go.Proofs.YtjpcobfaojjceaaDoor
