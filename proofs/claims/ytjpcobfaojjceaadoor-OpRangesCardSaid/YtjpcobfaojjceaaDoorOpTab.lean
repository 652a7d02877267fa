/-
  Which instructions there are, as data: the document's chapter 3, its list in its own order. No program is looked at.
-/
import Derived.Test.YtjpcobfaojjceaaDoorOpSpec
namespace Go.Proofs.YtjpcobfaojjceaaDoor

def testNames : List ByteArray := [⟨#[101, 113]⟩, ⟨#[110, 101]⟩, ⟨#[108, 116, 95, 115]⟩, ⟨#[108, 116, 95, 117]⟩, ⟨#[103, 116, 95, 115]⟩, ⟨#[103, 116, 95, 117]⟩, ⟨#[108, 101, 95, 115]⟩, ⟨#[108, 101, 95, 117]⟩, ⟨#[103, 101, 95, 115]⟩, ⟨#[103, 101, 95, 117]⟩]
def opNames : List ByteArray := [⟨#[99, 108, 122]⟩, ⟨#[99, 116, 122]⟩, ⟨#[112, 111, 112, 99, 110, 116]⟩, ⟨#[97, 100, 100]⟩, ⟨#[115, 117, 98]⟩, ⟨#[109, 117, 108]⟩, ⟨#[100, 105, 118, 95, 115]⟩, ⟨#[100, 105, 118, 95, 117]⟩, ⟨#[114, 101, 109, 95, 115]⟩, ⟨#[114, 101, 109, 95, 117]⟩, ⟨#[97, 110, 100]⟩, ⟨#[111, 114]⟩, ⟨#[120, 111, 114]⟩, ⟨#[115, 104, 108]⟩, ⟨#[115, 104, 114, 95, 115]⟩, ⟨#[115, 104, 114, 95, 117]⟩, ⟨#[114, 111, 116, 108]⟩, ⟨#[114, 111, 116, 114]⟩]
/-- The operations of a type: those from opNames on. -/
def opsFrom (pre t : ByteArray) (code : Int) : Nat → List ByteArray → List Rw
  | _, [] => []
  | i, n :: ns => ⟨code + i, pre ++ n, 0, if i < 3 then t else t ++ t, t⟩ :: opsFrom pre t code (i + 1) ns
theorem opsFrom_snoc (pre t : ByteArray) (code : Int) (n : ByteArray) : ∀ (ns : List ByteArray) (i : Nat), opsFrom pre t code i (ns ++ [n]) = opsFrom pre t code i ns ++ [⟨code + ((i + ns.length : Nat) : Int), pre ++ n, 0, if i + ns.length < 3 then t else t ++ t, t⟩]
  | [], i => by simp [opsFrom]
  | m :: ns, i => by
    simp only [List.cons_append, opsFrom, opsFrom_snoc pre t code n ns (i + 1), List.length_cons]
    rw [show i + 1 + ns.length = i + (ns.length + 1) by omega]
theorem opsFrom_step {pre t : ByteArray} {code : Int} {ns : List ByteArray} {k : Nat} (h : k < ns.length) : opsFrom pre t code 0 (ns.take (k + 1)) = opsFrom pre t code 0 (ns.take k) ++ [⟨code + k, pre ++ ns[k], 0, if k < 3 then t else t ++ t, t⟩] := by
  rw [take_snoc h, opsFrom_snoc, List.length_take, Nat.min_eq_left (Nat.le_of_lt h), Nat.zero_add]
def numbersOf (pre t : ByteArray) (zero ops : Int) : List Rw :=
  [⟨zero, pre ++ ⟨#[101, 113, 122]⟩, 0, t, ⟨#[127]⟩⟩] ++ rowsFrom (zero + 1) 0 (t ++ t) ⟨#[127]⟩ (testNames.map (pre ++ ·)) ++ opsFrom pre t ops 0 opNames
def part0 : List Rw := rowsFrom 0 0 ⟨#[]⟩ ⟨#[]⟩ [⟨#[117, 110, 114, 101, 97, 99, 104, 97, 98, 108, 101]⟩, ⟨#[110, 111, 112]⟩]
def part1 : List Rw := rowsFrom 2 1 ⟨#[]⟩ ⟨#[]⟩ [⟨#[98, 108, 111, 99, 107]⟩, ⟨#[108, 111, 111, 112]⟩, ⟨#[105, 102]⟩]
def part2 : List Rw := rowsFrom 5 0 ⟨#[]⟩ ⟨#[]⟩ [⟨#[101, 108, 115, 101]⟩]
def part3 : List Rw := rowsFrom 11 0 ⟨#[]⟩ ⟨#[]⟩ [⟨#[101, 110, 100]⟩]
def part4 : List Rw := rowsFrom 12 2 ⟨#[]⟩ ⟨#[]⟩ [⟨#[98, 114]⟩, ⟨#[98, 114, 95, 105, 102]⟩]
def part5 : List Rw := rowsFrom 14 3 ⟨#[]⟩ ⟨#[]⟩ [⟨#[98, 114, 95, 116, 97, 98, 108, 101]⟩]
def part6 : List Rw := rowsFrom 15 0 ⟨#[]⟩ ⟨#[]⟩ [⟨#[114, 101, 116, 117, 114, 110]⟩]
def part7 : List Rw := rowsFrom 16 4 ⟨#[]⟩ ⟨#[]⟩ [⟨#[99, 97, 108, 108]⟩]
def part8 : List Rw := rowsFrom 26 0 ⟨#[]⟩ ⟨#[]⟩ [⟨#[100, 114, 111, 112]⟩, ⟨#[115, 101, 108, 101, 99, 116]⟩]
def part9 : List Rw := rowsFrom 32 4 ⟨#[]⟩ ⟨#[]⟩ [⟨#[108, 111, 99, 97, 108, 46, 103, 101, 116]⟩, ⟨#[108, 111, 99, 97, 108, 46, 115, 101, 116]⟩, ⟨#[108, 111, 99, 97, 108, 46, 116, 101, 101]⟩, ⟨#[103, 108, 111, 98, 97, 108, 46, 103, 101, 116]⟩, ⟨#[103, 108, 111, 98, 97, 108, 46, 115, 101, 116]⟩]
def part10 : List Rw := rowsFrom 40 5 ⟨#[127]⟩ ⟨#[127]⟩ [⟨#[105, 51, 50, 46, 108, 111, 97, 100]⟩]
def part11 : List Rw := rowsFrom 41 5 ⟨#[127]⟩ ⟨#[126]⟩ [⟨#[105, 54, 52, 46, 108, 111, 97, 100]⟩]
def part12 : List Rw := rowsFrom 44 5 ⟨#[127]⟩ ⟨#[127]⟩ [⟨#[105, 51, 50, 46, 108, 111, 97, 100, 56, 95, 115]⟩, ⟨#[105, 51, 50, 46, 108, 111, 97, 100, 56, 95, 117]⟩, ⟨#[105, 51, 50, 46, 108, 111, 97, 100, 49, 54, 95, 115]⟩, ⟨#[105, 51, 50, 46, 108, 111, 97, 100, 49, 54, 95, 117]⟩]
def part13 : List Rw := rowsFrom 48 5 ⟨#[127]⟩ ⟨#[126]⟩ [⟨#[105, 54, 52, 46, 108, 111, 97, 100, 56, 95, 115]⟩, ⟨#[105, 54, 52, 46, 108, 111, 97, 100, 56, 95, 117]⟩, ⟨#[105, 54, 52, 46, 108, 111, 97, 100, 49, 54, 95, 115]⟩, ⟨#[105, 54, 52, 46, 108, 111, 97, 100, 49, 54, 95, 117]⟩, ⟨#[105, 54, 52, 46, 108, 111, 97, 100, 51, 50, 95, 115]⟩, ⟨#[105, 54, 52, 46, 108, 111, 97, 100, 51, 50, 95, 117]⟩]
def part14 : List Rw := rowsFrom 54 5 ⟨#[127, 127]⟩ ⟨#[]⟩ [⟨#[105, 51, 50, 46, 115, 116, 111, 114, 101]⟩]
def part15 : List Rw := rowsFrom 55 5 ⟨#[127, 126]⟩ ⟨#[]⟩ [⟨#[105, 54, 52, 46, 115, 116, 111, 114, 101]⟩]
def part16 : List Rw := rowsFrom 58 5 ⟨#[127, 127]⟩ ⟨#[]⟩ [⟨#[105, 51, 50, 46, 115, 116, 111, 114, 101, 56]⟩, ⟨#[105, 51, 50, 46, 115, 116, 111, 114, 101, 49, 54]⟩]
def part17 : List Rw := rowsFrom 60 5 ⟨#[127, 126]⟩ ⟨#[]⟩ [⟨#[105, 54, 52, 46, 115, 116, 111, 114, 101, 56]⟩, ⟨#[105, 54, 52, 46, 115, 116, 111, 114, 101, 49, 54]⟩, ⟨#[105, 54, 52, 46, 115, 116, 111, 114, 101, 51, 50]⟩]
def part18 : List Rw := rowsFrom 63 6 ⟨#[]⟩ ⟨#[127]⟩ [⟨#[109, 101, 109, 111, 114, 121, 46, 115, 105, 122, 101]⟩]
def part19 : List Rw := rowsFrom 64 6 ⟨#[127]⟩ ⟨#[127]⟩ [⟨#[109, 101, 109, 111, 114, 121, 46, 103, 114, 111, 119]⟩]
def part20 : List Rw := rowsFrom 65 7 ⟨#[]⟩ ⟨#[127]⟩ [⟨#[105, 51, 50, 46, 99, 111, 110, 115, 116]⟩]
def part21 : List Rw := rowsFrom 66 7 ⟨#[]⟩ ⟨#[126]⟩ [⟨#[105, 54, 52, 46, 99, 111, 110, 115, 116]⟩]
def part22 : List Rw := numbersOf ⟨#[105, 51, 50, 46]⟩ ⟨#[127]⟩ 69 103
def part23 : List Rw := numbersOf ⟨#[105, 54, 52, 46]⟩ ⟨#[126]⟩ 80 121
def part24 : List Rw := rowsFrom 167 0 ⟨#[126]⟩ ⟨#[127]⟩ [⟨#[105, 51, 50, 46, 119, 114, 97, 112, 95, 105, 54, 52]⟩]
def part25 : List Rw := rowsFrom 172 0 ⟨#[127]⟩ ⟨#[126]⟩ [⟨#[105, 54, 52, 46, 101, 120, 116, 101, 110, 100, 95, 105, 51, 50, 95, 115]⟩, ⟨#[105, 54, 52, 46, 101, 120, 116, 101, 110, 100, 95, 105, 51, 50, 95, 117]⟩]
def allRows : List Rw := (((((((((((((((((((((((((part0 ++ part1) ++ part2) ++ part3) ++ part4) ++ part5) ++ part6) ++ part7) ++ part8) ++ part9) ++ part10) ++ part11) ++ part12) ++ part13) ++ part14) ++ part15) ++ part16) ++ part17) ++ part18) ++ part19) ++ part20) ++ part21) ++ part22) ++ part23) ++ part24) ++ part25)
theorem allRows_len : allRows.length = 103 := by decide +kernel
end Go.Proofs.YtjpcobfaojjceaaDoor
