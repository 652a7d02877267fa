/-
  Facts and contracts that the proof calls.
-/
import Derived.Test.YtomffpibdinkaaaGreatDoorRows
namespace Go.Proofs.YtomffpibdinkaaaGreatDoor
set_option maxRecDepth 100000
set_option maxHeartbeats 16000000
structure Rw where
  code : Int
  name : ByteArray
  shape : Int
  params : ByteArray
  results : ByteArray
def Rw.cells (r : Rw) : List Value := [.int .i64 r.code, .string r.name, .int .i64 r.shape, .string r.params, .string r.results]
def rowsFrom (code shape : Int) (p r : ByteArray) : List ByteArray → List Rw
  | [] => []
  | n :: ns => ⟨code, n, shape, p, r⟩ :: rowsFrom (code + 1) shape p r ns
theorem take_snoc {α : Type} {l : List α} {k : Nat} (h : k < l.length) : l.take (k + 1) = l.take k ++ [l[k]] := by
  rw [List.take_add_one, List.getElem?_eq_getElem h]; rfl
end Go.Proofs.YtomffpibdinkaaaGreatDoor
namespace Go.Proofs.YtomffpibdinkaaaGreatDoor
set_option maxRecDepth 100000
set_option maxHeartbeats 16000000
def testNames : List ByteArray := [⟨#[101, 113]⟩, ⟨#[110, 101]⟩, ⟨#[108, 116, 95, 115]⟩, ⟨#[108, 116, 95, 117]⟩, ⟨#[103, 116, 95, 115]⟩, ⟨#[103, 116, 95, 117]⟩, ⟨#[108, 101, 95, 115]⟩, ⟨#[108, 101, 95, 117]⟩, ⟨#[103, 101, 95, 115]⟩, ⟨#[103, 101, 95, 117]⟩]
def opNames : List ByteArray := [⟨#[99, 108, 122]⟩, ⟨#[99, 116, 122]⟩, ⟨#[112, 111, 112, 99, 110, 116]⟩, ⟨#[97, 100, 100]⟩, ⟨#[115, 117, 98]⟩, ⟨#[109, 117, 108]⟩, ⟨#[100, 105, 118, 95, 115]⟩, ⟨#[100, 105, 118, 95, 117]⟩, ⟨#[114, 101, 109, 95, 115]⟩, ⟨#[114, 101, 109, 95, 117]⟩, ⟨#[97, 110, 100]⟩, ⟨#[111, 114]⟩, ⟨#[120, 111, 114]⟩, ⟨#[115, 104, 108]⟩, ⟨#[115, 104, 114, 95, 115]⟩, ⟨#[115, 104, 114, 95, 117]⟩, ⟨#[114, 111, 116, 108]⟩, ⟨#[114, 111, 116, 114]⟩]
def opsFrom (pre t : ByteArray) (code : Int) : Nat → List ByteArray → List Rw
  | _, [] => []
  | i, n :: ns => ⟨code + i, pre ++ n, 0, if i < 3 then t else t ++ t, t⟩ :: opsFrom pre t code (i + 1) ns
def numbersOf (pre t : ByteArray) (zero ops : Int) : List Rw :=
  [⟨zero, pre ++ ⟨#[101, 113, 122]⟩, 0, t, ⟨#[127]⟩⟩] ++ rowsFrom (zero + 1) 0 (t ++ t) ⟨#[127]⟩ (testNames.map (pre ++ ·)) ++ opsFrom pre t ops 0 opNames
def part0 : List Rw := rowsFrom 0 0 ⟨#[]⟩ ⟨#[]⟩ [⟨#[117, 110, 114, 101, 97, 99, 104, 97, 98, 108, 101]⟩, ⟨#[110, 111, 112]⟩]
def part1 : List Rw := rowsFrom 2 1 ⟨#[]⟩ ⟨#[]⟩ [⟨#[98, 108, 111, 99, 107]⟩, ⟨#[108, 111, 111, 112]⟩, ⟨#[105, 102]⟩]
def part2 : List Rw := rowsFrom 5 0 ⟨#[]⟩ ⟨#[]⟩ [⟨#[101, 108, 115, 101]⟩]
def part3 : List Rw := rowsFrom 11 0 ⟨#[]⟩ ⟨#[]⟩ [⟨#[101, 110, 100]⟩]
def part4 : List Rw := rowsFrom 12 2 ⟨#[]⟩ ⟨#[]⟩ [⟨#[98, 114]⟩, ⟨#[98, 114, 95, 105, 102]⟩]
def part5 : List Rw := rowsFrom 14 3 ⟨#[]⟩ ⟨#[]⟩ [⟨#[98, 114, 95, 116, 97, 98, 108, 101]⟩]
def part6 : List Rw := rowsFrom 15 0 ⟨#[]⟩ ⟨#[]⟩ [⟨#[114, 101, 116, 117, 114, 110]⟩]
def part7 : List Rw := rowsFrom 16 4 ⟨#[]⟩ ⟨#[]⟩ [⟨#[99, 97, 108, 108]⟩]
def part8 : List Rw := rowsFrom 26 0 ⟨#[]⟩ ⟨#[]⟩ [⟨#[100, 114, 111, 112]⟩, ⟨#[115, 101, 108, 101, 99, 116]⟩]
def part9 : List Rw := rowsFrom 32 4 ⟨#[]⟩ ⟨#[]⟩ [⟨#[108, 111, 99, 97, 108, 46, 103, 101, 116]⟩, ⟨#[108, 111, 99, 97, 108, 46, 115, 101, 116]⟩, ⟨#[108, 111, 99, 97, 108, 46, 116, 101, 101]⟩, ⟨#[103, 108, 111, 98, 97, 108, 46, 103, 101, 116]⟩, ⟨#[103, 108, 111, 98, 97, 108, 46, 115, 101, 116]⟩]
def part10 : List Rw := rowsFrom 40 5 ⟨#[127]⟩ ⟨#[127]⟩ [⟨#[105, 51, 50, 46, 108, 111, 97, 100]⟩]
def part11 : List Rw := rowsFrom 41 5 ⟨#[127]⟩ ⟨#[126]⟩ [⟨#[105, 54, 52, 46, 108, 111, 97, 100]⟩]
def part12 : List Rw := rowsFrom 44 5 ⟨#[127]⟩ ⟨#[127]⟩ [⟨#[105, 51, 50, 46, 108, 111, 97, 100, 56, 95, 115]⟩, ⟨#[105, 51, 50, 46, 108, 111, 97, 100, 56, 95, 117]⟩, ⟨#[105, 51, 50, 46, 108, 111, 97, 100, 49, 54, 95, 115]⟩, ⟨#[105, 51, 50, 46, 108, 111, 97, 100, 49, 54, 95, 117]⟩]
def part13 : List Rw := rowsFrom 48 5 ⟨#[127]⟩ ⟨#[126]⟩ [⟨#[105, 54, 52, 46, 108, 111, 97, 100, 56, 95, 115]⟩, ⟨#[105, 54, 52, 46, 108, 111, 97, 100, 56, 95, 117]⟩, ⟨#[105, 54, 52, 46, 108, 111, 97, 100, 49, 54, 95, 115]⟩, ⟨#[105, 54, 52, 46, 108, 111, 97, 100, 49, 54, 95, 117]⟩, ⟨#[105, 54, 52, 46, 108, 111, 97, 100, 51, 50, 95, 115]⟩, ⟨#[105, 54, 52, 46, 108, 111, 97, 100, 51, 50, 95, 117]⟩]
def part14 : List Rw := rowsFrom 54 5 ⟨#[127, 127]⟩ ⟨#[]⟩ [⟨#[105, 51, 50, 46, 115, 116, 111, 114, 101]⟩]
def part15 : List Rw := rowsFrom 55 5 ⟨#[127, 126]⟩ ⟨#[]⟩ [⟨#[105, 54, 52, 46, 115, 116, 111, 114, 101]⟩]
def part16 : List Rw := rowsFrom 58 5 ⟨#[127, 127]⟩ ⟨#[]⟩ [⟨#[105, 51, 50, 46, 115, 116, 111, 114, 101, 56]⟩, ⟨#[105, 51, 50, 46, 115, 116, 111, 114, 101, 49, 54]⟩]
def part17 : List Rw := rowsFrom 60 5 ⟨#[127, 126]⟩ ⟨#[]⟩ [⟨#[105, 54, 52, 46, 115, 116, 111, 114, 101, 56]⟩, ⟨#[105, 54, 52, 46, 115, 116, 111, 114, 101, 49, 54]⟩, ⟨#[105, 54, 52, 46, 115, 116, 111, 114, 101, 51, 50]⟩]
def part18 : List Rw := rowsFrom 63 6 ⟨#[]⟩ ⟨#[127]⟩ [⟨#[109, 101, 109, 111, 114, 121, 46, 115, 105, 122, 101]⟩]
def part19 : List Rw := rowsFrom 64 6 ⟨#[127]⟩ ⟨#[127]⟩ [⟨#[109, 101, 109, 111, 114, 121, 46, 103, 114, 111, 119]⟩]
def part20 : List Rw := rowsFrom 65 7 ⟨#[]⟩ ⟨#[127]⟩ [⟨#[105, 51, 50, 46, 99, 111, 110, 115, 116]⟩]
def part21 : List Rw := rowsFrom 66 7 ⟨#[]⟩ ⟨#[126]⟩ [⟨#[105, 54, 52, 46, 99, 111, 110, 115, 116]⟩]
def part22 : List Rw := numbersOf ⟨#[105, 51, 50, 46]⟩ ⟨#[127]⟩ 69 103
def part23 : List Rw := numbersOf ⟨#[105, 54, 52, 46]⟩ ⟨#[126]⟩ 80 121
def part24 : List Rw := rowsFrom 167 0 ⟨#[126]⟩ ⟨#[127]⟩ [⟨#[105, 51, 50, 46, 119, 114, 97, 112, 95, 105, 54, 52]⟩]
def part25 : List Rw := rowsFrom 172 0 ⟨#[127]⟩ ⟨#[126]⟩ [⟨#[105, 54, 52, 46, 101, 120, 116, 101, 110, 100, 95, 105, 51, 50, 95, 115]⟩, ⟨#[105, 54, 52, 46, 101, 120, 116, 101, 110, 100, 95, 105, 51, 50, 95, 117]⟩]
def allRows : List Rw := (((((((((((((((((((((((((part0 ++ part1) ++ part2) ++ part3) ++ part4) ++ part5) ++ part6) ++ part7) ++ part8) ++ part9) ++ part10) ++ part11) ++ part12) ++ part13) ++ part14) ++ part15) ++ part16) ++ part17) ++ part18) ++ part19) ++ part20) ++ part21) ++ part22) ++ part23) ++ part24) ++ part25)
end Go.Proofs.YtomffpibdinkaaaGreatDoor
namespace Go.Proofs.YtomffpibdinkaaaGreatDoor
set_option maxRecDepth 100000
set_option maxHeartbeats 16000000
def more : Nat → Int → List UInt8 → Option Int
  | 0, c, _ => some c
  | _ + 1, _, [] => none
  | n + 1, c, x :: l => if (x.toNat : Int) / 64 = 2 then more n (c * 64 + (x.toNat : Int) % 64) l else none
def lead (b : Int) : Option (Nat × Int) :=
  if 194 ≤ b ∧ b < 224 then some (1, b % 32) else if 224 ≤ b ∧ b < 240 then some (2, b % 16) else if 240 ≤ b ∧ b < 245 then some (3, b % 8) else none
def good (n : Nat) (c : Int) : Bool := decide (¬ (n = 2 ∧ (c < 2048 ∨ 55296 ≤ c ∧ c < 57344) ∨ n = 3 ∧ (c < 65536 ∨ 1114111 < c)))
def nameF : Nat → List UInt8 → Bool
  | 0, _ => true
  | f + 1, l => match l with
    | [] => true
    | b :: l =>
      if (b.toNat : Int) < 128 then nameF f l
      else match lead b.toNat with
        | none => false
        | some (n, c) => match more n c l with
          | none => false
          | some d => good n d && nameF f (l.drop n)
def isName (l : List UInt8) : Bool := nameF (l.length + 1) l
theorem nameF_cons (f : Nat) (b : UInt8) (l : List UInt8) : nameF (f + 1) (b :: l) = if (b.toNat : Int) < 128 then nameF f l
      else match lead b.toNat with
        | none => false
        | some (n, c) => match more n c l with
          | none => false
          | some d => good n d && nameF f (l.drop n) := rfl
theorem nameF_fuel : ∀ (f : Nat) (l : List UInt8), l.length < f → nameF f l = isName l := by
  have key : ∀ (f g : Nat) (l : List UInt8), l.length < f → l.length < g → nameF f l = nameF g l := by
    intro f
    induction f with
    | zero => intro g l hf; omega
    | succ f ih => intro g l hf hg; cases g with
      | zero => omega
      | succ g => cases l with
        | nil => rfl
        | cons b l =>
          have h1 : l.length < f := by simpa using hf
          have h2 : l.length < g := by simpa using hg
          rw [nameF_cons, nameF_cons, ih g l h1 h2]
          split
          · rfl
          · split
            · rfl
            · split
              · rfl
              · rw [ih g _ (by simp; omega) (by simp; omega)]
  exact fun f l h => key f (l.length + 1) l h (Nat.lt_succ_self _)
theorem isName_one {b : UInt8} {l : List UInt8} (h : (b.toNat : Int) < 128) : isName (b :: l) = isName l := by
  show nameF (l.length + 1 + 1) (b :: l) = _
  rw [nameF_cons, if_pos h]; rfl
theorem isName_bad {b : UInt8} {l : List UInt8} (h : 128 ≤ (b.toNat : Int)) (hl : lead b.toNat = none) : isName (b :: l) = false := by
  show nameF (l.length + 1 + 1) (b :: l) = _
  rw [nameF_cons, if_neg (by omega), hl]
theorem isName_short {b : UInt8} {l : List UInt8} {n : Nat} {c : Int} (h : 128 ≤ (b.toNat : Int)) (hl : lead b.toNat = some (n, c)) (hm : more n c l = none) : isName (b :: l) = false := by
  show nameF (l.length + 1 + 1) (b :: l) = _
  rw [nameF_cons, if_neg (by omega), hl]; simp only [hm]
theorem isName_more {b : UInt8} {l : List UInt8} {n : Nat} {c d : Int} (h : 128 ≤ (b.toNat : Int)) (hl : lead b.toNat = some (n, c)) (hm : more n c l = some d) : isName (b :: l) = (good n d && isName (l.drop n)) := by
  show nameF (l.length + 1 + 1) (b :: l) = _
  rw [nameF_cons, if_neg (by omega), hl]; simp only [hm]
  rw [nameF_fuel _ _ (by simp; omega)]
theorem lead_one {b : Int} (h : 194 ≤ b) (h2 : b < 224) : lead b = some (1, b % 32) := by unfold lead; rw [if_pos ⟨h, h2⟩]
theorem lead_two {b : Int} (h : 224 ≤ b) (h2 : b < 240) : lead b = some (2, b % 16) := by unfold lead; rw [if_neg (by omega), if_pos ⟨h, h2⟩]
theorem lead_three {b : Int} (h : 240 ≤ b) (h2 : b < 245) : lead b = some (3, b % 8) := by unfold lead; rw [if_neg (by omega), if_neg (by omega), if_pos ⟨h, h2⟩]
theorem lead_none {b : Int} (h : b < 194 ∨ 245 ≤ b) : lead b = none := by unfold lead; rw [if_neg (by omega), if_neg (by omega), if_neg (by omega)]
theorem more_on {n : Nat} {c : Int} {x : UInt8} {l : List UInt8} (h : (x.toNat : Int) / 64 = 2) : more (n + 1) c (x :: l) = more n (c * 64 + (x.toNat : Int) % 64) l := by rw [more, if_pos h]
theorem more_bad {n : Nat} {c : Int} {x : UInt8} {l : List UInt8} (h : (x.toNat : Int) / 64 ≠ 2) : more (n + 1) c (x :: l) = none := by rw [more, if_neg h]
end Go.Proofs.YtomffpibdinkaaaGreatDoor
namespace Go.Proofs.YtomffpibdinkaaaGreatDoor
set_option maxRecDepth 100000
set_option maxHeartbeats 16000000
end Go.Proofs.YtomffpibdinkaaaGreatDoor
