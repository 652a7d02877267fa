/-
  Chapter 10 on Lean's numbers and lists: types, values, what is reckoned of them, how they are told. No program is looked at.
-/
import Derived.Test.YtfjoobopfjahcaaDoorVuMath
import Derived.Lib.ItoaNum
import Derived.Lib.Bytealg
namespace Go.Proofs.YtfjoobopfjahcaaDoor
open Go.RowKit

/-- Is a type right? -/
def tyR (k s : Int) : Bool := (k == 1 || k == 3 || k == 4) && s == 0 || k == 2 && decide (1 ≤ s) && decide (s ≤ 9)
/-- Is it one of numbers? -/
def numK (k : Int) : Bool := k == 1 || k == 2
/-- Does a value fit its type? -/
def fitV (k s : Int) (null u : Bool) (n : Int) (z : ByteArray) : Bool :=
  tyR k s && (if u then null && n == 0 && z.toList.isEmpty else if k == 3 then n == 0 && decide (z.size ≤ 200) else if k == 4 then (n == 0 || n == 1) && z.toList.isEmpty else z.toList.isEmpty)
theorem tyR_true {k s : Int} : tyR k s = true ↔ (k = 1 ∨ k = 3 ∨ k = 4) ∧ s = 0 ∨ k = 2 ∧ 1 ≤ s ∧ s ≤ 9 := by
  unfold tyR; simp [or_assoc, and_assoc]

/-- Has a number room in 64 bits? -/
def room (n : Int) : Bool := decide (-9223372036854775808 ≤ n) && decide (n ≤ 9223372036854775807)
theorem room_true {n : Int} : room n = true ↔ -9223372036854775808 ≤ n ∧ n ≤ 9223372036854775807 := by unfold room; simp
theorem room_false {n : Int} : room n = false ↔ ¬ (-9223372036854775808 ≤ n ∧ n ≤ 9223372036854775807) := by rw [← room_true]; simp
/-- A number with its error: 11, if it has no room. -/
def fitN (n : Int) : Int × Int := if room n then (n, 0) else (0, 11)
/-- Scale: the number, the error. -/
def scaleV (n f t : Int) : Int × Int := if 0 ≤ f ∧ f ≤ 9 ∧ f ≤ t ∧ t ≤ 9 then fitN (n * 10 ^ (t - f).toNat) else (0, 1)

/-- The type of numbers of a scale. -/
def kindOf (s : Int) : Int := if s = 0 then 1 else 2
/-- The scale of what an operator makes of numbers of two scales; below 0: nothing. -/
def scaleOf (op s t : Int) : Int :=
  if op = 43 ∨ op = 45 then max s t else if op = 42 then (if s + t ≤ 9 then s + t else -1) else if op = 47 then (if t = 0 then s else -1) else -1
/-- The scale of what comes out, or less than 0. -/
def arS (op ka sa kb sb : Int) : Int := if (numK ka && tyR ka sa && numK kb && tyR kb sb) = true then scaleOf op sa sb else -1
/-- ArithType's answer. -/
def arT (op ka sa kb sb : Int) : Int × Int × Bool := if arS op ka sa kb sb < 0 then (0, 0, false) else (kindOf (arS op ka sa kb sb), arS op ka sa kb sb, true)

/-- Two numbers of one scale, reckoned. -/
def reck (op a b : Int) : Int × Int :=
  if op = 43 then fitN (a + b) else if op = 45 then fitN (a - b) else if op = 42 then fitN (a * b) else if b = 0 then (0, 11) else fitN (a.tdiv b)
/-- Arith's answer: is it nothing, its number, the error. -/
def arV (op : Int) (ua : Bool) (na : Int) (za : ByteArray) (ub : Bool) (nb : Int) (zb : ByteArray) (ka sa kb sb : Int) : Bool × Int × Int :=
  if arS op ka sa kb sb < 0 then (false, 0, 4)
  else if (fitV ka sa true ua na za && fitV kb sb true ub nb zb) = false then (false, 0, 1)
  else if (ua || ub) = true then (true, 0, 0)
  else if op = 43 ∨ op = 45 then
    (if (room (na * 10 ^ (arS op ka sa kb sb - sa).toNat) && room (nb * 10 ^ (arS op ka sa kb sb - sb).toNat)) = true
     then (false, reck op (na * 10 ^ (arS op ka sa kb sb - sa).toNat) (nb * 10 ^ (arS op ka sa kb sb - sb).toNat))
     else (false, 0, 11))
  else (false, reck op na nb)

/-- How two lists of bytes compare. -/
def cmpB (a b : ByteArray) : Int := Lib.compareBytes a.data.toList b.data.toList
/-- Compare's answer. -/
def cmpV (ua : Bool) (na : Int) (za : ByteArray) (ub : Bool) (nb : Int) (zb : ByteArray) (ka sa kb sb : Int) : Int × Bool :=
  if (fitV ka sa false ua na za && fitV kb sb false ub nb zb) = false then (0, false)
  else if (numK ka && numK kb) = true then (cmpI (na * 10 ^ sb.toNat) (nb * 10 ^ sa.toNat), true)
  else if ka ≠ kb then (0, false)
  else if ka = 3 then (cmpB za zb, true)
  else (cmpI na nb, true)

/-- How true a value is: 0, 1 (nothing), 2. -/
def truV (u : Bool) (n : Int) : Int := if u then 1 else if n = 0 then 0 else 2
/-- Order's answer. -/
def ordV (ua : Bool) (na : Int) (za : ByteArray) (ub : Bool) (nb : Int) (zb : ByteArray) (k s : Int) : Int :=
  if (ua && ub) = true then 0 else if ua = true then -1 else if ub = true then 1 else (cmpV ua na za ub nb zb k s k s).1

/-- A text in quotes, each quote twice. -/
def quoted (l : List UInt8) : List UInt8 := 39 :: (l.flatMap (fun c => if c = 39 then [39, 39] else [c]) ++ [39])
/-- A number's digits, at least so many. -/
def padded (n : Int) (least : Nat) : List UInt8 := List.replicate (least - (Lib.decDigits n.natAbs).length) 48 ++ Lib.decDigits n.natAbs
/-- A number of a scale, told. -/
def spellN (n : Int) (p : Nat) : List UInt8 :=
  (if n < 0 then [45] else []) ++ (if p = 0 then padded n 1 else (padded n (p + 1)).take ((padded n (p + 1)).length - p) ++ 46 :: (padded n (p + 1)).drop ((padded n (p + 1)).length - p))
/-- Text's answer. -/
def txtV (u : Bool) (n : Int) (z : ByteArray) (k s : Int) : ByteArray × Bool :=
  if fitV k s true u n z = false then (⟨#[]⟩, false)
  else if u = true then (⟨#[78, 85, 76, 76]⟩, true)
  else if k = 3 then (⟨(quoted z.data.toList).toArray⟩, true)
  else if k = 4 then (if n = 0 then (⟨#[70, 65, 76, 83, 69]⟩, true) else (⟨#[84, 82, 85, 69]⟩, true))
  else (⟨(spellN n s.toNat).toArray⟩, true)
end Go.Proofs.YtfjoobopfjahcaaDoor
