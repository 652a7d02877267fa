/-
  What the statements' programs put together, as functions: each part, a step, all of it. Plain; no statement is proved here.
-/
import Derived.Test.YtpamchagidnijaaGreatDoorModProgB
namespace Go.Proofs.YtpamchagidnijaaGreatDoor
open Go.RowKit

def putF (t : PS) (op a b : Int) : PS := { t with code := t.code ++ [⟨op, a, b⟩] }
def pushF (t : PS) (k : Int) : PS := { t with stack := t.stack ++ [k] }
def takeF (t : PS) : PS := { t with stack := t.stack.dropLast }
def wantF (t : PS) (k : Int) : PS :=
  if topHeight t = t.stack.length then { t with code := t.code ++ [⟨192 - k, 7, 0⟩], stack := t.stack ++ [k] }
  else if t.stack.getLast? = some k then t
  else { t with code := t.code ++ [⟨if k = 127 then 167 else 173, 0, 0⟩], stack := t.stack.dropLast ++ [k] }
def opensF (t : PS) (op r : Int) : PS := { t with code := t.code ++ [⟨op, r, 0⟩], opens := t.opens ++ [⟨op, r, t.stack.length⟩] }
def reps (n : Nat) (c : List PI) : List PI := (List.replicate n c).flatten
theorem reps_zero (c : List PI) : reps 0 c = [] := rfl
theorem reps_snoc (n : Nat) (c : List PI) : reps (n + 1) c = reps n c ++ c := by
  unfold reps
  rw [List.replicate_succ', List.flatten_append]
  simp
def levelF (t : PS) (r : Int) (m : Nat) : PS :=
  if r = 64 then { t with code := t.code ++ reps (t.stack.length - m) [⟨26, 0, 0⟩], stack := t.stack.take m }
  else { t with code := (wantF t r).code ++ reps ((wantF t r).stack.length - (m + 1)) [⟨33, 129 - r, 0⟩, ⟨26, 0, 0⟩, ⟨32, 129 - r, 0⟩], stack := t.stack.take m }
def shutF (t : PS) : PS := match t.opens.getLast? with
  | none => t
  | some o => { t with code := (levelF t o.result o.height).code ++ [⟨11, 0, 0⟩], stack := t.stack.take o.height ++ (if o.result = 64 then [] else [o.result]), opens := t.opens.dropLast }
def elseF (t : PS) (o : PO) : PS := { t with code := (levelF t o.result o.height).code ++ [⟨5, 0, 0⟩], stack := t.stack.take o.height, opens := t.opens.dropLast ++ [⟨5, o.result, o.height⟩] }
def jumpsF (t : PS) (n : Nat) : PS := match t.opens[t.opens.length - 1 - n % t.opens.length]? with
  | none => t
  | some o => if o.result ≠ 64 ∧ o.op ≠ 3 then t else takeF (putF (wantF t 127) 13 (n % t.opens.length : Nat) 0)
def doesF (s : PS) (kind op a b : Int) : PS :=
  if kind % 16 = 0 ∨ kind % 16 = 1 then (if op % 2 = 0 then pushF (putF s 66 a 0) 126 else pushF (putF s 65 (wrap64 (wrap32 a)) 0) 127)
  else if kind % 16 = 2 ∨ kind % 16 = 3 then (if op % 2 = 0 then putF (putF (wantF s 126) 32 0 0) (124 + op / 2 % 15) 0 0 else putF (putF (wantF s 127) 32 1 0) (106 + op / 2 % 15) 0 0)
  else if kind % 16 = 4 then (if op % 2 = 0 then pushF (takeF (putF (wantF s 126) 80 0 0)) 127 else pushF (takeF (putF (wantF s 127) 69 0 0)) 127)
  else if kind % 16 = 5 then (if op % 4 = 0 then pushF (putF s 32 0 0) 126 else if op % 4 = 1 then pushF (putF s 32 1 0) 127 else if op % 4 = 2 then pushF (putF s 32 2 0) 127 else pushF (putF s 32 3 0) 126)
  else if kind % 16 = 6 then (if op % 4 = 0 then takeF (putF (wantF s 126) 33 0 0) else if op % 4 = 1 then takeF (putF (wantF s 127) 33 1 0) else if op % 4 = 2 then takeF (putF (wantF s 127) 33 2 0) else takeF (putF (wantF s 126) 33 3 0))
  else if kind % 16 = 7 then (if op % 4 = 0 then putF (wantF s 126) 34 0 0 else if op % 4 = 1 then putF (wantF s 127) 34 1 0 else if op % 4 = 2 then putF (wantF s 127) 34 2 0 else putF (wantF s 126) 34 3 0)
  else if kind % 16 = 8 then (if op % 2 = 0 then takeF (putF (wantF (pushF (putF s 35 0 0) 127) 126) 36 1 0) else takeF (putF (wantF (pushF (putF s 35 1 0) 126) 126) 36 1 0))
  else if kind % 16 = 9 then putF (wantF s 127) 40 (op % 3) (bits .and .i64 b 131071)
  else if kind % 16 = 10 then takeF (putF (putF (wantF s 127) 32 0 0) (60 + op % 3) 0 (bits .and .i64 b 131071))
  else if kind % 16 = 11 then opensF s (2 + op % 2) (if op / 2 % 3 = 0 then 64 else if op / 2 % 3 = 1 then 127 else 126)
  else if kind % 16 = 12 then opensF (takeF (wantF s 127)) 4 64
  else if kind % 16 = 13 then (match s.opens.getLast? with
    | none => s
    | some o => if o.op = 4 ∧ op % 2 = 0 then elseF s o else shutF s)
  else if kind % 16 = 14 then jumpsF s op.toNat
  else (if op % 3 = 0 then pushF (putF s 63 0 0) 127 else if op % 3 = 1 then putF s 1 0 0 else putF (pushF (putF s 63 0 0) 127) 64 0 0)
def shuts : Nat → PS → PS
  | 0, s => s
  | n + 1, s => shuts n (shutF s)
theorem shuts_snoc : ∀ (n : Nat) (s : PS), shuts (n + 1) s = shutF (shuts n s)
  | 0, s => rfl
  | n + 1, s => by show shuts (n + 1) (shutF s) = _; rw [shuts_snoc n (shutF s)]; rfl
end Go.Proofs.YtpamchagidnijaaGreatDoor
