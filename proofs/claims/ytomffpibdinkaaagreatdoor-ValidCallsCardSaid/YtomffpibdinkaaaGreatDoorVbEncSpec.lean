/-
  Facts and contracts that the proof calls.
-/
import Derived.Test.YtomffpibdinkaaaGreatDoorVbOpRefRows
import Derived.Test.YtomffpibdinkaaaGreatDoorVbLebEnc
namespace Go.Proofs.YtomffpibdinkaaaGreatDoor
set_option maxRecDepth 100000
set_option maxHeartbeats 16000000
end Go.Proofs.YtomffpibdinkaaaGreatDoor
namespace Go.Proofs.YtomffpibdinkaaaGreatDoor
set_option maxRecDepth 100000
set_option maxHeartbeats 16000000
def Cap (b f : List UInt8) : Prop := b = f ∨ (1048576 < b.length ∧ 1048576 < f.length)
theorem Cap.refl (b : List UInt8) : Cap b b := .inl rfl
structure FrV where
  code : Int
  result : List UInt8
  height : Nat
  dead : Bool
structure VS where
  stack : List UInt8
  opens : List FrV
  wrong : Bool
structure VC where
  m : MoV
  locals : List UInt8
  whole : List UInt8
def VS.ask (s : VS) (so : Bool) : VS := { s with wrong := s.wrong || !so }
def VS.inner (s : VS) : FrV := s.opens.headD ⟨2, [], 0, false⟩
def VS.put (s : VS) (l : List UInt8) : VS := { s with stack := l.reverse ++ s.stack }
def VS.takeAny (s : VS) : UInt8 × VS :=
  if s.stack.length ≤ s.inner.height then (0, s.ask s.inner.dead) else (s.stack.headD 0, { s with stack := s.stack.tail })
def VS.endless (s : VS) : Bool := s.inner.dead && decide (s.stack.length = s.inner.height)
def takeL : List UInt8 → VS → VS
  | [], s => s
  | k :: l, s => if s.endless then s else takeL l ((s.takeAny.2).ask (s.takeAny.1 == k || s.takeAny.1 == 0))
def VS.take (s : VS) (l : List UInt8) : VS := takeL l.reverse s
def VS.kill (s : VS) : VS := match s.opens with
  | [] => s
  | b :: o => { s with stack := s.stack.drop (s.stack.length - b.height), opens := { b with dead := true } :: o }
def answer7 (n : Int) : List UInt8 := if n = 127 then [127] else if n = 126 then [126] else []
def VS.enter (s : VS) (code a : Int) : VS := { s with opens := ⟨code, answer7 a, s.stack.length, false⟩ :: s.opens }
def VS.leave (s : VS) : VS := { ((s.take s.inner.result).ask (decide ((s.take s.inner.result).stack.length = s.inner.height))) with opens := s.opens.tail }
def VS.label (s : VS) (n : Int) : List UInt8 × VS :=
  if 0 ≤ n ∧ n < s.opens.length then match s.opens[n.toNat]? with
    | some b => (if b.code = 3 then [] else b.result, s)
    | none => ([], s.ask false)
  else ([], s.ask false)
def local7 (c : VC) (s : VS) (n : Int) : List UInt8 × VS :=
  if 0 ≤ n ∧ n < c.locals.length then (c.locals[n.toNat]?.toList, s) else ([], s.ask false)
def global7 (c : VC) (s : VS) (n : Int) : List UInt8 × Bool × VS :=
  if 0 ≤ n ∧ n < c.m.globals.length then match c.m.globals[n.toNat]? with
    | some g => (answer7 g.type, g.may, s)
    | none => ([], false, s.ask false)
  else ([], false, s.ask false)
def typeOf7 (m : MoV) (n : Int) : Option TyV :=
  if 0 ≤ n ∧ n < m.funcs.length then match m.funcs[n.toNat]? with
    | some f => if 0 ≤ f.type ∧ f.type < m.types.length then m.types[f.type.toNat]? else none
    | none => none
  else none
def power7 (c : Int) : Int :=
  if c = 0x2e ∨ c = 0x2f ∨ c = 0x32 ∨ c = 0x33 ∨ c = 0x3b ∨ c = 0x3d then 1
  else if c = 0x28 ∨ c = 0x34 ∨ c = 0x35 ∨ c = 0x36 ∨ c = 0x3e then 2
  else if c = 0x29 ∨ c = 0x37 then 3 else 0
def vstep (c : VC) (x : InsV) (s : VS) : VS :=
  if x.op = 0 then s.kill
  else if x.op = 2 ∨ x.op = 3 then s.enter x.op x.a
  else if x.op = 4 then (s.take [127]).enter x.op x.a
  else if x.op = 5 then { s.leave with opens := ⟨5, s.inner.result, s.inner.height, false⟩ :: s.leave.opens }
  else if x.op = 11 then (s.leave.ask (s.inner.code != 4 || s.inner.result.isEmpty)).put s.inner.result
  else if x.op = 12 then ((s.label x.a).2.take (s.label x.a).1).kill
  else if x.op = 13 then
    let s1 := s.take [127]
    ((s1.label x.a).2.take (s1.label x.a).1).put (s1.label x.a).1
  else if x.op = 14 then
    let s1 := s.take [127]
    let k := (s1.label x.a).1
    ((x.ls.foldl (fun t n => (t.label n).2.ask ((t.label n).1 == k)) (s1.label x.a).2).take k).kill
  else if x.op = 15 then (s.take c.whole).kill
  else if x.op = 16 then match typeOf7 c.m x.a with
    | some t => ((s.take t.params.data.toList)).put t.results.data.toList
    | none => s.ask false
  else if x.op = 26 then s.takeAny.2
  else if x.op = 27 then
    let s1 := s.take [127]
    let a := s1.takeAny
    let b := a.2.takeAny
    (b.2.ask (a.1 == b.1 || a.1 == 0 || b.1 == 0)).put [max a.1 b.1]
  else if x.op = 32 then (local7 c s x.a).2.put (local7 c s x.a).1
  else if x.op = 33 then (local7 c s x.a).2.take (local7 c s x.a).1
  else if x.op = 34 then
    let s1 := (local7 c s x.a).2.take (local7 c s x.a).1
    (local7 c s1 x.a).2.put (local7 c s1 x.a).1
  else if x.op = 35 then (global7 c s x.a).2.2.put (global7 c s x.a).1
  else if x.op = 36 then ((global7 c s x.a).2.2.ask (global7 c s x.a).2.1).take (global7 c s x.a).1
  else match byCode x.op with
    | some r =>
      let s1 := if r.shape = 5 ∨ r.shape = 6 then s.ask (decide (0 < c.m.memory.length) && decide (x.a ≤ power7 x.op)) else s
      (s1.take r.params.data.toList).put r.results.data.toList
    | none => s
def vrun (c : VC) : List InsV → VS → VS
  | [], s => s
  | x :: l, s => if (vstep c x s).wrong then vstep c x s else vrun c l (vstep c x s)
def validFn (m : MoV) (f : FnV) : Bool :=
  if 0 ≤ f.type ∧ f.type < m.types.length then match m.types[f.type.toNat]? with
    | some t => !(vrun ⟨m, t.params.data.toList ++ f.locals.data.toList, t.results.data.toList⟩ f.code ⟨[], [⟨2, t.results.data.toList, 0, false⟩], false⟩).wrong
    | none => false
  else false
def nest7 : List Int → Int → Int → Int
  | [], _, g => g
  | op :: l, c, g => if op = 2 ∨ op = 3 ∨ op = 4 then nest7 l (c + 1) (max g (c + 1)) else if op = 11 then nest7 l (c - 1) g else nest7 l c g
end Go.Proofs.YtomffpibdinkaaaGreatDoor
