/-
  'append' of one byte onto a slice that the call itself made (nil at first), and its bytes as a string. Laws on memory; no program is looked at.
-/
import Derived.Test.YtpamchagidnijaaGreatDoorLebRow
namespace Go.Proofs.YtpamchagidnijaaGreatDoor
open Go.RowKit

section
variable {P : Program}

def Own (w : World) (B e : Nat) (v : Value) (d : List UInt8) : Prop := w.ownsRow B e 1 v d.length (d.map fun b => Value.int .u8 (b.toNat : Int))

theorem Own.nil (w : World) (B e : Nat) : Own w B e (.slice none 0 0) [] := World.ownsRow_nil w B e 1
theorem Own.alloc {w : World} {B e : Nat} {v : Value} {d : List UInt8} (h : Own w B e v d) (o : Obj) : Own (w.alloc o) B e v d := World.ownsRow.alloc h o
theorem Own.ge {w : World} {B e : Nat} {v : Value} {d : List UInt8} (h : Own w B e v d) : ∀ k, v.ownBlock = some k → B ≤ k := fun k hk => (World.ownsRow.lt h k hk).1

theorem own_string (w : World) (src dst e B e' : TypeId) (v : Value) (d : List UInt8) (hs : P.underlying src = some (.slice e)) (he : P.underlying e = some (.int .u8)) (hd : P.underlying dst = some .string) (h : Own w B e' v d) :
    (convert src dst v).run P w = .ok (.string ⟨d.toArray⟩) w := by
  rcases h.2 with ⟨rfl, hn⟩ | ⟨g, cap, cur, rfl, hb, hg, rest⟩
  · obtain rfl : d = [] := List.eq_nil_of_length_eq_zero hn
    rw [run_convert_bytes_string w src dst e none 0 0 hs he hd]; rfl
  · refine run_convert_bytes_back w src dst e ⟨g, 0, none⟩ cap d hs he hd fun j hj => ?_
    exact World.ownsRow.cells h (g := g) rfl j _ (by simp [hj])

theorem wpList_append_byte (w : World) {ops : Array Oper} {rest : List Oper} {o : Oper} {a : Act} {Q : Exit → Act → World → Prop}
    (hg : o.guard = none) (s x : Operand) (t : TypeId) (hop : o.op = Op.call { callee := Callee.builtin Builtin.append, args := #[s, x], argTypes := #[t, t] })
    (e : TypeId) (i : TypeInfo) (h1 : P.underlying t = some (.slice e)) (h2 : P.info? e = some i) (h3 : i.zero = some (.int .u8 0)) (h4 : i.size = 1) (h5 : i.bytes = 1)
    (B : Nat) (v : Value) (d : List UInt8) (hs : a.eval s = v) (hown : Own w B e v d) (ad : Addr) (c : Nat) (b : UInt8) (hx : a.eval x = .slice (some ad) 1 c)
    (hc : w.cell? ad = some (.int .u8 (b.toNat : Int))) (hlen : d.length + 1 ≤ 1000000) (hB : B ≤ w.heap.size)
    (hK : ∀ v' w', Own w' B e v' (d ++ [b]) → w.grownBy w' v.ownBlock → wpList P ops Q rest (a.put o.dst v') w') :
    wpList P ops Q (o :: rest) a w := by
  refine wpList_plain hg fun K hK' => ?_
  obtain ⟨v', w', hrun, r1, r2, _⟩ := run_append_own (P := P) w B t o.type e i (.int .u8 0) 1 1 h1 h2 h3 h4 h5 rfl (by decide) v d.length _ hown ad 1 c [.int .u8 (b.toNat : Int)] rfl (by
    intro j u hj
    match j, hj with
    | 0, hj => simp at hj; subst hj; simpa [Addr.add] using hc) (by intro u hu; simp at hu; subst hu; rfl) (by unfold maxLen; omega) (by omega) hB
  unfold Oper.wp
  simp [execOp, hop, resolve, invoke, builtin, hs, hx, hrun, Result.andThen]
  exact hK' _ _ (hK v' w' (by unfold Own; simpa using r1) r2)
end
end Go.Proofs.YtpamchagidnijaaGreatDoor
