/-
  Package op hands its lists over, one by one, to whatever takes them: walked once for every taker. Contracts that the proofs call; no statement is proved here.
-/
import Derived.Test.YtjpcobfaojjceaaDoorOpShelf
namespace Go.Proofs.YtjpcobfaojjceaaDoor
open Go.Shelf Go.RowKit Go.Lib

/-- A function that takes a list: what it keeps of the world is 'Inv'; 'step' is what it makes of a list. -/
def Takes {σ : Type} (g : Nat) (lb : Array Value) (Inv : σ → World → Prop) (step : σ → Ls → σ) : Prop :=
  ∀ (t : Ls) (s : σ) (w : World), t.ends.size ≤ 60 → t.name.size ≤ 10 → 0 ≤ t.first → t.first ≤ 172 → t.parts.length ≤ 8 → t.ends.data.toList.all (fun b => decide (b.toNat < 128)) = true → Inv s w →
    Calls Tryd.prog g (#[.int .i64 t.first, .agg #[.string t.name, .int .i64 t.shape, .string t.params, .string t.results], .string t.ends] ++ lb) w fun e w' => e = .returned (.tuple #[]) ∧ Inv (step s t) w'

theorem Takes.at {σ : Type} {g : Nat} {lb : Array Value} {Inv : σ → World → Prop} {step : σ → Ls → σ} (h : Takes g lb Inv step) (first : Int) (name : ByteArray) (shape : Int) (params results ends : ByteArray)
    (hc : ends.size ≤ 60 ∧ name.size ≤ 10 ∧ 0 ≤ first ∧ first ≤ 172 ∧ (Ls.mk first name shape params results ends).parts.length ≤ 8 ∧ ends.data.toList.all (fun b => decide (b.toNat < 128)) = true) (s : σ) (w : World) (hI : Inv s w) :
    Calls Tryd.prog g (#[.int .i64 first, .agg #[.string name, .int .i64 shape, .string params, .string results], .string ends] ++ lb) w fun e w' => e = .returned (.tuple #[]) ∧ Inv (step s ⟨first, name, shape, params, results, ends⟩) w' :=
  h ⟨first, name, shape, params, results, ends⟩ s w hc.1 hc.2.1 hc.2.2.1 hc.2.2.2.1 hc.2.2.2.2.1 hc.2.2.2.2.2 hI

set_option maxRecDepth 100000 in
set_option maxHeartbeats 4000000 in
theorem flow_takes {σ : Type} {g : Nat} {lb : Array Value} {Inv : σ → World → Prop} {step : σ → Ls → σ} (h : Takes g lb Inv step) (eg : ∀ args w, (callFunc g args).run Tryd.prog w = .ok (.enter g args) w) (s : σ) (w : World) (hI : Inv s w) :
    Calls Tryd.prog 33 #[.func (.func g) #[] lb] w fun e w' => e = .returned (.tuple #[]) ∧ Inv (flowL.foldl step s) w' := by
  have hc := fun first name shape params results ends hx s w hI => h.at first name shape params results ends hx s w hI
  clear h
  simp only [flowL, List.foldl_cons, List.foldl_nil]
  go_enter Tryd.func33, Tryd.ntmps33
  go_wp2_with (go_at_fn g; refine (hc _ _ _ _ _ _ (by decide +kernel) _ _ hI).mono ?_; clear hI; rintro e w1 ⟨rfl, hI⟩)
  go_end0
  exact ⟨rfl, hI⟩

set_option maxRecDepth 100000 in
set_option maxHeartbeats 4000000 in
theorem memory_takes {σ : Type} {g : Nat} {lb : Array Value} {Inv : σ → World → Prop} {step : σ → Ls → σ} (h : Takes g lb Inv step) (eg : ∀ args w, (callFunc g args).run Tryd.prog w = .ok (.enter g args) w) (s : σ) (w : World) (hI : Inv s w) :
    Calls Tryd.prog 34 #[.func (.func g) #[] lb] w fun e w' => e = .returned (.tuple #[]) ∧ Inv (memL.foldl step s) w' := by
  have hc := fun first name shape params results ends hx s w hI => h.at first name shape params results ends hx s w hI
  clear h
  simp only [memL, List.foldl_cons, List.foldl_nil]
  go_enter Tryd.func34, Tryd.ntmps34
  go_wp2_with (go_at_fn g; refine (hc _ _ _ _ _ _ (by decide +kernel) _ _ hI).mono ?_; clear hI; rintro e w1 ⟨rfl, hI⟩)
  go_end0
  exact ⟨rfl, hI⟩

set_option maxRecDepth 100000 in
set_option maxHeartbeats 4000000 in
theorem numbers32_takes {σ : Type} {g : Nat} {lb : Array Value} {Inv : σ → World → Prop} {step : σ → Ls → σ} (h : Takes g lb Inv step) (eg : ∀ args w, (callFunc g args).run Tryd.prog w = .ok (.enter g args) w) (s : σ) (w : World) (hI : Inv s w) :
    Calls Tryd.prog 35 #[.func (.func g) #[] lb, .string ⟨#[105, 51, 50, 46]⟩, .string ⟨#[127, 127]⟩, .int .i64 69, .int .i64 103] w fun e w' => e = .returned (.tuple #[]) ∧ Inv ((numL ⟨#[105, 51, 50, 46]⟩ ⟨#[127]⟩ ⟨#[127, 127]⟩ 69 103).foldl step s) w' := by
  have hc := fun first name shape params results ends hx s w hI => h.at first name shape params results ends hx s w hI
  clear h
  simp only [numL, List.foldl_cons, List.foldl_nil, Int.reduceAdd]
  go_enter Tryd.func35, Tryd.ntmps35
  go_wp2_with (go_at_fn g; refine (hc _ _ _ _ _ _ (by decide +kernel) _ _ hI).mono ?_; clear hI; rintro e w1 ⟨rfl, hI⟩)
  go_end0
  exact ⟨rfl, hI⟩

set_option maxRecDepth 100000 in
set_option maxHeartbeats 4000000 in
theorem numbers64_takes {σ : Type} {g : Nat} {lb : Array Value} {Inv : σ → World → Prop} {step : σ → Ls → σ} (h : Takes g lb Inv step) (eg : ∀ args w, (callFunc g args).run Tryd.prog w = .ok (.enter g args) w) (s : σ) (w : World) (hI : Inv s w) :
    Calls Tryd.prog 35 #[.func (.func g) #[] lb, .string ⟨#[105, 54, 52, 46]⟩, .string ⟨#[126, 126]⟩, .int .i64 80, .int .i64 121] w fun e w' => e = .returned (.tuple #[]) ∧ Inv ((numL ⟨#[105, 54, 52, 46]⟩ ⟨#[126]⟩ ⟨#[126, 126]⟩ 80 121).foldl step s) w' := by
  have hc := fun first name shape params results ends hx s w hI => h.at first name shape params results ends hx s w hI
  clear h
  simp only [numL, List.foldl_cons, List.foldl_nil, Int.reduceAdd]
  go_enter Tryd.func35, Tryd.ntmps35
  go_wp2_with (go_at_fn g; refine (hc _ _ _ _ _ _ (by decide +kernel) _ _ hI).mono ?_; clear hI; rintro e w1 ⟨rfl, hI⟩)
  go_end0
  exact ⟨rfl, hI⟩
end Go.Proofs.YtjpcobfaojjceaaDoor
