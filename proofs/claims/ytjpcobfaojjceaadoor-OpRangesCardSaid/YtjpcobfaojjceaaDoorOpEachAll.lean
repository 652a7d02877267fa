/-
  Package op hands all its lists over: walked once for every taker. No statement is proved here.
-/
import Derived.Test.YtjpcobfaojjceaaDoorOpEach
namespace Go.Proofs.YtjpcobfaojjceaaDoor
open Go.Shelf Go.RowKit Go.Lib

set_option maxRecDepth 100000 in
set_option maxHeartbeats 4000000 in
theorem each_takes {σ : Type} {g : Nat} {lb : Array Value} {Inv : σ → World → Prop} {step : σ → Ls → σ} (h : Takes g lb Inv step) (eg : ∀ args w, (callFunc g args).run Tryd.prog w = .ok (.enter g args) w) (s : σ) (w : World) (hI : Inv s w) :
    Calls Tryd.prog 20 #[.func (.func g) #[] lb] w fun e w' => e = .returned (.tuple #[]) ∧ Inv (allL.foldl step s) w' := by
  have hc := fun first name shape params results ends hx s w hI => h.at first name shape params results ends hx s w hI
  have c1 := flow_takes h eg
  have c2 := memory_takes h eg
  have c3 := numbers32_takes h eg
  have c4 := numbers64_takes h eg
  clear h
  simp only [allL, List.foldl_append]
  generalize flowL.foldl step = F at c1
  generalize memL.foldl step = M at c2
  simp only [constL, endL, List.foldl_cons, List.foldl_nil]
  go_enter Tryd.func20, Tryd.ntmps20
  go_wp2_with (first
    | (go_at_call 33; (with_reducible refine (c1 _ _ hI).mono ?_); clear hI; rintro e w1 ⟨rfl, hI⟩)
    | (go_at_call 34; (with_reducible refine (c2 _ _ hI).mono ?_); clear hI; rintro e w1 ⟨rfl, hI⟩)
    | (go_at_call 35; (with_reducible refine (c3 _ _ hI).mono ?_); clear hI; rintro e w1 ⟨rfl, hI⟩)
    | (go_at_call 35; (with_reducible refine (c4 _ _ hI).mono ?_); clear hI; rintro e w1 ⟨rfl, hI⟩)
    | (go_at_fn g; refine (hc _ _ _ _ _ _ (by decide +kernel) _ _ hI).mono ?_; clear hI; rintro e w1 ⟨rfl, hI⟩))
  go_end0
  exact ⟨rfl, hI⟩
end Go.Proofs.YtjpcobfaojjceaaDoor
